/-
  What the laws' last steps share: ballots and acceptors that came in.
-/
import Derived.Test.YtpopamechapmmaaZA3
import Derived.ProofKit
import Derived.OpenShut
import Derived.ShutString
import Derived.ChangeOld
import Derived.SizedLaws
import Derived.Deep.Slices
import Derived.Deep.Strs
namespace Go.Proofs.Ytpopamechapmmaa
open Go.ChangeShapes Go.WideShapes Go.ChangeAt Go.RowKit Go.Deep

theorem own : ownKnob Try.prog.godebug = none := by kernel_rfl
theorem laidOut : laidOutB Try.prog = true := by kernel_rfl
theorem cellsBal : Try.prog.cellsOf 23 = 2 := by kernel_rfl
theorem cellsAcc : Try.prog.cellsOf 25 = 5 := by kernel_rfl
theorem cellsInt : Try.prog.cellsOf 3 = 1 := by kernel_rfl
theorem cellsString : Try.prog.cellsOf 9 = 1 := by kernel_rfl
theorem two_of {α : Type} (l : List α) (h : l.length = 2) : ∃ a b, l = [a, b] := by
  match l, h with
  | [a, b], _ => exact ⟨a, b, rfl⟩
theorem three_of {α : Type} (l : List α) (h : l.length = 3) : ∃ a b c, l = [a, b, c] := by
  match l, h with
  | [a, b, c], _ => exact ⟨a, b, c, rfl⟩
theorem five_of {α : Type} (l : List α) (h : l.length = 5) : ∃ a b c d e, l = [a, b, c, d, e] := by
  match l, h with
  | [a, b, c, d, e], _ => exact ⟨a, b, c, d, e, rfl⟩
/-- A ballot, read. -/
theorem bal_open {H : Type} {enc : TypeId × Value → H} {W : World} {n : Nat} {cs : List Value} {x : DataW H × List MemPlace} (h : DataW.trod enc Try.prog W 0 (fun _ => true) true n 23 cs = some x) :
    ∃ o : BL, cs = [.int .i64 o.r, .int .i64 o.n] := by
  obtain ⟨xs, m, _, _, hl, hlen, hf⟩ := DataW.trod_struct Try.underlying23 h
  rw [cellsBal] at hl
  obtain ⟨v0, v1, rfl⟩ := two_of cs hl
  obtain ⟨x0, x1, rfl⟩ := two_of xs hlen
  have h0 : DataW.trod enc Try.prog W 0 (fun _ => true) true m 3 [v0] = some x0 := by
    have h : DataW.trod enc Try.prog W 0 (fun _ => true) true m 3 (([v0, v1].drop 0).take (Try.prog.cellsOf 3)) = some x0 := hf 0 _ rfl
    rw [cellsInt] at h
    exact h
  have h1 : DataW.trod enc Try.prog W 0 (fun _ => true) true m 3 [v1] = some x1 := by
    have h : DataW.trod enc Try.prog W 0 (fun _ => true) true m 3 (([v0, v1].drop 1).take (Try.prog.cellsOf 3)) = some x1 := hf 1 _ rfl
    rw [cellsInt] at h
    exact h
  obtain ⟨a0, e0, _, w0⟩ := DataW.trod_int Try.underlying3 h0
  obtain ⟨a1, e1, _, w1⟩ := DataW.trod_int Try.underlying3 h1
  cases e0
  cases e1
  exact ⟨⟨a0, a1⟩, rfl⟩
/-- An acceptor, read. -/
theorem acc_open {H : Type} {enc : TypeId × Value → H} {W : World} {n : Nat} {cs : List Value} {x : DataW H × List MemPlace} (h : DataW.trod enc Try.prog W 0 (fun _ => true) true n 25 cs = some x) (hw : ∀ k ∈ x.1.weights Try.prog 25, k ≤ reachBytes) :
    ∃ o : AC, o.v.size ≤ 140737488351232 ∧ cs = [.int .i64 o.p.r, .int .i64 o.p.n, .int .i64 o.t.r, .int .i64 o.t.n, .string o.v] := by
  obtain ⟨xs, m, _, hx, hl, hlen, hf⟩ := DataW.trod_struct Try.underlying25 h
  rw [cellsAcc] at hl
  obtain ⟨v0, v1, v2, v3, v4, rfl⟩ := five_of cs hl
  obtain ⟨x0, x1, x2, rfl⟩ := three_of xs hlen
  have h0 : DataW.trod enc Try.prog W 0 (fun _ => true) true m 23 [v0, v1] = some x0 := by
    have h : DataW.trod enc Try.prog W 0 (fun _ => true) true m 23 (([v0, v1, v2, v3, v4].drop 0).take (Try.prog.cellsOf 23)) = some x0 := hf 0 _ rfl
    rw [cellsBal] at h
    exact h
  have h1 : DataW.trod enc Try.prog W 0 (fun _ => true) true m 23 [v2, v3] = some x1 := by
    have h : DataW.trod enc Try.prog W 0 (fun _ => true) true m 23 (([v0, v1, v2, v3, v4].drop 2).take (Try.prog.cellsOf 23)) = some x1 := hf 1 _ rfl
    rw [cellsBal] at h
    exact h
  have h2 : DataW.trod enc Try.prog W 0 (fun _ => true) true m 9 [v4] = some x2 := by
    have h : DataW.trod enc Try.prog W 0 (fun _ => true) true m 9 (([v0, v1, v2, v3, v4].drop 4).take (Try.prog.cellsOf 9)) = some x2 := hf 2 _ rfl
    rw [cellsString] at h
    exact h
  obtain ⟨p, ep⟩ := bal_open h0
  obtain ⟨t, et⟩ := bal_open h1
  obtain ⟨s, e4, d4, _⟩ := DataW.trod_string Try.underlying9 h2
  have hs : s.size ≤ 140737488351232 := by
    have hk := hw s.data.toList.length (by
      rw [hx]
      show _ ∈ DataW.weights Try.prog 25 (.agg [x0.1, x1.1, x2.1])
      unfold DataW.weights
      rw [Try.underlying25]
      refine DataW.weights_mem_each (j := 2) (t := 9) (d := x2.1) rfl rfl _ ?_
      rw [d4]
      simp [DataW.weights])
    rw [show s.data.toList.length = s.size by simp] at hk
    simp only [reachBytes] at hk
    omega
  cases e4
  cases ep
  cases et
  exact ⟨⟨p, t, s⟩, hs, rfl⟩
set_option maxRecDepth 100000 in
theorem bal_param {H : Type} {enc : TypeId × Value → H} {W : World} {r : Reach} {b0 : Nat} {v : Value} {d : DataW H} {p : List MemPlace} (hv : Value.okWide Try.prog W r b0 23 v) (h : DataW.Trod enc Try.prog W 0 (fun _ => true) true 23 v d p) :
    ∃ x : BL, v = x.v := by
  obtain ⟨cs, rfl, _⟩ := okWide_struct Try.underlying23 hv
  obtain ⟨fuel, hf⟩ := h
  obtain ⟨x, e⟩ := bal_open hf
  refine ⟨x, ?_⟩
  simp only [Value.cells] at e
  exact congrArg Value.agg (by cases cs; simp_all)
set_option maxRecDepth 100000 in
theorem acc_param {H : Type} {enc : TypeId × Value → H} {W : World} {r : Reach} {b0 : Nat} {v : Value} {d : DataW H} {p : List MemPlace} (hv : Value.okWide Try.prog W r b0 25 v) (h : DataW.Trod enc Try.prog W 0 (fun _ => true) true 25 v d p) {ts : List TypeId} {ds : List (DataW H)} {j : Nat} (hsz : (DataW.weightsEach Try.prog ts ds).all (· ≤ reachBytes) = true) (ht : ts[j]? = some 25) (hd : ds[j]? = some d) :
    ∃ x : AC, v = x.d ∧ x.v.size ≤ 140737488351232 := by
  obtain ⟨cs, rfl, _⟩ := okWide_struct Try.underlying25 hv
  obtain ⟨fuel, hf⟩ := h
  obtain ⟨x, hx, e⟩ := acc_open hf (fun k hk => of_decide_eq_true (List.all_eq_true.1 hsz k (DataW.weights_mem_each (P := Try.prog) ht hd k hk)))
  refine ⟨x, ?_, hx⟩
  simp only [Value.cells] at e
  exact congrArg Value.agg (by cases cs; simp_all)
end Go.Proofs.Ytpopamechapmmaa
