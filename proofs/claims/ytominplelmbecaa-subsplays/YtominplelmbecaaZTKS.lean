/-
  A subscription that came in (mklaw.py's kit).
-/
import Derived.Test.YtominplelmbecaaZTKD
import Derived.Test.YtominplelmbecaaZSA
namespace Go.Proofs.Ytominplelmbecaa.Y
open Go.ChangeShapes Go.WideShapes Go.ChangeAt Go.RowKit Go.Deep Go.Maps

set_option linter.unusedVariables false
theorem cellsString : Try.prog.cellsOf 9 = 1 := by kernel_rfl
theorem cellsSub : Try.prog.cellsOf 23 = 4 := by kernel_rfl
theorem of4 {α : Type} (l : List α) (h : l.length = 4) : ∃ y0 y1 y2 y3, l = [y0, y1, y2, y3] := by
  match l, h with
  | [y0, y1, y2, y3], _ => exact ⟨y0, y1, y2, y3, rfl⟩
theorem weights_of {H : Type} {d : DataW H} {t : TypeId} {ts : List TypeId} {ds : List (DataW H)} {j : Nat} (hsz : (DataW.weightsEach Try.prog ts ds).all (· ≤ reachBytes) = true) (ht : ts[j]? = some t) (hd : ds[j]? = some d) : ∀ k ∈ d.weights Try.prog t, k ≤ reachBytes :=
  fun k hk => of_decide_eq_true (List.all_eq_true.1 hsz k (DataW.weights_mem_each (P := Try.prog) ht hd k hk))
theorem sub_open {H : Type} {enc : TypeId × Value → H} {W : World} {n : Nat} {cs : List Value} {x : DataW H × List MemPlace} (h : DataW.trod enc Try.prog W 0 (fun _ => true) true n 23 cs = some x) (hw : ∀ k ∈ x.1.weights Try.prog 23, k ≤ reachBytes) :
    ∃ S : SB, S.ok ∧ cs = [.string S.name, .string S.top, .int .i64 S.cur, .int .i64 S.next] := by
  obtain ⟨xs, m, _, hx, hl, hlen, hf⟩ := DataW.trod_struct Try.underlying23 h
  rw [cellsSub] at hl
  obtain ⟨v0, v1, v2, v3, rfl⟩ := of4 cs hl
  obtain ⟨x0, x1, x2, x3, rfl⟩ := of4 xs hlen
  have h0 : DataW.trod enc Try.prog W 0 (fun _ => true) true m 9 [v0] = some x0 := by
    have h : DataW.trod enc Try.prog W 0 (fun _ => true) true m 9 (([v0, v1, v2, v3].drop 0).take (Try.prog.cellsOf 9)) = some x0 := hf 0 _ rfl
    rw [cellsString] at h
    exact h
  have h1 : DataW.trod enc Try.prog W 0 (fun _ => true) true m 9 [v1] = some x1 := by
    have h : DataW.trod enc Try.prog W 0 (fun _ => true) true m 9 (([v0, v1, v2, v3].drop 1).take (Try.prog.cellsOf 9)) = some x1 := hf 1 _ rfl
    rw [cellsString] at h
    exact h
  have h2 : DataW.trod enc Try.prog W 0 (fun _ => true) true m 3 [v2] = some x2 := by
    have h : DataW.trod enc Try.prog W 0 (fun _ => true) true m 3 (([v0, v1, v2, v3].drop 2).take (Try.prog.cellsOf 3)) = some x2 := hf 2 _ rfl
    rw [cellsInt] at h
    exact h
  have h3 : DataW.trod enc Try.prog W 0 (fun _ => true) true m 3 [v3] = some x3 := by
    have h : DataW.trod enc Try.prog W 0 (fun _ => true) true m 3 (([v0, v1, v2, v3].drop 3).take (Try.prog.cellsOf 3)) = some x3 := hf 3 _ rfl
    rw [cellsInt] at h
    exact h
  obtain ⟨a0, e0, d0, _⟩ := DataW.trod_string Try.underlying9 h0
  have z0 : a0.size ≤ 140737488351232 := by
    have hk := hw a0.data.toList.length (by
      rw [hx]
      show _ ∈ DataW.weights Try.prog 23 (.agg [x0.1, x1.1, x2.1, x3.1])
      unfold DataW.weights
      rw [Try.underlying23]
      refine DataW.weights_mem_each (j := 0) (t := 9) (d := x0.1) rfl rfl _ ?_
      rw [d0]
      simp [DataW.weights])
    rw [show a0.data.toList.length = a0.size by simp] at hk
    simp only [reachBytes] at hk
    omega
  obtain ⟨a1, e1, d1, _⟩ := DataW.trod_string Try.underlying9 h1
  have z1 : a1.size ≤ 140737488351232 := by
    have hk := hw a1.data.toList.length (by
      rw [hx]
      show _ ∈ DataW.weights Try.prog 23 (.agg [x0.1, x1.1, x2.1, x3.1])
      unfold DataW.weights
      rw [Try.underlying23]
      refine DataW.weights_mem_each (j := 1) (t := 9) (d := x1.1) rfl rfl _ ?_
      rw [d1]
      simp [DataW.weights])
    rw [show a1.data.toList.length = a1.size by simp] at hk
    simp only [reachBytes] at hk
    omega
  obtain ⟨a2, e2, _, w2⟩ := DataW.trod_int Try.underlying3 h2
  obtain ⟨a3, e3, _, w3⟩ := DataW.trod_int Try.underlying3 h3
  cases e0
  cases e1
  cases e2
  cases e3
  exact ⟨⟨a0, a1, a2, a3⟩, ⟨by simp only; omega, by simp only; omega⟩, rfl⟩
set_option maxRecDepth 100000 in
theorem sub_param {H : Type} {enc : TypeId × Value → H} {W : World} {r : Reach} {b0 : Nat} {v : Value} {d : DataW H} {p : List MemPlace} (hv : Value.okWide Try.prog W r b0 23 v) (h : DataW.Trod enc Try.prog W 0 (fun _ => true) true 23 v d p) {ts : List TypeId} {ds : List (DataW H)} {j : Nat} (hsz : (DataW.weightsEach Try.prog ts ds).all (· ≤ reachBytes) = true) (ht : ts[j]? = some 23) (hd : ds[j]? = some d) :
    ∃ S : SB, v = S.v ∧ S.ok := by
  obtain ⟨cs, rfl, _⟩ := okWide_struct Try.underlying23 hv
  obtain ⟨fuel, hf⟩ := h
  obtain ⟨x, hx, e⟩ := sub_open hf (weights_of hsz ht hd)
  refine ⟨x, ?_, hx⟩
  simp only [Value.cells] at e
  exact congrArg Value.agg (by cases cs; simp_all)
end Go.Proofs.Ytominplelmbecaa.Y
