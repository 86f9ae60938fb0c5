/-
  A frame that came in.
-/
import Derived.Test.YtgjggjhompbofaaZTK
namespace Go.Proofs.Ytgjggjhompbofaa
open Go.ChangeShapes Go.WideShapes Go.ChangeAt Go.RowKit Go.Deep Go.Maps

theorem cellsFR : Try.prog.cellsOf 31 = 5 := by kernel_rfl
theorem five_of {α : Type} (l : List α) (h : l.length = 5) : ∃ a b c d e, l = [a, b, c, d, e] := by
  match l, h with
  | [a, b, c, d, e], _ => exact ⟨a, b, c, d, e, rfl⟩
/-- One frame, read. -/
theorem fr_open {H : Type} {enc : TypeId × Value → H} {W : World} {n : Nat} {cs : List Value} {x : DataW H × List MemPlace} (h : DataW.trod enc Try.prog W 0 (fun _ => true) true n 31 cs = some x) :
    ∃ o : FR, o.ok ∧ cs = o.cells := by
  obtain ⟨xs, m, _, _, hl, hlen, hf⟩ := DataW.trod_struct Try.underlying31 h
  rw [cellsFR] at hl
  obtain ⟨v0, v1, v2, v3, v4, rfl⟩ := five_of cs hl
  obtain ⟨x0, x1, x2, x3, x4, rfl⟩ := five_of xs hlen
  have h0 : DataW.trod enc Try.prog W 0 (fun _ => true) true m 3 [v0] = some x0 := by
    have h : DataW.trod enc Try.prog W 0 (fun _ => true) true m 3 (([v0, v1, v2, v3, v4].drop 0).take (Try.prog.cellsOf 3)) = some x0 := hf 0 _ rfl
    rw [cellsInt] at h
    exact h
  have h1 : DataW.trod enc Try.prog W 0 (fun _ => true) true m 3 [v1] = some x1 := by
    have h : DataW.trod enc Try.prog W 0 (fun _ => true) true m 3 (([v0, v1, v2, v3, v4].drop 1).take (Try.prog.cellsOf 3)) = some x1 := hf 1 _ rfl
    rw [cellsInt] at h
    exact h
  have h2 : DataW.trod enc Try.prog W 0 (fun _ => true) true m 3 [v2] = some x2 := by
    have h : DataW.trod enc Try.prog W 0 (fun _ => true) true m 3 (([v0, v1, v2, v3, v4].drop 2).take (Try.prog.cellsOf 3)) = some x2 := hf 2 _ rfl
    rw [cellsInt] at h
    exact h
  have h3 : DataW.trod enc Try.prog W 0 (fun _ => true) true m 3 [v3] = some x3 := by
    have h : DataW.trod enc Try.prog W 0 (fun _ => true) true m 3 (([v0, v1, v2, v3, v4].drop 3).take (Try.prog.cellsOf 3)) = some x3 := hf 3 _ rfl
    rw [cellsInt] at h
    exact h
  have h4 : DataW.trod enc Try.prog W 0 (fun _ => true) true m 9 [v4] = some x4 := by
    have h : DataW.trod enc Try.prog W 0 (fun _ => true) true m 9 (([v0, v1, v2, v3, v4].drop 4).take (Try.prog.cellsOf 9)) = some x4 := hf 4 _ rfl
    rw [cellsString] at h
    exact h
  obtain ⟨a0, e0, _, w0⟩ := DataW.trod_int Try.underlying3 h0
  obtain ⟨a1, e1, _, w1⟩ := DataW.trod_int Try.underlying3 h1
  obtain ⟨a2, e2, _, w2⟩ := DataW.trod_int Try.underlying3 h2
  obtain ⟨a3, e3, _, w3⟩ := DataW.trod_int Try.underlying3 h3
  obtain ⟨a4, e4, _, w4⟩ := DataW.trod_string Try.underlying9 h4
  cases e0
  cases e1
  cases e2
  cases e3
  cases e4
  unfold maxLen at w4
  exact ⟨⟨a0, a1, a2, a3, a4⟩, (by unfold FR.ok; simp only; omega), rfl⟩
set_option maxRecDepth 100000 in
theorem fr_param {H : Type} {enc : TypeId × Value → H} {W : World} {r : Reach} {b0 : Nat} {v : Value} {d : DataW H} {p : List MemPlace} (hv : Value.okWide Try.prog W r b0 31 v) (h : DataW.Trod enc Try.prog W 0 (fun _ => true) true 31 v d p) :
    ∃ x : FR, v = x.v ∧ x.ok := by
  obtain ⟨cs, rfl, _⟩ := okWide_struct Try.underlying31 hv
  obtain ⟨fuel, hf⟩ := h
  obtain ⟨x, hx, e⟩ := fr_open hf
  refine ⟨x, ?_, hx⟩
  simp only [Value.cells] at e
  exact congrArg Value.agg (by cases cs; simp only [FR.cells] at e; simp_all)
end Go.Proofs.Ytgjggjhompbofaa
