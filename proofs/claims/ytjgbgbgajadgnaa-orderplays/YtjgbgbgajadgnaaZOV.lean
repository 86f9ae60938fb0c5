/-
  Rows of the laws own, beside orders: appended to, one by one.
-/
import Derived.Test.YtjgbgbgajadgnaaZOT
namespace Go.Proofs.Ytjgbgbgajadgnaa
open Go.RowKit

set_option linter.unusedSimpArgs false
set_option linter.unusedVariables false
theorem wpList_append_run {P : Program} {w w' : World} {ops : Array Oper} {rest : List Oper} {o : Oper} {a : Act} {Q : Exit → Act → World → Prop} (hgd : o.guard = none) (s x : Operand) (t : TypeId)
    (ho : o.op = .call { callee := .builtin .append, args := #[s, x], argTypes := #[t, t] }) (vs vx v' : Value) (hs : a.eval s = vs) (hx : a.eval x = vx) (hr : (Builtin.append_ #[t, t] o.type #[vs, vx]).run P w = .ok v' w')
    (h : wpList P ops Q rest (a.put o.dst v') w') : wpList P ops Q (o :: rest) a w := by
  refine wpList_plain hgd fun K hK => ?_
  unfold Oper.wp execOp
  simp only [ho, resolve, invoke, builtin, Sem.run_bind, Sem.run_pure, Result.andThen_ok, List.map_toArray, List.map_cons, List.map_nil, hs, hx, hr]
  exact hK _ _ h
set_option maxRecDepth 100000 in
theorem infoPtr : (Try.prog.info? 26).map (fun i => (i.zero, i.size, i.bytes)) = some (some (.pointer none), 1, 8) := by kernel_rfl
/-- What an append of one leaves. -/
structure App (w w' : World) (B : Nat) (E : TypeId) (z : Nat) (oo : Option Addr) (n : Nat) (xs : List Value) (ta : Option Addr) (tc : Nat) : Prop where
  row : w'.ownsRow B E z (.slice ta n tc) n xs
  touch : Touch (fun j => oo.map Addr.block = some j) w w'
  new : ∀ j, ta.map Addr.block = some j → oo.map Addr.block = some j ∨ w.heap.size ≤ j
theorem app_one (T E : TypeId) (z by' : Nat) (zv : Value) (hu : Try.prog.underlying T = some (.slice E)) (hi : (Try.prog.info? E).map (fun i => (i.zero, i.size, i.bytes)) = some (some zv, z, by')) (hz : zv.cells.size = z) (hz0 : 0 < z) {w : World} {B n oc : Nat} {oo : Option Addr} {xs : List Value} (hown : w.ownsRow B E z (.slice oo n oc) n xs) (cs : Array Value) (hcs : cs.size = z) (h1 : ∀ u ∈ cs.toList, u.oneCell' = true) (hl : n + 1 ≤ 1000000) (hby : by' ≤ 1000) (hB : B ≤ w.heap.size) :
    ∃ ta tc w', (Builtin.append_ #[T, T] T #[.slice oo n oc, .slice (some ⟨w.heap.size, 0, none⟩) 1 1]).run Try.prog (w.alloc (.cells cs E)) = .ok (.slice ta (n + 1) tc) w' ∧ App w w' B E z oo (n + 1) (xs ++ cs.toList) ta tc := by
  obtain ⟨i0, hi0, hz1, hz2, hz3⟩ := zinfo_parts hi
  have ho2 : (w.alloc (.cells cs E)).ownsRow B E z (.slice oo n oc) n xs := hown.alloc _
  obtain ⟨v', w', hr, h2, h3, h4, h5⟩ := run_append_own_at (P := Try.prog) (w.alloc (.cells cs E)) B T T E i0 zv z by' hu hi0 hz1 hz2 hz3 hz hz0 (.slice oo n oc) n xs ho2 ⟨w.heap.size, 0, none⟩ 1 1 cs.toList (by simp [hcs]) (World.news_of_block (cs := cs) (t := E) (fr := (0, 0)) (heap_alloc_new w _)) h1 (by unfold maxLen; omega) (by have : (n + 1) * by' ≤ 1000000 * 1000 := Nat.mul_le_mul hl hby; omega) (by simp; omega)
  obtain ⟨ta, tc, rfl⟩ := row_slice h2
  refine ⟨ta, tc, w', hr, h2, ?_, fun j hj => ?_⟩
  · exact ((Touch.refl (fun j => oo.map Addr.block = some j) w).alloc _).grown h3 fun k e _ => by rw [ownBlock_slice] at e; exact e
  · rw [ownBlock_slice, ownBlock_slice] at h5
    rcases h5 with e | e
    · exact .inl (e ▸ hj)
    · rw [hj] at e
      injection e with e
      right
      simp at e
      omega
theorem App.below {w w' : World} {B z n : Nat} {E : TypeId} {oo ta : Option Addr} {tc : Nat} {xs : List Value} (h : App w w' B E z oo n xs ta tc) (ho : ∀ j, oo.map Addr.block = some j → B ≤ j) (hB : B ≤ w.heap.size) : Below B w w' :=
  h.touch.toBelow hB fun k hk e => by have := ho k e; omega
/-- What is written into blocks that are none of theirs. -/
theorem Group.wrote {w wv w' : World} {X X' own : Nat → Prop} {S : List (OL × OS)} (h : Group w wv X S) (ht : Touch own wv w') (h1 : ∀ j, j < wv.heap.size → own j → X j ∧ w.heap.size ≤ j) (h2 : ∀ j, X' j → X j ∨ wv.heap.size ≤ j) (h3 : ∀ j, X' j → j < w'.heap.size) : Group w w' X' S := by
  refine ⟨fun i hi => (h.each i hi).keep ht fun j hj hj2 => ?_, ?_, h.new, h.apart, fun i hi j hj hx => ?_, h3⟩
  · have hl := (h.each i hi).lt hj
    exact h.xa i hi j hj (h1 j hl hj2).1
  · refine ⟨ht.os.trans h.below.os, ht.tape.trans h.below.tape, ht.output.trans h.below.output, Nat.le_trans h.below.size ht.size, fun k hk => ?_⟩
    have hk2 := Nat.lt_of_lt_of_le hk h.below.size
    rw [ht.block k hk2 (fun e => by have := (h1 k hk2 e).2; omega), h.below.block k hk]
  · have hl := (h.each i hi).lt hj
    rcases h2 j hx with e | e
    · exact h.xa i hi j hj e
    · omega
/-- A row of pointers to them. -/
def ptrC (S : List (OL × OS)) : List Value := S.map fun x => .pointer (some ⟨x.1.b, 0, none⟩)
theorem ptrC_length (S : List (OL × OS)) : (ptrC S).length = S.length := List.length_map _
theorem ptrC_snoc (S : List (OL × OS)) (L : OL) (o : OS) : ptrC (S ++ [(L, o)]) = ptrC S ++ [.pointer (some ⟨L.b, 0, none⟩)] := by simp [ptrC]
theorem ptrC_set (S : List (OL × OS)) (i : Nat) (hi : i < S.length) (L' : OL) (o' : OS) (hb : L'.b = S[i].1.b) : ptrC (S.set i (L', o')) = ptrC S := by
  unfold ptrC
  rw [List.map_set]
  apply List.ext_getElem?
  intro k
  rw [List.getElem?_set]
  by_cases e : i = k
  · subst e
    simp only [List.length_map, hi, if_true, List.getElem?_map, List.getElem?_eq_getElem hi, Option.map_some, hb]
  · rw [if_neg e]
theorem ptr_cell {w : World} {B n cp : Nat} {oo : Option Addr} {S : List (OL × OS)} (h : w.ownsRow B 26 1 (.slice oo n cp) n (ptrC S)) (i : Nat) (hi : i < S.length) : ∃ g, oo = some ⟨g, 0, none⟩ ∧ w.cell? ⟨g, i, none⟩ = some (.pointer (some ⟨S[i].1.b, 0, none⟩)) := by
  have hl := h.1
  rw [ptrC_length, Nat.mul_one] at hl
  rcases h.2 with ⟨_, h2⟩ | ⟨g, cap, cur, hv, hg, hh, _⟩
  · omega
  · injection hv with h1 _ h3
    subst h1
    refine ⟨g, rfl, ?_⟩
    have := h.cells (g := g) rfl i (.pointer (some ⟨S[i].1.b, 0, none⟩)) (by simp [ptrC, hi])
    rw [Addr.add_lit] at this
    simpa using this
end Go.Proofs.Ytjgbgbgajadgnaa
