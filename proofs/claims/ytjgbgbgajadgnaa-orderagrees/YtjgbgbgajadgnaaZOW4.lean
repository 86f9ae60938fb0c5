/-
  What was told to each, in memory.
-/
import Derived.Test.YtjgbgbgajadgnaaZOW3
namespace Go.Proofs.Ytjgbgbgajadgnaa
open Go.RowKit

set_option linter.unusedSimpArgs false
set_option linter.unusedVariables false
abbrev tTell : TypeId := 57
abbrev tTells : TypeId := 55
theorem row_ne {w : World} {e1 e2 : TypeId} {s1 s2 : Nat} {v1 v2 : Value} {n1 n2 : Nat} {x1 x2 : List Value} {b1 b2 : Nat} (h1 : w.ownsRow b1 e1 s1 v1 n1 x1) (h2 : w.ownsRow b2 e2 s2 v2 n2 x2) (he : e1 ≠ e2) {j : Nat} (hj : v1.ownBlock = some j) : v2.ownBlock ≠ some j := fun hk => he (row_types h1 h2 hj hk)
def tellV (t : TL) : List Value := [.int .i64 (t.at0 : Int), .int .i64 (t.sure : Int), .slice t.ao t.texts.length t.cp]
def tellC (l : List TL) : List Value := l.flatMap tellV
theorem tellC_length (l : List TL) : (tellC l).length = l.length * 3 := by
  induction l with
  | nil => rfl
  | cons a l ih => simp only [tellC, List.flatMap_cons, List.length_append] at *; rw [ih]; simp [tellV]; omega
theorem tellC_append (a b : List TL) : tellC (a ++ b) = tellC a ++ tellC b := by simp [tellC]
theorem tellC_get (l : List TL) (i j : Nat) (hi : i < l.length) (hj : j < 3) : (tellC l)[i * 3 + j]? = (tellV l[i])[j]? := by
  induction l generalizing i with
  | nil => cases hi
  | cons a l ih =>
    have e : tellC (a :: l) = tellV a ++ tellC l := rfl
    rw [e]
    cases i with
    | zero => rw [List.getElem?_append_left (by simp [tellV]; omega)]; simp
    | succ i =>
      rw [List.getElem?_append_right (by simp [tellV]; omega)]
      have := ih i (by simpa using hi)
      simp only [List.getElem_cons_succ]
      rw [← this]
      congr 1
      simp [tellV]
      omega
def rowV (R : Nat → Option Addr × Nat) (T : Nat → List TL) (i : Nat) : Value := .slice (R i).1 (T i).length (R i).2
def updT {α : Type} (f : Nat → α) (w : Nat) (x : α) : Nat → α := fun i => if i = w then x else f i
theorem updT_same {α : Type} (f : Nat → α) (w : Nat) (x : α) : updT f w x w = x := if_pos rfl
theorem updT_ne {α : Type} (f : Nat → α) {w i : Nat} (x : α) (h : i ≠ w) : updT f w x i = f i := if_neg h
structure ToldI (w W : World) (X : Nat → Prop) (n tg : Nat) (R : Nat → Option Addr × Nat) (T : Nat → List TL) : Prop where
  row : W.ownsRow 0 tTells 1 (.slice (some ⟨tg, 0, none⟩) n n) n ((List.range n).map (rowV R T))
  each : ∀ i, i < n → W.ownsRow 0 tTell 3 (rowV R T i) (T i).length (tellC (T i))
  apart : ∀ i k, i < n → k < n → i ≠ k → ∀ j, (R i).1.map Addr.block = some j → (R k).1.map Addr.block ≠ some j
  texts : ∀ i, i < n → ∀ t ∈ T i, W.ownsRow 0 9 1 (.slice t.ao t.texts.length t.cp) t.texts.length (textC t.texts)
  xt : ∀ i, i < n → ∀ t ∈ T i, ∀ j, t.ao.map Addr.block = some j → X j
  xr : ∀ i, i < n → ∀ j, (R i).1.map Addr.block = some j → X j ∧ w.heap.size ≤ j
  xg : X tg ∧ w.heap.size ≤ tg
section
variable {w W W' : World} {X : Nat → Prop} {n tg : Nat} {R : Nat → Option Addr × Nat} {T : Nat → List TL}
theorem ToldI.keep (h : ToldI w W X n tg R T) {own : Nat → Prop} (ht : Touch own W W') (h1 : ¬ own tg) (h2 : ∀ i, i < n → ∀ j, (R i).1.map Addr.block = some j → ¬ own j) (h3 : ∀ i, i < n → ∀ t ∈ T i, ∀ j, t.ao.map Addr.block = some j → ¬ own j) : ToldI w W' X n tg R T :=
  ⟨ht.row h.row fun k e => (by obtain rfl : tg = k := Option.some.inj e; exact h1), fun i hi => ht.row (h.each i hi) fun k e => h2 i hi k (by unfold rowV at e; rw [ownBlock_slice] at e; exact e), h.apart, fun i hi t ht' => ht.row (h.texts i hi t ht') fun k e => h3 i hi t ht' k (by rw [ownBlock_slice] at e; exact e), h.xt, h.xr, h.xg⟩
theorem ToldI.keepX (h : ToldI w W X n tg R T) (ht : Touch (fun j => ¬ X j) W W') : ToldI w W' X n tg R T :=
  h.keep ht (fun e => e h.xg.1) (fun i hi j e hx => hx (h.xr i hi j e).1) (fun i hi t h1 j e hx => hx (h.xt i hi t h1 j e))
theorem ToldI.further (h : ToldI w W X n tg R T) (hb : Below W.heap.size W W') : ToldI w W' X n tg R T := h.keep (Touch.of_below (own := fun _ => False) hb) id (fun _ _ _ _ e => e) (fun _ _ _ _ _ _ e => e)
theorem ToldI.more (h : ToldI w W X n tg R T) {X' : Nat → Prop} (hx : ∀ j, X j → X' j) : ToldI w W X' n tg R T :=
  ⟨h.row, h.each, h.apart, h.texts, fun i hi t ht j e => hx j (h.xt i hi t ht j e), fun i hi j e => ⟨hx j (h.xr i hi j e).1, (h.xr i hi j e).2⟩, hx tg h.xg.1, h.xg.2⟩
/-- Another row alone is written. -/
theorem ToldI.apartRow (h : ToldI w W X n tg R T) {B E z m : Nat} {v : Value} {xs : List Value} (hr : W.ownsRow B E z v m xs) (h1 : E ≠ tTells) (h2 : E ≠ tTell) (h3 : E ≠ 9) (ht : Touch (fun j => v.ownBlock = some j) W W') : ToldI w W' X n tg R T :=
  h.keep ht (fun e => row_ne hr h.row h1 e rfl) (fun i hi j e e2 => row_ne hr (h.each i hi) h2 e2 (by unfold rowV; rw [ownBlock_slice]; exact e)) (fun i hi t ht' j e e2 => row_ne hr (h.texts i hi t ht') h3 e2 (by rw [ownBlock_slice]; exact e))
theorem ToldI.cell (h : ToldI w W X n tg R T) (i : Nat) (hi : i < n) : W.cell? ⟨tg, i, none⟩ = some (rowV R T i) := by
  rw [h.row.cellAt i (by omega)]
  simp [hi]
/-- One more is told. -/
theorem ToldI.tell (h : ToldI w W X n tg R T) {wi : Nat} (hw : wi < n) {t : TL} (htx : W.ownsRow 0 9 1 (.slice t.ao t.texts.length t.cp) t.texts.length (textC t.texts)) (hxt : ∀ j, t.ao.map Addr.block = some j → X j) {w3 : World} {ta : Option Addr} {tc : Nat} (hA : App W w3 0 tTell 3 (R wi).1 ((T wi).length + 1) (tellC (T wi) ++ tellV t) ta tc) (hsz : w.heap.size ≤ W.heap.size) :
    ToldI w (w3.setCell ⟨tg, wi, none⟩ (.slice ta ((T wi).length + 1) tc)) (fun j => X j ∨ ta.map Addr.block = some j) n tg (updT R wi (ta, tc)) (updT T wi (T wi ++ [t])) ∧ Touch (fun j => (R wi).1.map Addr.block = some j ∨ j = tg) W (w3.setCell ⟨tg, wi, none⟩ (.slice ta ((T wi).length + 1) tc)) := by
  have hne : ∀ j, (R wi).1.map Addr.block = some j → j ≠ tg := fun j e e2 => by
    subst e2
    exact row_ne (h.each wi hw) h.row (by decide +kernel) (by unfold rowV; rw [ownBlock_slice]; exact e) rfl
  have hrow3 : w3.ownsRow 0 tTells 1 (.slice (some ⟨tg, 0, none⟩) n n) n ((List.range n).map (rowV R T)) := hA.touch.row h.row fun k e e2 => (by obtain rfl : tg = k := Option.some.inj e; exact hne _ e2 rfl)
  have hta : ∀ j, ta.map Addr.block = some j → j ≠ tg := fun j e e2 => by
    subst e2
    exact row_ne hA.row hrow3 (by decide +kernel) (by rw [ownBlock_slice]; exact e) rfl
  have hst := hrow3.stored wi (.slice ta ((T wi).length + 1) tc)
  have htg : Touch (fun j => j = tg) w3 (w3.setCell ⟨tg, wi, none⟩ (.slice ta ((T wi).length + 1) tc)) := (Touch.refl _ w3).setCell _ _ (fun _ => rfl)
  have hT : Touch (fun j => (R wi).1.map Addr.block = some j ∨ j = tg) W (w3.setCell ⟨tg, wi, none⟩ (.slice ta ((T wi).length + 1) tc)) := (hA.touch.mono fun _ _ e => .inl e).andThen htg fun _ _ e => .inr e
  refine ⟨⟨?_, fun i hi => ?_, fun i k hi hk hik j hj hj2 => ?_, fun i hi t' ht' => ?_, fun i hi t' ht' j e => ?_, fun i hi j e => ?_, .inl h.xg.1, h.xg.2⟩, hT⟩
  · have e : ((List.range n).map (rowV R T)).set wi (.slice ta ((T wi).length + 1) tc) = (List.range n).map (rowV (updT R wi (ta, tc)) (updT T wi (T wi ++ [t]))) := by
      apply List.ext_getElem?
      intro k
      rw [List.getElem?_set]
      by_cases e : wi = k
      · subst e
        simp [hw, rowV, updT]
      · rw [if_neg e]
        by_cases hk : k < n
        · simp only [List.getElem?_map, List.getElem?_range hk, Option.map_some, rowV, updT_ne _ _ (fun x => e x.symm)]
        · rw [List.getElem?_eq_none (by simp; omega), List.getElem?_eq_none (by simp; omega)]
    rw [← e]
    exact hst.1
  · by_cases e : i = wi
    · subst e
      have h1 := htg.row hA.row fun k e => hta k (by rw [ownBlock_slice] at e; exact e)
      simp only [rowV, updT_same]
      rw [tellC_append]
      simpa [tellC] using h1
    · simp only [rowV, updT_ne _ _ e]
      refine hT.row (h.each i hi) fun k e1 e2 => ?_
      have e1' : (R i).1.map Addr.block = some k := by unfold rowV at e1; rw [ownBlock_slice] at e1; exact e1
      rcases e2 with e2 | e2
      · exact h.apart i wi hi hw e k e1' e2
      · subst e2
        exact row_ne (h.each i hi) h.row (by decide +kernel) e1 rfl
  · have key : ∀ m, m < n → m ≠ wi → ∀ j, ta.map Addr.block = some j → (R m).1.map Addr.block ≠ some j := fun m hm hmw j e e2 => by
      rcases hA.new j e with e3 | e3
      · exact h.apart wi m hw hm (fun x => hmw x.symm) j e3 e2
      · have := row_lt (h.each m hm) (k := j) (by unfold rowV; rw [ownBlock_slice]; exact e2)
        omega
    by_cases e1 : i = wi
    · subst e1
      rw [updT_same] at hj
      rw [updT_ne _ _ (fun x => hik x.symm)] at hj2
      exact key k hk (fun x => hik x.symm) j hj hj2
    · rw [updT_ne _ _ e1] at hj
      by_cases e2 : k = wi
      · subst e2
        rw [updT_same] at hj2
        exact key i hi e1 j hj2 hj
      · rw [updT_ne _ _ e2] at hj2
        exact h.apart i k hi hk hik j hj hj2
  · have key : ∀ t'' : TL, W.ownsRow 0 9 1 (.slice t''.ao t''.texts.length t''.cp) t''.texts.length (textC t''.texts) → (w3.setCell ⟨tg, wi, none⟩ (.slice ta ((T wi).length + 1) tc)).ownsRow 0 9 1 (.slice t''.ao t''.texts.length t''.cp) t''.texts.length (textC t''.texts) := fun t'' hr => hT.row hr fun k e1 e2 => by
      rcases e2 with e2 | e2
      · exact row_ne hr (h.each wi hw) (by decide +kernel) e1 (by unfold rowV; rw [ownBlock_slice]; exact e2)
      · exact row_ne hr h.row (by decide +kernel) e1 (by rw [e2]; rfl)
    by_cases e : i = wi
    · subst e
      rw [updT_same] at ht'
      rcases List.mem_append.1 ht' with ht' | ht'
      · exact key t' (h.texts i hi t' ht')
      · simp at ht'; subst ht'; exact key t' htx
    · rw [updT_ne _ _ e] at ht'
      exact key t' (h.texts i hi t' ht')
  · by_cases e2 : i = wi
    · subst e2
      rw [updT_same] at ht'
      rcases List.mem_append.1 ht' with ht' | ht'
      · exact .inl (h.xt i hi t' ht' j e)
      · simp at ht'; subst ht'; exact .inl (hxt j e)
    · rw [updT_ne _ _ e2] at ht'
      exact .inl (h.xt i hi t' ht' j e)
  · by_cases e2 : i = wi
    · subst e2
      rw [updT_same] at e
      refine ⟨.inr e, ?_⟩
      rcases hA.new j e with e3 | e3
      · exact (h.xr i hi j e3).2
      · omega
    · rw [updT_ne _ _ e2] at e
      exact ⟨.inl (h.xr i hi j e).1, (h.xr i hi j e).2⟩
end
end Go.Proofs.Ytjgbgbgajadgnaa
