/-
  The document's own Decode, as it runs.
-/
import Derived.Test.YtoolbbibnegdnaaGreatDoorZKR7
namespace Go.Proofs.YtoolbbibnegdnaaGreatDoor.K
open Go.RowKit

/-- What is still to be read of the shape behind k items: up to the end of the part that stands. -/
def TD (A B : List UInt8) (k : Nat) : List UInt8 :=
  if k < A.length then A.drop k else if (k - A.length) % B.length = 0 then [] else B.drop ((k - A.length) % B.length)

theorem TD_start (A B : List UInt8) : TD A B 0 = A := by
  unfold TD
  by_cases h : 0 < A.length
  · rw [if_pos h]; rfl
  · have : A = [] := List.eq_nil_of_length_eq_zero (by omega)
    subst this
    simp
theorem TD_a (A B : List UInt8) (k : Nat) (h : k < A.length) : TD A B k = A[k] :: TD A B (k + 1) := by
  unfold TD
  rw [if_pos h, List.drop_eq_getElem_cons h]
  by_cases h1 : k + 1 < A.length
  · rw [if_pos h1]
  · rw [if_neg h1, show k + 1 - A.length = 0 by omega, Nat.zero_mod, if_pos rfl, List.drop_of_length_le (by omega)]
theorem TD_end (A : List UInt8) (k : Nat) (h : A.length ≤ k) : TD A [] k = [] := by
  unfold TD
  rw [if_neg (by omega)]
  simp
theorem TD_b0 (A B : List UInt8) (k : Nat) (h : A.length ≤ k) (h1 : (k - A.length) % B.length = 0) : TD A B k = [] := by
  unfold TD
  rw [if_neg (by omega), if_pos h1]
theorem TD_b1 (A B : List UInt8) (k : Nat) (h : A.length ≤ k) (h1 : (k - A.length) % B.length ≠ 0) : TD A B k = B.drop ((k - A.length) % B.length) := by
  unfold TD
  rw [if_neg (by omega), if_neg h1]
theorem TD_b (A B : List UInt8) (k m : Nat) (h : A.length ≤ k) (hm : (k - A.length) % B.length = m) (hl : m < B.length) : B.drop m = B[m] :: TD A B (k + 1) := by
  rw [List.drop_eq_getElem_cons hl]
  unfold TD
  rw [if_neg (by omega)]
  have e : (k + 1 - A.length) % B.length = (m + 1) % B.length := by
    rw [show k + 1 - A.length = (k - A.length) + 1 by omega, Nat.add_mod, hm]
    by_cases h1 : B.length = 1
    · rw [h1]; simp [Nat.mod_one]
    · rw [Nat.mod_eq_of_lt (show 1 < B.length by omega)]
  rw [e]
  by_cases h2 : m + 1 = B.length
  · rw [h2, Nat.mod_self, if_pos rfl, ← h2, List.drop_of_length_le (by omega)]
  · rw [Nat.mod_eq_of_lt (show m + 1 < B.length by omega), if_neg (by omega)]

/-- RI, with what is to be read of the shape as a list. -/
def RL (again : List UInt8) (l : List It) (todo : List UInt8) (rest : ByteArray) (R : List It × Int) : Prop := ∃ tb : ByteArray, tb.data.toList = todo ∧ RI again l tb rest R

theorem RL.len {B : List UInt8} {l : List It} {todo : List UInt8} {rest : ByteArray} {R : List It × Int} (h : RL B l todo rest R) : l.length ≤ 1000 := by
  obtain ⟨_, _, h⟩ := h; exact h.len
theorem RL.restLen {B : List UInt8} {l : List It} {todo : List UInt8} {rest : ByteArray} {R : List It × Int} (h : RL B l todo rest R) : rest.size ≤ maxLen := by
  obtain ⟨_, _, h⟩ := h; exact h.restLen
theorem RL.done {B : List UInt8} {l : List It} {rest : ByteArray} {R : List It × Int} (h : RL B l [] rest R) (h1 : rest.size = 0) : R = (l, 0) := by
  obtain ⟨tb, ht, h⟩ := h
  exact h.done (by rw [← size_list, ht]; rfl) h1
theorem RL.form {l : List It} {rest : ByteArray} {R : List It × Int} (h : RL [] l [] rest R) (h1 : rest.size ≠ 0) : R = ([], 10) := by
  obtain ⟨tb, ht, h⟩ := h
  exact h.form (by rw [← size_list, ht]; rfl) h1
theorem RL.again {B : List UInt8} {l : List It} {rest : ByteArray} {R : List It × Int} (h : RL B l [] rest R) (h1 : rest.size ≠ 0) (h2 : B ≠ []) (h3 : B.length ≤ maxLen) : RL B l B rest R := by
  obtain ⟨tb, ht, h⟩ := h
  have e : (⟨B.toArray⟩ : ByteArray).data.toList = B := by simp
  have e2 : (⟨B.toArray⟩ : ByteArray).size = B.length := by rw [← size_list, e]
  rw [← e] at h
  exact ⟨⟨B.toArray⟩, e, by rw [← e]; exact h.again (by rw [← size_list, ht]; rfl) h1 (by rw [e2]; intro h0; exact h2 (List.eq_nil_of_length_eq_zero h0)) (by rw [e2]; exact h3)⟩
theorem cons_parts {tb : ByteArray} {c : UInt8} {t : List UInt8} (h : tb.data.toList = c :: t) : ∃ h0 : 0 < tb.size, tb[0] = c ∧ (tb.extract 1 tb.size).data.toList = t := by
  have h0 : 0 < tb.size := by rw [← size_list, h]; simp
  refine ⟨h0, ?_⟩
  have := list_cons h0
  rw [h] at this
  injection this with h1 h2
  exact ⟨h1.symm, h2.symm⟩
theorem RL.long {B : List UInt8} {l : List It} {c : UInt8} {t : List UInt8} {rest : ByteArray} {R : List It × Int} (h : RL B l (c :: t) rest R) (h1 : l.length = 1000) : R = ([], 3) := by
  obtain ⟨tb, ht, h⟩ := h
  obtain ⟨h0, _, _⟩ := cons_parts ht
  exact h.long h0 h1
theorem RL.fault {B : List UInt8} {l : List It} {c : UInt8} {t : List UInt8} {rest : ByteArray} {R : List It × Int} (h : RL B l (c :: t) rest R) (h1 : l.length ≠ 1000) (h2 : (itemG (kindOfL c) (widthN (kindOfL c)) rest).2.2 ≠ 0) :
    R = ([], (itemG (kindOfL c) (widthN (kindOfL c)) rest).2.2) := by
  obtain ⟨tb, ht, h⟩ := h
  obtain ⟨h0, rfl, _⟩ := cons_parts ht
  exact h.fault h0 h1 h2
theorem RL.next {B : List UInt8} {l : List It} {c : UInt8} {t : List UInt8} {rest : ByteArray} {R : List It × Int} (h : RL B l (c :: t) rest R) (h1 : l.length ≠ 1000) (h2 : (itemG (kindOfL c) (widthN (kindOfL c)) rest).2.2 = 0) :
    RL B (l ++ [(itemG (kindOfL c) (widthN (kindOfL c)) rest).1]) t (itemG (kindOfL c) (widthN (kindOfL c)) rest).2.1 R ∧ (itemG (kindOfL c) (widthN (kindOfL c)) rest).2.1.size < rest.size := by
  obtain ⟨tb, ht, h⟩ := h
  obtain ⟨h0, rfl, he⟩ := cons_parts ht
  obtain ⟨n1, n2⟩ := h.next h0 h1 h2
  exact ⟨⟨_, he, n1⟩, n2⟩
theorem RL.init {A B : List UInt8} {s : ByteArray} {R : List It × Int} (hA : A.length ≤ maxLen) (hs : s.size ≤ maxLen) (hR : readF (2 * s.size + 2) B 0 A s.data.toList = R) : RL B [] (TD A B 0) s R := by
  have e : (⟨A.toArray⟩ : ByteArray).data.toList = A := by simp
  have e2 : (⟨A.toArray⟩ : ByteArray).size = A.length := by rw [← size_list, e]
  refine ⟨⟨A.toArray⟩, by rw [e, TD_start], ⟨by simp, by rw [e2]; exact hA, hs, 2 * s.size + 2, by split <;> omega, ?_⟩⟩
  rw [e, ← hR]
  unfold joinR
  simp only [List.length_nil, List.nil_append]
  by_cases h : (readF (2 * s.size + 2) B 0 A s.data.toList).2 = 0
  · rw [if_pos h, ← h]
  · rw [if_neg h]
    have := readF_err (2 * s.size + 2) B 0 A s.data.toList h
    rw [← this]

def IntsAt (w : World) (ao : Option Addr) (l : List UInt8) : Prop :=
  ∀ (i : Nat) (h : i < l.length), ∃ g, ao = some ⟨g, 0, none⟩ ∧ g < w.heap.size ∧ w.cell? ⟨g, i, none⟩ = some (.int .i64 (kindOfL l[i]))

theorem IntsAt.below {w w' : World} {ao : Option Addr} {l : List UInt8} (h : IntsAt w ao l) (hb : Below w.heap.size w w') : IntsAt w' ao l := by
  intro i hi
  obtain ⟨g, h1, h2, h3⟩ := h i hi
  exact ⟨g, h1, by have := hb.size; omega, (hb.cell (p := ⟨g, i, none⟩) h2).trans h3⟩

theorem ints_of_own {w : World} {B : Nat} {v : Value} {l : List UInt8} (h : w.ownsRow B 3 1 v l.length (intCells l)) : ∃ ao cap, v = .slice ao l.length cap ∧ IntsAt w ao l := by
  rcases h.2 with ⟨h1, h2⟩ | ⟨g, cap, cur, hv, hg, hh, hn, _, hs, ht⟩
  · exact ⟨none, 0, by rw [h1, h2], fun i hi => by omega⟩
  · refine ⟨_, _, hv, fun i hi => ⟨g, rfl, (Array.getElem?_eq_some_iff.1 hh).1, ?_⟩⟩
    rw [Lib.cell_of_heap hh]
    have e : (intCells l)[i]? = some (.int .i64 (kindOfL l[i])) := by simp [intCells, hi]
    rw [← e, ← ht, List.getElem?_take, if_pos (by omega)]
    simp

/-- The world in a round: what the rows stand in is as it was; the list that grows. -/
structure DS (w w' : World) (v : Value) (l : List It) : Prop where
  below : Below w.heap.size w w'
  own : w'.ownsRow w.heap.size 61 3 v l.length (itemCells l)

end Go.Proofs.YtoolbbibnegdnaaGreatDoor.K
