/-
  An end of a session as data: what holds of it, frames and what waits as cells of memory; nothing of the program is in this text.
-/
import Derived.Test.YthgfijmpofbchaaZGL
import Derived.Test.YthgfijmpofbchaaZQ1
import Derived.Lib.Strings
namespace Go.Proofs.Ythgfijmpofbchaa
open Go.RowKit

/-- What holds of an end, whatever comes. -/
structure LK.ok (l : LK) : Prop where
  epoch : 1 ≤ l.epoch ∧ l.epoch ≤ 9007199254740991
  peer : l.peer ≤ 9007199254740991
  most : l.wait.length ≤ 32
  first : 1 ≤ l.first ∧ l.first ≤ 9007199254740992
  outw : l.out ≤ l.wait.length
  win : l.out ≤ 8
  due : l.due ≤ l.out
  taken : l.taken ≤ 9007199254740991
  ticks : l.ticks ≤ 2
  small : ∀ s ∈ l.wait, s.size ≤ 100000
theorem beq_zero_false {n : Nat} (h : n ≠ 0) : (((n : Nat) : Int) == 0) = false := by rw [beq_eq_false_iff_ne]; omega
def FR.v (f : FR) : Value := .agg #[.int .i64 f.epoch, .int .i64 f.peer, .int .i64 f.seq, .int .i64 f.ack, .string f.body]
def FR.cells (f : FR) : List Value := [.int .i64 f.epoch, .int .i64 f.peer, .int .i64 f.seq, .int .i64 f.ack, .string f.body]
/-- What a frame of the model's memory is. -/
def FR.ok (f : FR) : Prop := f.body.size ≤ 9223372036854775807
theorem full_of {s : ByteArray} (h : ¬ s = ⟨#[]⟩) : s.toList.isEmpty = false := by
  rw [Lib.toList_data]
  refine Bool.eq_false_iff.2 fun e => h ?_
  have e2 : s.data.toList = [] := List.isEmpty_iff.1 e
  obtain ⟨d⟩ := s
  obtain ⟨l⟩ := d
  simp only at e2
  rw [e2]
section
variable {l : LK}
theorem LK.ok.owes (h : l.ok) (x : Bool) : ({ l with owes := x } : LK).ok := ⟨h.epoch, h.peer, h.most, h.first, h.outw, h.win, h.due, h.taken, h.ticks, h.small⟩
theorem LK.ok.tick (h : l.ok) : l.tick.ok := by
  obtain ⟨h1, h2, h3, h4, h5, h6, h7, h8, h9, h10⟩ := h
  unfold LK.tick
  by_cases e : l.peer = 0
  · simp only [if_pos e]
    by_cases e2 : l.out = 0
    · simp only [if_pos e2]
      exact ⟨h1, h2, h3, h4, h5, h6, h7, h8, h9, h10⟩
    · simp only [if_neg e2]
      by_cases e3 : l.ticks + 1 = 3
      · simp only [if_pos e3]
        exact ⟨h1, h2, h3, h4, h5, h6, Nat.zero_le _, h8, Nat.zero_le _, h10⟩
      · simp only [if_neg e3]
        exact ⟨h1, h2, h3, h4, h5, h6, h7, h8, by show l.ticks + 1 ≤ 2; omega, h10⟩
  · simp only [if_neg e]
    by_cases e2 : l.out = 0
    · simp only [if_pos e2]
      exact ⟨h1, h2, h3, h4, h5, h6, h7, h8, h9, h10⟩
    · simp only [if_neg e2]
      by_cases e3 : l.ticks + 1 = 3
      · simp only [if_pos e3]
        exact ⟨h1, h2, h3, h4, h5, h6, Nat.zero_le _, h8, Nat.zero_le _, h10⟩
      · simp only [if_neg e3]
        exact ⟨h1, h2, h3, h4, h5, h6, h7, h8, by show l.ticks + 1 ≤ 2; omega, h10⟩
theorem tick_wait (l : LK) : l.tick.wait = l.wait := by
  unfold LK.tick
  by_cases e : l.peer = 0
  · simp only [if_pos e]
    (repeat' split) <;> rfl
  · simp only [if_neg e]
    (repeat' split) <;> rfl
theorem LK.ok.send (h : l.ok) (s : ByteArray) : (l.send s).2.ok := by
  obtain ⟨h1, h2, h3, h4, h5, h6, h7, h8, h9, h10⟩ := h
  unfold LK.send
  by_cases e1 : 100000 < s.size
  · rw [if_pos e1]; exact ⟨h1, h2, h3, h4, h5, h6, h7, h8, h9, h10⟩
  · rw [if_neg e1]
    by_cases e2 : 32 ≤ l.wait.length
    · rw [if_pos e2]; exact ⟨h1, h2, h3, h4, h5, h6, h7, h8, h9, h10⟩
    · rw [if_neg e2]
      refine ⟨h1, h2, ?_, h4, ?_, h6, h7, h8, h9, fun t ht => ?_⟩
      · show (l.wait ++ [s]).length ≤ 32
        rw [List.length_append, List.length_singleton]; omega
      · show l.out ≤ (l.wait ++ [s]).length
        rw [List.length_append, List.length_singleton]; omega
      · rcases List.mem_append.1 ht with e | e
        · exact h10 t e
        · rw [List.mem_singleton.1 e]; omega
end
theorem LK.ok_new {n : Nat} (h1 : 1 ≤ n) (h2 : n ≤ 9007199254740991) : (LK.new n).ok := ⟨⟨h1, h2⟩, Nat.zero_le _, Nat.zero_le _, ⟨Nat.le_refl _, by show 1 ≤ 9007199254740992; decide⟩, Nat.le_refl _, Nat.zero_le _, Nat.le_refl _, Nat.zero_le _, Nat.zero_le _, fun _ h => by cases h⟩
/-- One that waits, as the program has it. -/
structure WT where
  num : Nat
  body : ByteArray
  due : Bool
def WT.cells (x : WT) : List Value := [.int .i64 x.num, .string x.body, .bool x.due]
def wtCells (l : List WT) : List Value := l.flatMap WT.cells
theorem wtCells_length (l : List WT) : (wtCells l).length = l.length * 3 := by
  induction l with
  | nil => rfl
  | cons r l ih => simp only [wtCells, List.flatMap_cons, List.length_append, List.length_cons] at *; rw [ih]; simp only [WT.cells, List.length_cons, List.length_nil]; omega
theorem wtCells_append (a b : List WT) : wtCells (a ++ b) = wtCells a ++ wtCells b := by simp [wtCells]
theorem wtCells_snoc (l : List WT) (x : WT) : wtCells (l ++ [x]) = wtCells l ++ [.int .i64 x.num, .string x.body, .bool x.due] := by simp [wtCells, WT.cells]
theorem wtCells_get (l : List WT) (i j : Nat) (hi : i < l.length) (hj : j < 3) : (wtCells l)[i * 3 + j]? = (l[i].cells)[j]? := by
  induction l generalizing i with
  | nil => simp at hi
  | cons x l ih =>
    have e : wtCells (x :: l) = x.cells ++ wtCells l := by simp [wtCells]
    have h3 : x.cells.length = 3 := rfl
    rw [e]
    cases i with
    | zero => rw [List.getElem?_append_left (by omega)]; simp
    | succ i =>
      rw [List.getElem?_append_right (by omega), h3]
      have := ih i (by simpa using hi)
      rw [show (i + 1) * 3 + j - 3 = i * 3 + j by omega, this]
      simp
theorem wtCells_drop (l : List WT) (k : Nat) : (wtCells l).drop (k * 3) = wtCells (l.drop k) := by
  induction l generalizing k with
  | nil => simp [wtCells]
  | cons x l ih =>
    cases k with
    | zero => simp
    | succ k =>
      have e : wtCells (x :: l) = x.cells ++ wtCells l := by simp [wtCells]
      rw [e, show (k + 1) * 3 = x.cells.length + k * 3 by show _ = 3 + _; omega, List.drop_length_add_append, List.drop_succ_cons]
      exact ih k
theorem wtCells_ones (l : List WT) : ∀ u ∈ wtCells l, u.oneCell' = true := by
  intro u hu
  obtain ⟨x, _, h⟩ := List.mem_flatMap.1 hu
  simp only [WT.cells, List.mem_cons, List.not_mem_nil, or_false] at h
  rcases h with rfl | rfl | rfl <;> rfl
/-- What waits: the number of the first one, how many are not due, the bodies. -/
def waitsOf : Nat → Nat → List ByteArray → List WT
  | _, _, [] => []
  | f, d, s :: r => ⟨f, s, d == 0⟩ :: waitsOf (f + 1) (d - 1) r
theorem waitsOf_length (r : List ByteArray) : ∀ f d, (waitsOf f d r).length = r.length := by
  induction r with
  | nil => intro f d; rfl
  | cons s r ih => intro f d; simp only [waitsOf, List.length_cons, ih]
theorem waitsOf_append (b : List ByteArray) : ∀ (a : List ByteArray) (f d : Nat), waitsOf f d (a ++ b) = waitsOf f d a ++ waitsOf (f + a.length) (d - a.length) b
  | [], f, d => by simp [waitsOf]
  | s :: a, f, d => by
    simp only [List.cons_append, waitsOf, List.length_cons]
    rw [waitsOf_append b a (f + 1) (d - 1), show f + 1 + a.length = f + (a.length + 1) by omega, show d - 1 - a.length = d - (a.length + 1) by omega]
theorem waitsOf_drop : ∀ (r : List ByteArray) (k f d : Nat), (waitsOf f d r).drop k = waitsOf (f + k) (d - k) (r.drop k)
  | [], k, f, d => by simp [waitsOf]
  | s :: r, 0, f, d => by simp
  | s :: r, k + 1, f, d => by
    simp only [waitsOf, List.drop_succ_cons]
    rw [waitsOf_drop r k (f + 1) (d - 1), show f + 1 + k = f + (k + 1) by omega, show d - 1 - k = d - (k + 1) by omega]
theorem waitsOf_get : ∀ (r : List ByteArray) (i f d : Nat) (h : i < r.length), (waitsOf f d r)[i]? = some ⟨f + i, r[i], decide (d ≤ i)⟩
  | s :: r, 0, f, d, h => by
    simp only [waitsOf, List.getElem?_cons_zero, Nat.add_zero, List.getElem_cons_zero]
    congr 2
    by_cases e : d = 0
    · subst e; rfl
    · rw [decide_eq_false (by omega)]; simpa using e
  | s :: r, i + 1, f, d, h => by
    simp only [waitsOf, List.getElem?_cons_succ, List.getElem_cons_succ]
    rw [waitsOf_get r i (f + 1) (d - 1) (by simpa using h)]
    congr 2
    · omega
    · exact decide_eq_decide.2 (by omega)
/-- Frames as cells. -/
def frCells (l : List FR) : List Value := l.flatMap FR.cells
theorem frCells_length (l : List FR) : (frCells l).length = l.length * 5 := by
  induction l with
  | nil => rfl
  | cons r l ih => simp only [frCells, List.flatMap_cons, List.length_append, List.length_cons] at *; rw [ih]; simp only [FR.cells, List.length_cons, List.length_nil]; omega
theorem frCells_append (a b : List FR) : frCells (a ++ b) = frCells a ++ frCells b := by simp [frCells]
theorem frCells_snoc (l : List FR) (f : FR) : frCells (l ++ [f]) = frCells l ++ [.int .i64 f.epoch, .int .i64 f.peer, .int .i64 f.seq, .int .i64 f.ack, .string f.body] := by simp [frCells, FR.cells]
theorem frCells_get (l : List FR) (i j : Nat) (hi : i < l.length) (hj : j < 5) : (frCells l)[i * 5 + j]? = (l[i].cells)[j]? := by
  induction l generalizing i with
  | nil => simp at hi
  | cons x l ih =>
    have e : frCells (x :: l) = x.cells ++ frCells l := by simp [frCells]
    have h3 : x.cells.length = 5 := rfl
    rw [e]
    cases i with
    | zero => rw [List.getElem?_append_left (by omega)]; simp
    | succ i =>
      rw [List.getElem?_append_right (by omega), h3]
      have := ih i (by simpa using hi)
      rw [show (i + 1) * 5 + j - 5 = i * 5 + j by omega, this]
      simp
theorem frCells_ones (l : List FR) : ∀ u ∈ frCells l, u.oneCell' = true := by
  intro u hu
  obtain ⟨x, _, h⟩ := List.mem_flatMap.1 hu
  simp only [FR.cells, List.mem_cons, List.not_mem_nil, or_false] at h
  rcases h with rfl | rfl | rfl | rfl | rfl <;> rfl
end Go.Proofs.Ythgfijmpofbchaa
