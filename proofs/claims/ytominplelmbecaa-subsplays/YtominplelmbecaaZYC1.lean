/-
  What is kept, and gone, of a list of records; nothing of the program is in this text.
-/
import Derived.Test.YtominplelmbecaaZM0
namespace Go.Proofs.Ytominplelmbecaa.Y
open Go.RowKit

structure Rec where
  off : Int
  prod : ByteArray
  seq : Int
  key : ByteArray
  val : ByteArray
def Rec.kl (r : Rec) : List UInt8 := r.key.data.toList
/-- Is there a record of that key in a list? -/
def laterF (k : List UInt8) (t : List Rec) : Bool := t.any fun x => x.kl == k
/-- Does a record go, t being what is behind it? -/
def goesF (upto : Int) (r : Rec) (t : List Rec) : Bool := (!r.kl.isEmpty && laterF r.kl t) && decide (r.off < upto)
def keepF (upto : Int) : List Rec → List Rec
  | [] => []
  | r :: t => if goesF upto r t = true then keepF upto t else r :: keepF upto t
def goneF (upto : Int) : List Rec → List Int
  | [] => []
  | r :: t => if goesF upto r t = true then r.off :: goneF upto t else goneF upto t
theorem drop_at {α : Type} (l : List α) (i : Nat) (h : i < l.length) : l.drop i = l[i] :: l.drop (i + 1) := List.drop_eq_getElem_cons h
theorem keepF_go {upto : Int} {l : List Rec} {i : Nat} (h : i < l.length) (hg : goesF upto l[i] (l.drop (i + 1)) = true) : keepF upto (l.drop i) = keepF upto (l.drop (i + 1)) := by
  rw [drop_at l i h, keepF, if_pos hg]
theorem keepF_stay {upto : Int} {l : List Rec} {i : Nat} (h : i < l.length) (hg : goesF upto l[i] (l.drop (i + 1)) = false) : keepF upto (l.drop i) = l[i] :: keepF upto (l.drop (i + 1)) := by
  rw [drop_at l i h, keepF, if_neg (by rw [hg]; decide)]
theorem goneF_go {upto : Int} {l : List Rec} {i : Nat} (h : i < l.length) (hg : goesF upto l[i] (l.drop (i + 1)) = true) : goneF upto (l.drop i) = l[i].off :: goneF upto (l.drop (i + 1)) := by
  rw [drop_at l i h, goneF, if_pos hg]
theorem goneF_stay {upto : Int} {l : List Rec} {i : Nat} (h : i < l.length) (hg : goesF upto l[i] (l.drop (i + 1)) = false) : goneF upto (l.drop i) = goneF upto (l.drop (i + 1)) := by
  rw [drop_at l i h, goneF, if_neg (by rw [hg]; decide)]
theorem keepF_sub (upto : Int) (l : List Rec) (x : Rec) (h : x ∈ keepF upto l) : x ∈ l := by
  induction l with
  | nil => exact h
  | cons r t ih =>
    rw [keepF] at h
    split at h
    · exact List.mem_cons_of_mem _ (ih h)
    · rcases List.mem_cons.1 h with rfl | h
      · exact List.mem_cons_self
      · exact List.mem_cons_of_mem _ (ih h)
theorem keepF_length (upto : Int) (l : List Rec) : (keepF upto l).length ≤ l.length := by
  induction l with
  | nil => exact Nat.le_refl _
  | cons r t ih =>
    rw [keepF]
    split
    · exact Nat.le_trans ih (Nat.le_succ _)
    · exact Nat.succ_le_succ ih
theorem goneF_length (upto : Int) (l : List Rec) : (goneF upto l).length ≤ l.length := by
  induction l with
  | nil => exact Nat.le_refl _
  | cons r t ih =>
    rw [goneF]
    split
    · exact Nat.succ_le_succ ih
    · exact Nat.le_trans ih (Nat.le_succ _)
/-- What is kept is kept again. -/
theorem keepF_again (upto : Int) (l : List Rec) : keepF upto (keepF upto l) = keepF upto l := by
  induction l with
  | nil => rfl
  | cons r t ih =>
    by_cases hg : goesF upto r t = true
    · rw [keepF, if_pos hg]
      exact ih
    · have hn : ¬ goesF upto r (keepF upto t) = true := by
        intro e
        apply hg
        unfold goesF laterF at e ⊢
        simp only [Bool.and_eq_true, List.any_eq_true] at e ⊢
        obtain ⟨⟨h1, x, hx, h2⟩, h3⟩ := e
        exact ⟨⟨h1, x, keepF_sub _ _ _ hx, h2⟩, h3⟩
      rw [keepF, if_neg hg, keepF, if_neg hn, ih]
/-- Where the last one of a key is, of the first n (0, if there is none). -/
def lastIx (l : List Rec) (k : List UInt8) : Nat → Nat
  | 0 => 0
  | i + 1 => if (l[i]?).map Rec.kl = some k then i else lastIx l k i
theorem lastIx_gt (l : List Rec) (k : List UInt8) (i n : Nat) : i < lastIx l k n ↔ ∃ j, i < j ∧ j < n ∧ (l[j]?).map Rec.kl = some k := by
  induction n with
  | zero => simp [lastIx]
  | succ n ih =>
    rw [lastIx]
    split
    · rename_i h
      constructor
      · intro hi; exact ⟨n, hi, by omega, h⟩
      · rintro ⟨j, h1, h2, _⟩; omega
    · rename_i h
      rw [ih]
      constructor
      · rintro ⟨j, h1, h2, h3⟩; exact ⟨j, h1, by omega, h3⟩
      · rintro ⟨j, h1, h2, h3⟩
        by_cases e : j = n
        · subst e; exact absurd h3 h
        · exact ⟨j, h1, by omega, h3⟩
theorem lastIx_le (l : List Rec) (k : List UInt8) (n : Nat) : lastIx l k n ≤ n := by
  induction n with
  | zero => exact Nat.le_refl _
  | succ n ih => rw [lastIx]; split <;> omega
theorem laterF_iff (k : List UInt8) (l : List Rec) (i : Nat) : laterF k (l.drop i) = true ↔ ∃ j, i ≤ j ∧ j < l.length ∧ (l[j]?).map Rec.kl = some k := by
  unfold laterF
  rw [List.any_eq_true]
  constructor
  · rintro ⟨x, hx, hk⟩
    obtain ⟨j, hj, rfl⟩ := List.getElem_of_mem hx
    rw [List.length_drop] at hj
    refine ⟨i + j, by omega, by omega, ?_⟩
    rw [List.getElem_drop] at hk
    rw [List.getElem?_eq_getElem (by omega)]
    simpa using hk
  · rintro ⟨j, h1, h2, h3⟩
    rw [List.getElem?_eq_getElem h2] at h3
    refine ⟨l[j], ?_, by simpa using h3⟩
    rw [List.mem_iff_getElem]
    exact ⟨j - i, by rw [List.length_drop]; omega, by rw [List.getElem_drop]; congr 1; omega⟩
theorem laterF_last (l : List Rec) (k : List UInt8) (i : Nat) : laterF k (l.drop (i + 1)) = decide (i < lastIx l k l.length) := by
  rw [Bool.eq_iff_iff, decide_eq_true_iff, laterF_iff, lastIx_gt]
  rfl
theorem laterF_none (k : List UInt8) (l : List Rec) (i : Nat) (h : l.length ≤ i) : laterF k (l.drop i) = false := by
  rw [List.drop_eq_nil_of_le h]
  rfl
theorem laterF_step (k : List UInt8) (l : List Rec) (i : Nat) (h : i < l.length) : laterF k (l.drop i) = ((l[i].kl == k) || laterF k (l.drop (i + 1))) := by
  rw [drop_at l i h]
  rfl
end Go.Proofs.Ytominplelmbecaa.Y
