/-
  Acts of a file, on lists of bytes; nothing of the program is in this text.
-/
import Derived.Test.YtknldpaaikcedaaGreatZM0
namespace Go.Proofs.YtknldpaaikcedaaGreat
open Go.RowKit

/-- What was done with a file since it was synced: bytes s that were appended, or (cuts) a Truncate to n; cap: the block of what the act captured. -/
structure FA where
  cuts : Bool
  cap : Nat
  s : ByteArray
  n : Nat
def FA.units (a : FA) : Nat :=
  match a.cuts with
  | false => a.s.size
  | true => 1
/-- The first u units of it, done with bytes. -/
def FA.run (a : FA) (l : List UInt8) (u : Nat) : List UInt8 :=
  match a.cuts with
  | false => l ++ a.s.data.toList.take u
  | true => l.take a.n
/-- May it be done? -/
def FA.fits (a : FA) (l : List UInt8) : Prop :=
  match a.cuts with
  | false => True
  | true => a.n ≤ l.length
def runAll (l : List UInt8) : List FA → List UInt8
  | [] => l
  | a :: A => runAll (a.run l a.units) A
def fitAll (l : List UInt8) : List FA → Prop
  | [] => True
  | a :: A => a.fits l ∧ fitAll (a.run l a.units) A
def unitsAll : List FA → Nat
  | [] => 0
  | a :: A => a.units + unitsAll A
/-- Bytes behind the first u units of acts. -/
def settleL (l : List UInt8) : List FA → Int → List UInt8
  | [], _ => l
  | a :: A, u => if u ≤ 0 then l else settleL (a.run l (min u a.units).toNat) A (u - min u a.units)

theorem settleL_none (l : List UInt8) (A : List FA) (u : Int) (h : u ≤ 0) : settleL l A u = l := by
  cases A with
  | nil => rfl
  | cons a A => simp only [settleL]; rw [if_pos h]
theorem settleL_step (l : List UInt8) (a : FA) (A : List FA) (u : Int) (h : ¬ u ≤ 0) : settleL l (a :: A) u = settleL (a.run l (min u a.units).toNat) A (u - min u a.units) := by
  simp only [settleL]; rw [if_neg h]
theorem run_length (a : FA) (l : List UInt8) (u : Nat) (h : u ≤ a.units) : (a.run l u).length ≤ l.length + a.units := by
  obtain ⟨_ | _, c, s, n⟩ := a
  · simp only [FA.run, FA.units, List.length_append, List.length_take] at *; omega
  · simp only [FA.run, FA.units, List.length_take] at *; omega
theorem runAll_append (l : List UInt8) (A B : List FA) : runAll l (A ++ B) = runAll (runAll l A) B := by
  induction A generalizing l with
  | nil => rfl
  | cons a A ih => exact ih _
theorem fitAll_append (l : List UInt8) (A B : List FA) : fitAll l (A ++ B) ↔ fitAll l A ∧ fitAll (runAll l A) B := by
  induction A generalizing l with
  | nil => simp [fitAll, runAll]
  | cons a A ih => simp only [List.cons_append, fitAll, runAll, ih, and_assoc]
theorem unitsAll_append (A B : List FA) : unitsAll (A ++ B) = unitsAll A + unitsAll B := by
  induction A with
  | nil => simp [unitsAll]
  | cons a A ih => simp only [List.cons_append, unitsAll, ih]; omega
theorem runAll_length (l : List UInt8) (A : List FA) : (runAll l A).length ≤ l.length + unitsAll A := by
  induction A generalizing l with
  | nil => simp [runAll, unitsAll]
  | cons a A ih =>
    have h1 := ih (a.run l a.units)
    have h2 := run_length a l a.units (Nat.le_refl _)
    simp only [runAll, unitsAll]
    omega
theorem settleL_length (l : List UInt8) (A : List FA) (u : Int) : (settleL l A u).length ≤ l.length + unitsAll A := by
  induction A generalizing l u with
  | nil => simp [settleL, unitsAll]
  | cons a A ih =>
    simp only [settleL, unitsAll]
    split
    · omega
    · have h1 := ih (a.run l (min u a.units).toNat) (u - min u a.units)
      have h2 := run_length a l (min u a.units).toNat (by omega)
      omega
/-- All of them, if there are no more units than asked for. -/
theorem settleL_all (l : List UInt8) (A : List FA) (u : Int) (h : (unitsAll A : Int) < u) : settleL l A u = runAll l A := by
  induction A generalizing l u with
  | nil => rfl
  | cons a A ih =>
    simp only [unitsAll] at h
    rw [settleL_step l a A u (by omega)]
    have e : min u (a.units : Int) = a.units := by omega
    rw [e, Int.toNat_natCast]
    exact ih _ _ (by omega)

end Go.Proofs.YtknldpaaikcedaaGreat
