/-
  The codec's calls as plain functions on lists of bytes and items: what the walks are held against; nothing of the program is in this text.
-/
import Derived.Lib.Endian
import Derived.Lib.Bytealg
import Derived.Lib.Strings
namespace Go.Proofs.Ytfcpclpaalekiaa.K
structure It where
  k : Int
  n : Int
  s : ByteArray
def It.zero : It := ⟨0, 0, ⟨#[]⟩⟩
def It.ok (x : It) : Prop := -9223372036854775808 ≤ x.k ∧ x.k ≤ 9223372036854775807 ∧ 0 ≤ x.n ∧ x.n < 18446744073709551616 ∧ x.s.size ≤ 9223372036854775807
def widthN (k : Int) : Nat := if k = 1 then 1 else if k = 3 then 8 else 4
def kindB (k : Int) : Bool := decide (1 ≤ k) && decide (k ≤ 4)
def faultF (x : It) : Int :=
  if kindB x.k = false then 1
  else if x.k ≠ 4 ∧ (x.s.size ≠ 0 ∨ ¬ x.n < 256 ^ widthN x.k) then 1
  else if x.k = 4 ∧ x.n ≠ 0 then 1
  else if 100000 < x.s.size then 3 else 0
def numOf (x : It) : Nat := if x.k = 4 then x.s.size else x.n.toNat
def itemB (x : It) : List UInt8 := Lib.beBytes (widthN x.k) (numOf x) ++ x.s.data.toList
def firstFault : List It → Int
  | [] => 0
  | x :: l => if faultF x = 0 then firstFault l else faultF x
def encF (l : List It) : List UInt8 × Int :=
  if 1000 < l.length then ([], 3) else if firstFault l = 0 then (l.flatMap itemB, 0) else ([], firstFault l)
def letterF (k : Int) : UInt8 := if k = 1 then 98 else if k = 2 then 119 else if k = 3 then 108 else 116
def shapeF (l : List It) : List UInt8 × Int := if l.all (fun x => kindB x.k) = true then (l.map fun x => letterF x.k, 0) else ([], 1)
def letters : List UInt8 := [98, 119, 108, 116]
def kindOfL (c : UInt8) : Int := Lib.indexByte letters c + 1
def isLetter (c : UInt8) : Bool := decide (0 ≤ Lib.indexByte letters c)
def allL (l : List UInt8) : Bool := l.all isLetter
def itemF (c : UInt8) (s : List UInt8) : It × List UInt8 × Int :=
  if s.length < widthN (kindOfL c) then (It.zero, [], 2)
  else if kindOfL c = 4 then
    if 100000 < Lib.beNat (s.take 4) then (It.zero, [], 3)
    else if (s.drop 4).length < Lib.beNat (s.take 4) then (It.zero, [], 2)
    else (⟨4, 0, ⟨((s.drop 4).take (Lib.beNat (s.take 4))).toArray⟩⟩, (s.drop 4).drop (Lib.beNat (s.take 4)), 0)
  else (⟨kindOfL c, Lib.beNat (s.take (widthN (kindOfL c))), ⟨#[]⟩⟩, s.drop (widthN (kindOfL c)), 0)
def readF : Nat → List UInt8 → Nat → List UInt8 → List UInt8 → List It × Int
  | 0, _, _, _, _ => ([], 0)
  | f + 1, again, m, [], rest => if rest = [] then ([], 0) else if again = [] then ([], 10) else readF f again m again rest
  | f + 1, again, m, c :: t, rest =>
    if m = 1000 then ([], 3)
    else if (itemF c rest).2.2 = 0 then
      if (readF f again (m + 1) t (itemF c rest).2.1).2 = 0 then ((itemF c rest).1 :: (readF f again (m + 1) t (itemF c rest).2.1).1, 0)
      else ([], (readF f again (m + 1) t (itemF c rest).2.1).2)
    else ([], (itemF c rest).2.2)
def cutStar (s : List UInt8) : List UInt8 × List UInt8 × Bool :=
  if Lib.indexByte s 42 < 0 then (s, [], false) else (s.take (Lib.indexByte s 42).toNat, s.drop ((Lib.indexByte s 42).toNat + 1), true)
def shapeOk (s : List UInt8) : Bool :=
  !((cutStar s).2.2 && (cutStar s).2.1.isEmpty) && (allL (cutStar s).1 && allL (cutStar s).2.1)
def decF (shape s : List UInt8) : List It × Int :=
  if shapeOk shape = true then readF (2 * s.length + 2) (cutStar shape).2.1 0 (cutStar shape).1 s else ([], 1)
theorem beFrom_snoc (l : List UInt8) (a : Nat) (c : UInt8) : Lib.beFrom a (l ++ [c]) = Lib.beFrom a l * 256 + c.toNat := by
  induction l generalizing a with
  | nil => rfl
  | cons b r ih => simp [Lib.beFrom, ih]
theorem beNat_snoc (l : List UInt8) (c : UInt8) : Lib.beNat (l ++ [c]) = Lib.beNat l * 256 + c.toNat := beFrom_snoc l 0 c
theorem beFrom_lt (l : List UInt8) (a : Nat) : Lib.beFrom a l < (a + 1) * 256 ^ l.length := by
  induction l generalizing a with
  | nil => simp [Lib.beFrom]
  | cons b r ih =>
    have h1 := ih (a * 256 + b.toNat)
    have h2 := b.toNat_lt
    simp only [Lib.beFrom, List.length_cons, Nat.pow_succ]
    refine Nat.lt_of_lt_of_le h1 ?_
    rw [Nat.mul_comm (256 ^ r.length) 256, ← Nat.mul_assoc]
    exact Nat.mul_le_mul_right _ (by omega)
theorem beNat_lt (l : List UInt8) : Lib.beNat l < 256 ^ l.length := by
  have := beFrom_lt l 0
  simpa [Lib.beNat] using this
end Go.Proofs.Ytfcpclpaalekiaa.K
