/-
  carillonref08's Keep, Gone, as they run.
-/
import Derived.Test.YtominplelmbecaaZYC3
namespace Go.Proofs.Ytominplelmbecaa.Y
open Go.RowKit Go.Maps
set_option maxRecDepth 100000

theorem Try.infoRec : Try.prog.info? 63 = some Try.t63 := by kernel_rfl
theorem Try.zeroRec : Try.t63.zero = some (.agg #[.int .i64 0, .string ⟨#[]⟩, .int .i64 0, .string ⟨#[]⟩, .string ⟨#[]⟩]) := by kernel_rfl
theorem Try.sizeRec : Try.t63.size = 5 := by kernel_rfl
theorem Try.bytesRec : Try.t63.bytes = 64 := by kernel_rfl
theorem Try.infoI : Try.prog.info? 3 = some Try.t3 := by kernel_rfl
theorem Try.zeroI : Try.t3.zero = some (.int .i64 0) := by kernel_rfl
theorem Try.sizeI : Try.t3.size = 1 := by kernel_rfl
theorem Try.bytesI : Try.t3.bytes = 8 := by kernel_rfl
theorem rec_ones (a c : Int) (b d e : ByteArray) : ∀ u ∈ [Value.int .i64 a, .string b, .int .i64 c, .string d, .string e], u.oneCell' = true := by
  intro u hu
  simp at hu
  rcases hu with rfl | rfl | rfl | rfl | rfl <;> rfl
theorem int_ones (a : Int) : ∀ u ∈ [Value.int .i64 a], u.oneCell' = true := by
  intro u hu
  simp at hu
  subst hu
  rfl
theorem nil_own (w : World) (B : Nat) (e : TypeId) (z : Nat) : w.ownsRow B e z (.slice none 0 0) 0 [] := ⟨by simp, .inl ⟨rfl, rfl⟩⟩
theorem own_below {w w' : World} {B e z : Nat} {v : Value} {n : Nat} {xs : List Value} (h : w.ownsRow B e z v n xs) (hb : Below w.heap.size w w') : w'.ownsRow B e z v n xs := below_row hb h
def intCells (l : List Int) : List Value := l.map (Value.int .i64)
theorem intCells_snoc (l : List Int) (x : Int) : intCells (l ++ [x]) = intCells l ++ [.int .i64 x] := by simp [intCells]
end Go.Proofs.Ytominplelmbecaa.Y
