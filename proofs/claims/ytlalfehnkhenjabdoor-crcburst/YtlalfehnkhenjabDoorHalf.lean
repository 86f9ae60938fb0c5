/-
  The sum, half a byte at a time, on numbers. Nothing of the program is in this text.
-/
import Derived.Test.YtlalfehnkhenjabDoorCrc2
namespace Go.Proofs.YtlalfehnkhenjabDoor

/-- What is put in while four bits are shifted out. -/
def tab4 (i : Nat) : Nat := linN 4 i
def halfF (x : Nat) : Nat := x / 16 ^^^ tab4 (x % 16)

theorem split4 (x : Nat) : x = x % 16 ^^^ 2 ^ 4 * (x / 16) := by
  have : 2 ^ 4 * (x / 16) = (x / 16) <<< 4 := by rw [Nat.shiftLeft_eq, Nat.mul_comm]
  apply Nat.eq_of_testBit_eq
  intro i
  rw [Nat.testBit_xor, this, Nat.testBit_shiftLeft, show (16 : Nat) = 2 ^ 4 from rfl, Nat.testBit_mod_two_pow, Nat.testBit_div_two_pow]
  by_cases h : i < 4
  · have h8 : ¬ 4 ≤ i := by omega
    simp [h, h8]
  · have h8 : 4 ≤ i := by omega
    simp [h8, h, show i - 4 + 4 = i by omega]
theorem halfF_lin (x : Nat) : halfF x = linN 4 x := by
  unfold halfF tab4
  conv => rhs; rw [split4 x, linN_xor, linN_shift]
  exact Nat.xor_comm _ _
theorem byteF_half (v : Nat) (c : UInt8) : byteF v c = halfF (halfF (v ^^^ c.toNat)) := by
  rw [byteF_lin, halfF_lin, halfF_lin, ← linN_add]
theorem halfF_lt (x : Nat) (h : x < 2 ^ 32) : halfF x < 2 ^ 32 := by rw [halfF_lin]; exact linN_lt 4 x h
theorem tab4_lt (i : Nat) (h : i < 16) : tab4 i < 2 ^ 32 := linN_lt 4 i (by omega)

def tabZ : List Int := [0, 274646895, 549293790, 820201905, 1098587580, 1361435347, 1640403810, 1905808397, 2197175160, 2460548119, 2722870694, 2987750089, 3280807620, 3553878443, 3811616794, 4084100981]
theorem tab4_all : ∀ i : Fin 16, tabZ.getD i.val 0 = ((tab4 i.val : Nat) : Int) := by decide +kernel
theorem tab4_at (i : Nat) (h : i < 16) : tabZ.getD i 0 = ((tab4 i : Nat) : Int) := tab4_all ⟨i, h⟩

end Go.Proofs.YtlalfehnkhenjabDoor
