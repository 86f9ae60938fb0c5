/-
  The document's own sum, as it runs.
-/
import Derived.Test.YtlalfehnkhenjabDoorProg
import Derived.Test.YtlalfehnkhenjabDoorCrc2
import Derived.WalkKit
import Derived.WalkSpells
import Derived.WalkLawsBesides
import Derived.BigQuiet
import Derived.Lib.EndianBits
import Derived.Laws.BitsAll
namespace Go.Proofs.YtlalfehnkhenjabDoor
open Go.RowKit

theorem hide {p : Prop} (h : p) : Hid p := h

theorem bitsF_snoc (k v c : Nat) : bitsF (k + 1) v c = bitF (bitsF k v c) (c / 2 ^ k % 2) := by
  induction k generalizing v c with
  | zero => simp [bitsF]
  | succ k ih =>
    show bitsF (k + 1) (bitF v (c % 2)) (c / 2) = bitF (bitsF k (bitF v (c % 2)) (c / 2)) (c / 2 ^ (k + 1) % 2)
    rw [ih, Nat.div_div_eq_div_mul, ← Nat.pow_succ', Nat.succ_eq_add_one]

theorem bitF_lt (v b : Nat) (h : v < 2 ^ 32) : bitF v b < 2 ^ 32 := by
  unfold bitF
  split
  · exact xor_lt (by omega) poly_lt
  · omega
theorem bitsF_lt (k v c : Nat) (h : v < 2 ^ 32) : bitsF k v c < 2 ^ 32 := by
  induction k generalizing v c with
  | zero => exact h
  | succ k ih => exact ih _ _ (bitF_lt v _ h)

theorem bit_cond (c q v : Nat) : ((c : Int) / 2 ^ q % 2 != (v : Int) % 2) = decide (c / 2 ^ q % 2 ≠ v % 2) := by
  have e : ((c : Int) / 2 ^ q % 2) = ((c / 2 ^ q % 2 : Nat) : Int) := by
    rw [Int.natCast_emod, Int.natCast_ediv, Int.natCast_pow]; rfl
  rw [e, Bool.eq_iff_iff]
  simp only [bne_iff_ne, ne_eq, decide_eq_true_eq]
  omega
theorem bitF_one (v b : Nat) (h : b ≠ v % 2) (hv : v < 2 ^ 32) : bits .xor .u32 ((v : Int) / 2) 2197175160 = ((bitF v b : Nat) : Int) := by
  have e : (v : Int) / 2 = ((v / 2 : Nat) : Int) := by omega
  unfold bitF
  rw [if_pos h, e]
  exact u32_xor_nat (v / 2) 2197175160 (by omega) (by decide)
theorem bitF_two (v b : Nat) (h : ¬ b ≠ v % 2) : (v : Int) / 2 = ((bitF v b : Nat) : Int) := by
  unfold bitF
  rw [if_neg h]
  omega
theorem take_snoc (s : ByteArray) (k : Nat) (h : k < s.size) : s.data.toList.take (k + 1) = s.data.toList.take k ++ [s[k]] := by
  have hl : k < s.data.toList.length := by simpa using h
  have : s[k] = s.data.toList[k] := rfl
  rw [this, List.take_add_one, List.getElem?_eq_getElem hl]
  rfl
theorem ret_u32 {a b : Int} (h : a = b) : Ending.returned (.int .u32 a) = .returned (.int .u32 b) := by rw [h]


end Go.Proofs.YtlalfehnkhenjabDoor
