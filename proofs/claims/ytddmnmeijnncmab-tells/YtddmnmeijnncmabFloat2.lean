/-
  Whole numbers as floats, where a product of a number below 0 and 0 may come: it is 0 below 0, which is lost again in the next sum.
-/
import Derived.Test.YtddmnmeijnncmabFloat1
namespace Go.Proofs.Ytddmnmeijnncmab
open Ieee

def nz : Nat := 9223372036854775808
theorem nz_read : double.read nz = .number true 0 (-((1074 : Nat) : Int)) := by decide

theorem nz_add (y : Int) (hy : y.natAbs < 2 ^ 53) : floatBits .add .f64 nz (floatOfInt .f64 y) = some (floatOfInt .f64 y) := by
  obtain ⟨j, hj⟩ := fl_read y hy
  show double.add _ _ = _
  unfold Format.add
  rw [nz_read, hj]
  simp only [Datum.sum, Option.map_some, Option.some.injEq]
  obtain ⟨b, hb1, hb2, hb3⟩ : ∃ b : Nat, min (-((1074 : Nat) : Int)) (-(j : Int)) = -(b : Int) ∧ 1074 ≤ b ∧ j ≤ b := ⟨max 1074 j, by omega, by omega, by omega⟩
  rw [hb1]
  have e1 : (-((1074 : Nat) : Int) - -(b : Int)).toNat = b - 1074 := by omega
  have e2 : (-(j : Int) - -(b : Int)).toNat = b - j := by omega
  have e3 : signed true 0 (b - 1074) = 0 := by unfold signed; simp
  rw [e1, e2, e3, signed_eq, show j + (b - j) = b by omega, Int.zero_add]
  refine total_write y b _ ?_ hy
  intro h
  subst h
  simp
theorem nz_sub (y : Int) (hy : y.natAbs < 2 ^ 53) (h0 : y ≠ 0) : floatBits .sub .f64 nz (floatOfInt .f64 y) = some (floatOfInt .f64 (-y)) := by
  obtain ⟨j, hj⟩ := fl_read y hy
  show double.sub _ _ = _
  unfold Format.sub
  rw [nz_read, hj]
  simp only [Datum.opposite, Datum.sum, Option.map_some, Option.some.injEq]
  obtain ⟨b, hb1, hb2, hb3⟩ : ∃ b : Nat, min (-((1074 : Nat) : Int)) (-(j : Int)) = -(b : Int) ∧ 1074 ≤ b ∧ j ≤ b := ⟨max 1074 j, by omega, by omega, by omega⟩
  rw [hb1]
  have e1 : (-((1074 : Nat) : Int) - -(b : Int)).toNat = b - 1074 := by omega
  have e2 : (-(j : Int) - -(b : Int)).toNat = b - j := by omega
  have e3 : signed true 0 (b - 1074) = 0 := by unfold signed; simp
  rw [e1, e2, e3, signed_neg, show j + (b - j) = b by omega, Int.zero_add]
  refine total_write (-y) b _ ?_ (by omega)
  intro h
  omega
theorem nz_sub_zero : floatBits .sub .f64 nz (floatOfInt .f64 0) = some nz := by rw [fl_zero]; decide

theorem fl_mul_ne (x y : Int) (hx : x.natAbs < 2 ^ 53) (hy : y.natAbs < 2 ^ 53) (hz : (x * y).natAbs < 2 ^ 53) (h : x * y ≠ 0) :
    floatBits .mul .f64 (floatOfInt .f64 x) (floatOfInt .f64 y) = some (floatOfInt .f64 (x * y)) := by
  obtain ⟨k, hk⟩ := fl_read x hx
  obtain ⟨j, hj⟩ := fl_read y hy
  show double.mul _ _ = _
  unfold Format.mul
  rw [hk, hj]
  simp only [Datum.product, Option.map_some, Option.some.injEq]
  have e1 : x.natAbs <<< k * y.natAbs <<< j = (x * y).natAbs <<< (k + j) := by
    rw [Nat.shiftLeft_eq, Nat.shiftLeft_eq, Nat.shiftLeft_eq, Int.natAbs_mul, Nat.pow_add]
    rw [Nat.mul_mul_mul_comm]
  have e2 : -(k : Int) + -(j : Int) = -((k + j : Nat) : Int) := by omega
  rw [e1, e2]
  have hx0 : x ≠ 0 := by rintro rfl; exact h (Int.zero_mul _)
  have hy0 : y ≠ 0 := by rintro rfl; exact h (Int.mul_zero _)
  refine fl_write _ _ _ (by omega) hz (x * y) rfl ?_
  by_cases h1 : x < 0 <;> by_cases h2 : y < 0
  · have := Int.mul_pos_of_neg_of_neg h1 h2
    simp [h1, h2]; omega
  · have := Int.mul_neg_of_neg_of_pos h1 (show 0 < y by omega)
    simp [h1, h2, this]
  · have := Int.mul_neg_of_pos_of_neg (show 0 < x by omega) h2
    simp [h1, h2, this]
  · have := Int.mul_pos (show 0 < x by omega) (show 0 < y by omega)
    simp [h1, h2]; omega
theorem fl_mul_nz : floatBits .mul .f64 (floatOfInt .f64 (-1)) (floatOfInt .f64 0) = some nz := by decide

/-- A product of which one part may be -1, and another number added. -/
theorem fl_cjoin (a b c d e f : Int) (ha : -1 ≤ a ∧ a < 2 ^ 26) (hb : 0 ≤ b ∧ b < 2 ^ 26) (hc : 0 ≤ c ∧ c < 2 ^ 26) (hd : 0 ≤ d ∧ d < 2 ^ 26) (he : 0 ≤ e ∧ e < 2 ^ 26) (hf : 0 ≤ f ∧ f < 2 ^ 26) :
    ∃ u v, cMulBits (floatOfInt .f64 a) (floatOfInt .f64 b) (floatOfInt .f64 c) (floatOfInt .f64 d) = some (u, v) ∧
      cSumBits .add .f64 u v (floatOfInt .f64 e) (floatOfInt .f64 f) = some (floatOfInt .f64 (a * c - b * d + e), floatOfInt .f64 (a * d + b * c + f)) := by
  have bd : ∀ x y : Int, 0 ≤ x ∧ x < 2 ^ 26 → 0 ≤ y ∧ y < 2 ^ 26 → 0 ≤ x * y ∧ x * y < 2 ^ 52 - 2 ^ 27 + 2 := by
    intro x y hx hy
    refine ⟨Int.mul_nonneg hx.1 hy.1, ?_⟩
    have : x * y ≤ (2 ^ 26 - 1) * (2 ^ 26 - 1) := Int.mul_le_mul (by omega) (by omega) hy.1 (by omega)
    omega
  have h2 := bd b d hb hd
  have h4 := bd b c hb hc
  by_cases h : 0 ≤ a
  · have h1 := bd a c ⟨h, ha.2⟩ hc
    have h3 := bd a d ⟨h, ha.2⟩ hd
    refine ⟨_, _, fl_cmul a b c d ⟨h, ha.2⟩ hb hc hd, ?_⟩
    unfold cSumBits
    rw [fl_add (a * c - b * d) e (by omega) (by omega) (by omega), fl_add (a * d + b * c) f (by omega) (by omega) (by omega)]
    rfl
  · obtain rfl : a = -1 := by omega
    have hre : ∃ ac u, floatBits .mul .f64 (floatOfInt .f64 (-1)) (floatOfInt .f64 c) = some ac ∧ floatBits .sub .f64 ac (floatOfInt .f64 (b * d)) = some u ∧ floatBits .add .f64 u (floatOfInt .f64 e) = some (floatOfInt .f64 (-1 * c - b * d + e)) := by
      by_cases hc0 : c = 0
      · subst hc0
        by_cases hbd : b * d = 0
        · refine ⟨nz, nz, fl_mul_nz, by rw [hbd]; exact nz_sub_zero, ?_⟩
          rw [hbd, show (-1 * 0 - 0 + e : Int) = e by omega]
          exact nz_add e (by omega)
        · refine ⟨nz, _, fl_mul_nz, nz_sub (b * d) (by omega) hbd, ?_⟩
          rw [show (-1 * 0 - b * d + e : Int) = -(b * d) + e by omega]
          exact fl_add _ _ (by omega) (by omega) (by omega)
      · exact ⟨_, _, fl_mul_ne (-1) c (by omega) (by omega) (by omega) (by omega), fl_sub (-1 * c) (b * d) (by omega) (by omega) (by omega), fl_add _ _ (by omega) (by omega) (by omega)⟩
    have him : ∃ ad v, floatBits .mul .f64 (floatOfInt .f64 (-1)) (floatOfInt .f64 d) = some ad ∧ floatBits .add .f64 ad (floatOfInt .f64 (b * c)) = some v ∧ floatBits .add .f64 v (floatOfInt .f64 f) = some (floatOfInt .f64 (-1 * d + b * c + f)) := by
      by_cases hd0 : d = 0
      · subst hd0
        refine ⟨nz, _, fl_mul_nz, nz_add (b * c) (by omega), ?_⟩
        rw [show (-1 * 0 + b * c + f : Int) = b * c + f by omega]
        exact fl_add _ _ (by omega) (by omega) (by omega)
      · exact ⟨_, _, fl_mul_ne (-1) d (by omega) (by omega) (by omega) (by omega), fl_add (-1 * d) (b * c) (by omega) (by omega) (by omega), fl_add _ _ (by omega) (by omega) (by omega)⟩
    obtain ⟨ac, u, r1, r2, r3⟩ := hre
    obtain ⟨ad, v, i1, i2, i3⟩ := him
    refine ⟨u, v, ?_, ?_⟩
    · unfold cMulBits
      rw [r1, fl_mul b d (by omega) (by omega) (by omega) ⟨hb.1, hd.1⟩, i1, fl_mul b c (by omega) (by omega) (by omega) ⟨hb.1, hc.1⟩]
      simp only [Option.bind_some]
      rw [r2, i2]
      rfl
    · unfold cSumBits
      rw [r3, i3]
      rfl

theorem fl_csum (a b c d : Int) (ha : 0 ≤ a ∧ a < 2 ^ 52) (hb : 0 ≤ b ∧ b < 2 ^ 52) (hc : 0 ≤ c ∧ c < 2 ^ 52) (hd : 0 ≤ d ∧ d < 2 ^ 52) :
    cSumBits .add .f64 (floatOfInt .f64 a) (floatOfInt .f64 b) (floatOfInt .f64 c) (floatOfInt .f64 d) = some (floatOfInt .f64 (a + c), floatOfInt .f64 (b + d)) := by
  unfold cSumBits
  rw [fl_add a c (by omega) (by omega) (by omega), fl_add b d (by omega) (by omega) (by omega)]
  rfl
theorem fl_cdiff (a b c d : Int) (ha : 0 ≤ a ∧ a < 2 ^ 52) (hb : 0 ≤ b ∧ b < 2 ^ 52) (hc : 0 ≤ c ∧ c < 2 ^ 52) (hd : 0 ≤ d ∧ d < 2 ^ 52) :
    cSumBits .sub .f64 (floatOfInt .f64 a) (floatOfInt .f64 b) (floatOfInt .f64 c) (floatOfInt .f64 d) = some (floatOfInt .f64 (a - c), floatOfInt .f64 (b - d)) := by
  unfold cSumBits
  rw [fl_sub a c (by omega) (by omega) (by omega), fl_sub b d (by omega) (by omega) (by omega)]
  rfl
/-- A product, and another number added. -/
theorem fl_cstep (a b c d e f : Int) (ha : 0 ≤ a ∧ a < 2 ^ 26) (hb : 0 ≤ b ∧ b < 2 ^ 26) (hc : 0 ≤ c ∧ c < 2 ^ 26) (hd : 0 ≤ d ∧ d < 2 ^ 26) (he : 0 ≤ e ∧ e < 2 ^ 26) (hf : 0 ≤ f ∧ f < 2 ^ 26) :
    cSumBits .add .f64 (floatOfInt .f64 (a * c - b * d)) (floatOfInt .f64 (a * d + b * c)) (floatOfInt .f64 e) (floatOfInt .f64 f) = some (floatOfInt .f64 (a * c - b * d + e), floatOfInt .f64 (a * d + b * c + f)) := by
  have bd : ∀ x y : Int, 0 ≤ x ∧ x < 2 ^ 26 → 0 ≤ y ∧ y < 2 ^ 26 → 0 ≤ x * y ∧ x * y < 2 ^ 52 - 2 ^ 27 + 2 := by
    intro x y hx hy
    refine ⟨Int.mul_nonneg hx.1 hy.1, ?_⟩
    have : x * y ≤ (2 ^ 26 - 1) * (2 ^ 26 - 1) := Int.mul_le_mul (by omega) (by omega) hy.1 (by omega)
    omega
  have h1 := bd a c ha hc
  have h2 := bd b d hb hd
  have h3 := bd a d ha hd
  have h4 := bd b c hb hc
  unfold cSumBits
  rw [fl_add (a * c - b * d) e (by omega) (by omega) (by omega), fl_add (a * d + b * c) f (by omega) (by omega) (by omega)]
  rfl

end Go.Proofs.Ytddmnmeijnncmab
