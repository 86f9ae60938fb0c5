/-
  Whole numbers below 2^53 as floats: sums, differences and products of them are exact.
-/
import Derived.Laws.ComplexArith
namespace Go.Proofs.Ytddmnmeijnncmab
open Ieee

theorem log2_shift (q d : Nat) (h : q ≠ 0) : (q <<< d).log2 = q.log2 + d := by
  rw [Nat.shiftLeft_eq]
  have h0 : q * 2 ^ d ≠ 0 := Nat.mul_ne_zero h (Nat.pos_iff_ne_zero.1 (Nat.two_pow_pos d))
  obtain ⟨h1, h2⟩ := (Nat.log2_eq_iff h).1 rfl
  refine (Nat.log2_eq_iff h0).2 ⟨?_, ?_⟩
  · rw [Nat.pow_add]; exact Nat.mul_le_mul_right _ h1
  · rw [show q.log2 + d + 1 = (q.log2 + 1) + d by omega, Nat.pow_add]
    exact Nat.mul_lt_mul_of_pos_right h2 (Nat.two_pow_pos d)

/-- Nothing is lost where nothing but noughts is cut off. -/
theorem cut_exact (way : Toward) (neg : Bool) (q d : Nat) (h : q ≠ 0) : way.cut neg (q <<< d) d = q := by
  have hm : min d ((q <<< d).log2 + 2) = d := by rw [log2_shift q d h]; omega
  have hg : (1 <<< d : Nat) = 2 ^ d := by rw [Nat.shiftLeft_eq, Nat.one_mul]
  have hp := Nat.two_pow_pos d
  have hl : (q <<< d) / 2 ^ d = q := by rw [Nat.shiftLeft_eq]; exact Nat.mul_div_cancel _ hp
  have hr : (q <<< d) % 2 ^ d = 0 := by rw [Nat.shiftLeft_eq]; exact Nat.mul_mod_left _ _
  unfold Toward.cut
  simp only [hm, hg, hl, hr]
  cases way
  · have e1 : decide (2 ^ d < 2 * 0) = false := decide_eq_false (by omega)
    have e2 : (2 ^ d == 2 * 0) = false := beq_eq_false_iff_ne.2 (by omega)
    simp only [e1, e2, Bool.false_and, Bool.or_false, Bool.toNat_false, Nat.add_zero]
  · simp
  · simp
  · simp

theorem log2_le (m : Nat) (h : m ≠ 0) (hm : m < 2 ^ 53) : m.log2 ≤ 52 := by
  have := (Nat.log2_lt h).2 hm
  omega

/-- The significand of a whole number. -/
theorem kept_range (m : Nat) (h : m ≠ 0) (hm : m < 2 ^ 53) : 2 ^ 52 ≤ m <<< (52 - m.log2) ∧ m <<< (52 - m.log2) < 2 ^ 53 := by
  have hl := log2_le m h hm
  obtain ⟨h1, h2⟩ := (Nat.log2_eq_iff h).1 rfl
  rw [Nat.shiftLeft_eq]
  constructor
  · calc 2 ^ 52 = 2 ^ m.log2 * 2 ^ (52 - m.log2) := by rw [← Nat.pow_add, show m.log2 + (52 - m.log2) = 52 by omega]
      _ ≤ _ := Nat.mul_le_mul_right _ h1
  · calc m * 2 ^ (52 - m.log2) < 2 ^ (m.log2 + 1) * 2 ^ (52 - m.log2) := Nat.mul_lt_mul_of_pos_right h2 (Nat.two_pow_pos _)
      _ = 2 ^ 53 := by rw [← Nat.pow_add, show m.log2 + 1 + (52 - m.log2) = 53 by omega]

theorem least : double.leastPlace = -1074 := by decide
theorem binade52 : double.binade = 2 ^ 52 := rfl

/-- However a whole number is told, its word is one. -/
theorem nearest_whole (neg : Bool) (m k : Nat) (h : m ≠ 0) (hm : m < 2 ^ 53) :
    double.nearest neg (m <<< k) (-(k : Int)) = double.word neg ((m.log2 + 1022) * 2 ^ 52 + m <<< (52 - m.log2)) := by
  have hl := log2_le m h hm
  have h0 : m <<< k ≠ 0 := by rw [Nat.shiftLeft_eq]; exact Nat.mul_ne_zero h (Nat.pos_iff_ne_zero.1 (Nat.two_pow_pos k))
  have hkr := kept_range m h hm
  unfold Format.nearest
  rw [if_neg h0, log2_shift m k h, least, binade52]
  have e0 : double.fractionBits = 52 := rfl
  rw [e0]
  have e1 : max (-(k : Int) + ((m.log2 + k : Nat) : Int) - ((52 : Nat) : Int)) (-1074) = (m.log2 : Int) - 52 := by omega
  simp only [e1]
  have hcut : Toward.even.cut neg (m <<< k <<< (-(k : Int) - ((m.log2 : Int) - 52)).toNat) ((m.log2 : Int) - 52 - -(k : Int)).toNat = m <<< (52 - m.log2) := by
    by_cases hk : k ≤ 52 - m.log2
    · have e2 : (-(k : Int) - ((m.log2 : Int) - 52)).toNat = 52 - m.log2 - k := by omega
      have e3 : ((m.log2 : Int) - 52 - -(k : Int)).toNat = 0 := by omega
      rw [e2, e3, ← Nat.shiftLeft_add, show k + (52 - m.log2 - k) = 52 - m.log2 by omega]
      have := cut_exact .even neg (m <<< (52 - m.log2)) 0 (by omega)
      rwa [Nat.shiftLeft_zero] at this
    · have e2 : (-(k : Int) - ((m.log2 : Int) - 52)).toNat = 0 := by omega
      obtain ⟨d, hd⟩ : ∃ d, k = (52 - m.log2) + d := ⟨k - (52 - m.log2), by omega⟩
      have e3 : ((m.log2 : Int) - 52 - -(k : Int)).toNat = d := by omega
      rw [e2, e3, Nat.shiftLeft_zero, hd, Nat.shiftLeft_add]
      exact cut_exact .even neg _ d (by omega)
  rw [hcut]
  have e4 : ((m.log2 : Int) - 52 - -1074).toNat = m.log2 + 1022 := by omega
  rw [e4]
  have e5 : double.infRung = 2047 * 2 ^ 52 := by decide
  rw [e5, Nat.min_eq_left]
  omega

theorem fl_word (n : Int) (h : n ≠ 0) (hn : n.natAbs < 2 ^ 53) : floatOfInt .f64 n = double.word (decide (n < 0)) ((n.natAbs.log2 + 1022) * 2 ^ 52 + n.natAbs <<< (52 - n.natAbs.log2)) := by
  have := nearest_whole (decide (n < 0)) n.natAbs 0 (by omega) hn
  rw [Nat.shiftLeft_zero] at this
  exact this
theorem fl_zero : floatOfInt .f64 0 = 0 := by decide

/-- What a whole number's word stands for: the number. -/
theorem fl_read (n : Int) (hn : n.natAbs < 2 ^ 53) : ∃ k : Nat, double.read (floatOfInt .f64 n) = .number (decide (n < 0)) (n.natAbs <<< k) (-(k : Int)) := by
  by_cases h : n = 0
  · subst h
    exact ⟨1074, by rw [fl_zero]; decide⟩
  · have hl := log2_le n.natAbs (by omega) hn
    obtain ⟨k1, k2⟩ := kept_range n.natAbs (by omega) hn
    refine ⟨52 - n.natAbs.log2, ?_⟩
    rw [fl_word n h hn]
    generalize n.natAbs <<< (52 - n.natAbs.log2) = K at *
    generalize n.natAbs.log2 = L at *
    have hs : double.signWeight = 2 ^ 63 := by decide
    have hi : double.infRung = 2047 * 2 ^ 52 := by decide
    have key : ∀ neg : Bool, double.read (double.word neg ((L + 1022) * 2 ^ 52 + K)) = .number neg K (-((52 - L : Nat) : Int)) := by
      intro neg
      have e1 : double.word neg ((L + 1022) * 2 ^ 52 + K) % 2 ^ 63 = (L + 1022) * 2 ^ 52 + K := by
        unfold Format.word
        rw [hs]
        cases neg
        · simp only [Bool.false_eq_true, if_false]; omega
        · simp only [if_true]; omega
      have e2 : (double.word neg ((L + 1022) * 2 ^ 52 + K) / 2 ^ 63 % 2 == 1) = neg := by
        unfold Format.word
        rw [hs]
        cases neg
        · simp only [Bool.false_eq_true, if_false]
          rw [beq_eq_false_iff_ne]; omega
        · simp only [if_true]
          rw [beq_iff_eq]; omega
      unfold Format.read
      simp only [hs, hi, least, binade52, e1, e2]
      rw [if_neg (by omega), if_pos (by omega)]
      congr 1 <;> omega
    exact key _
theorem fl_write (neg : Bool) (m k : Nat) (h : m ≠ 0) (hm : m < 2 ^ 53) (n : Int) (hn : n.natAbs = m) (hs : neg = decide (n < 0)) : double.write (.number neg (m <<< k) (-(k : Int))) = floatOfInt .f64 n := by
  show double.nearest neg (m <<< k) (-(k : Int)) = _
  rw [nearest_whole neg m k h hm, fl_word n (by omega) (by omega), hn, hs]

theorem signed_eq (n : Int) (k j : Nat) : signed (decide (n < 0)) (n.natAbs <<< k) j = n * 2 ^ (k + j) := by
  unfold signed
  rw [← Nat.shiftLeft_add, Nat.shiftLeft_eq]
  have e : ((n.natAbs * 2 ^ (k + j) : Nat) : Int) = (n.natAbs : Int) * 2 ^ (k + j) := by rw [Int.natCast_mul, Int.natCast_pow]; rfl
  by_cases h : n < 0
  · rw [if_pos (by simpa using h), e, ← Int.neg_mul, show -(n.natAbs : Int) = n by omega]
  · rw [if_neg (by simpa using h), e, show (n.natAbs : Int) = n by omega]
theorem signed_neg (n : Int) (k j : Nat) : signed (!decide (n < 0)) (n.natAbs <<< k) j = -n * 2 ^ (k + j) := by
  unfold signed
  rw [← Nat.shiftLeft_add, Nat.shiftLeft_eq]
  have e : ((n.natAbs * 2 ^ (k + j) : Nat) : Int) = (n.natAbs : Int) * 2 ^ (k + j) := by rw [Int.natCast_mul, Int.natCast_pow]; rfl
  by_cases h : n < 0
  · rw [if_neg (by simp [h]), e, show (n.natAbs : Int) = -n by omega]
  · rw [if_pos (by simp [h]), e, ← Int.neg_mul, show (n.natAbs : Int) = n by omega]

/-- A total of two such numbers, told at one place: its word. -/
theorem total_write (z : Int) (k : Nat) (neg : Bool) (h0 : z = 0 → neg = false) (hz : z.natAbs < 2 ^ 53) :
    double.write (.number (if z * 2 ^ k = 0 then neg else decide (z * 2 ^ k < 0)) (z * 2 ^ k).natAbs (-(k : Int))) = floatOfInt .f64 z := by
  have hp : (0 : Int) < 2 ^ k := Int.pow_pos (by omega)
  by_cases h : z = 0
  · subst h
    rw [Int.zero_mul, if_pos rfl, h0 rfl, fl_zero]
    show double.nearest false 0 (-(k : Int)) = 0
    unfold Format.nearest
    rw [if_pos rfl]
    rfl
  · rw [if_neg (Int.mul_ne_zero h (by omega))]
    have e1 : (z * 2 ^ k).natAbs = z.natAbs <<< k := by
      rw [Int.natAbs_mul, Nat.shiftLeft_eq, Int.natAbs_pow]
      rfl
    have e2 : decide (z * 2 ^ k < 0) = decide (z < 0) := by
      apply decide_eq_decide.2
      constructor
      · intro h1
        apply Int.not_le.1
        intro h2
        have h3 : 0 ≤ z * 2 ^ k := Int.mul_nonneg h2 (by omega)
        omega
      · intro h1
        exact Int.mul_neg_of_neg_of_pos h1 hp
    rw [e1, e2]
    exact fl_write _ _ k (by omega) hz z rfl rfl

theorem fl_add (x y : Int) (hx : x.natAbs < 2 ^ 53) (hy : y.natAbs < 2 ^ 53) (hz : (x + y).natAbs < 2 ^ 53) :
    floatBits .add .f64 (floatOfInt .f64 x) (floatOfInt .f64 y) = some (floatOfInt .f64 (x + y)) := by
  obtain ⟨k, hk⟩ := fl_read x hx
  obtain ⟨j, hj⟩ := fl_read y hy
  show double.add _ _ = _
  unfold Format.add
  rw [hk, hj]
  simp only [Datum.sum, Option.map_some, Option.some.injEq]
  obtain ⟨b, hb1, hb2, hb3⟩ : ∃ b : Nat, min (-(k : Int)) (-(j : Int)) = -(b : Int) ∧ k ≤ b ∧ j ≤ b := ⟨max k j, by omega, by omega, by omega⟩
  rw [hb1]
  have e1 : (-(k : Int) - -(b : Int)).toNat = b - k := by omega
  have e2 : (-(j : Int) - -(b : Int)).toNat = b - j := by omega
  rw [e1, e2, signed_eq, signed_eq, show k + (b - k) = b by omega, show j + (b - j) = b by omega, ← Int.add_mul]
  refine total_write (x + y) b _ ?_ hz
  intro h
  simp
  omega
theorem fl_sub (x y : Int) (hx : x.natAbs < 2 ^ 53) (hy : y.natAbs < 2 ^ 53) (hz : (x - y).natAbs < 2 ^ 53) :
    floatBits .sub .f64 (floatOfInt .f64 x) (floatOfInt .f64 y) = some (floatOfInt .f64 (x - y)) := by
  obtain ⟨k, hk⟩ := fl_read x hx
  obtain ⟨j, hj⟩ := fl_read y hy
  show double.sub _ _ = _
  unfold Format.sub
  rw [hk, hj]
  simp only [Datum.opposite, Datum.sum, Option.map_some, Option.some.injEq]
  obtain ⟨b, hb1, hb2, hb3⟩ : ∃ b : Nat, min (-(k : Int)) (-(j : Int)) = -(b : Int) ∧ k ≤ b ∧ j ≤ b := ⟨max k j, by omega, by omega, by omega⟩
  rw [hb1]
  have e1 : (-(k : Int) - -(b : Int)).toNat = b - k := by omega
  have e2 : (-(j : Int) - -(b : Int)).toNat = b - j := by omega
  rw [e1, e2, signed_eq, signed_neg, show k + (b - k) = b by omega, show j + (b - j) = b by omega, ← Int.add_mul, ← Int.sub_eq_add_neg]
  refine total_write (x - y) b _ ?_ hz
  intro h
  have : x = y := by omega
  subst this
  simp
theorem fl_mul (x y : Int) (hx : x.natAbs < 2 ^ 53) (hy : y.natAbs < 2 ^ 53) (hz : (x * y).natAbs < 2 ^ 53) (h0 : 0 ≤ x ∧ 0 ≤ y) :
    floatBits .mul .f64 (floatOfInt .f64 x) (floatOfInt .f64 y) = some (floatOfInt .f64 (x * y)) := by
  obtain ⟨k, hk⟩ := fl_read x hx
  obtain ⟨j, hj⟩ := fl_read y hy
  show double.mul _ _ = _
  unfold Format.mul
  rw [hk, hj]
  simp only [Datum.product, Option.map_some, Option.some.injEq]
  have s1 : decide (x < 0) = false := decide_eq_false (by omega)
  have s2 : decide (y < 0) = false := decide_eq_false (by omega)
  have hp : 0 ≤ x * y := Int.mul_nonneg h0.1 h0.2
  have e1 : x.natAbs <<< k * y.natAbs <<< j = (x * y).natAbs <<< (k + j) := by
    rw [Nat.shiftLeft_eq, Nat.shiftLeft_eq, Nat.shiftLeft_eq, Int.natAbs_mul, Nat.pow_add]
    rw [Nat.mul_mul_mul_comm]
  have e2 : -(k : Int) + -(j : Int) = -((k + j : Nat) : Int) := by omega
  rw [s1, s2, e1, e2]
  by_cases h : x * y = 0
  · rw [h, fl_zero]
    show double.nearest false (Int.natAbs 0 <<< (k + j)) _ = 0
    unfold Format.nearest
    rw [if_pos (by simp)]
    rfl
  · exact fl_write _ _ _ (by omega) hz (x * y) rfl (decide_eq_false (by omega)).symm

/-- Back again. -/
theorem fl_back (n : Int) (hn : n.natAbs < 2 ^ 53) : floatToIntVal .f64 (floatOfInt .f64 n) .i64 = some n := by
  obtain ⟨k, hk⟩ := fl_read n hn
  unfold floatToIntVal
  have e : (FloatKind.f64.decode (floatOfInt .f64 n)).toInt .zero = some n := by
    show (double.read (floatOfInt .f64 n)).toInt .zero = some n
    rw [hk]
    simp only [Datum.toInt, Datum.integral]
    have e1 : (-(k : Int)).toNat = 0 := by omega
    have e2 : (- -(k : Int)).toNat = k := by omega
    rw [e1, e2, Nat.shiftLeft_zero]
    by_cases h : n = 0
    · subst h
      have : Toward.zero.cut (decide ((0 : Int) < 0)) (Int.natAbs 0 <<< k) k = 0 := by
        unfold Toward.cut
        simp
      rw [this]
      rfl
    · rw [cut_exact .zero _ _ k (by omega)]
      have := signed_eq n 0 0
      rw [Nat.shiftLeft_zero] at this
      rw [this]
      simp
  rw [e]
  have h1 : IntKind.i64.min = -9223372036854775808 := by decide
  have h2 : IntKind.i64.max = 9223372036854775807 := by decide
  simp only [h1, h2]
  rw [if_pos (by omega)]
/-- How two of them stand to each other. -/
theorem fl_order (x y : Int) (hx : x.natAbs < 2 ^ 53) (hy : y.natAbs < 2 ^ 53) : FloatKind.f64.format.order (floatOfInt .f64 x) (floatOfInt .f64 y) = some (compare x y) := by
  obtain ⟨k, hk⟩ := fl_read x hx
  obtain ⟨j, hj⟩ := fl_read y hy
  show double.order _ _ = _
  unfold Format.order
  rw [hk, hj]
  simp only [Datum.order, Option.some.injEq]
  obtain ⟨b, hb1, hb2, hb3⟩ : ∃ b : Nat, min (-(k : Int)) (-(j : Int)) = -(b : Int) ∧ k ≤ b ∧ j ≤ b := ⟨max k j, by omega, by omega, by omega⟩
  rw [hb1]
  have e1 : (-(k : Int) - -(b : Int)).toNat = b - k := by omega
  have e2 : (-(j : Int) - -(b : Int)).toNat = b - j := by omega
  rw [e1, e2, signed_eq, signed_eq, show k + (b - k) = b by omega, show j + (b - j) = b by omega]
  have hp : (0 : Int) < 2 ^ b := Int.pow_pos (by omega)
  rcases Int.lt_trichotomy x y with h | h | h
  · rw [Int.compare_eq_lt.2 h, Int.compare_eq_lt.2 (Int.mul_lt_mul_of_pos_right h hp)]
  · subst h; simp
  · rw [Int.compare_eq_gt.2 h, Int.compare_eq_gt.2 (Int.mul_lt_mul_of_pos_right h hp)]

/-- The product of complex numbers of whole parts. -/
theorem fl_cmul (a b c d : Int) (ha : 0 ≤ a ∧ a < 2 ^ 26) (hb : 0 ≤ b ∧ b < 2 ^ 26) (hc : 0 ≤ c ∧ c < 2 ^ 26) (hd : 0 ≤ d ∧ d < 2 ^ 26) :
    cMulBits (floatOfInt .f64 a) (floatOfInt .f64 b) (floatOfInt .f64 c) (floatOfInt .f64 d) = some (floatOfInt .f64 (a * c - b * d), floatOfInt .f64 (a * d + b * c)) := by
  have bd : ∀ x y : Int, 0 ≤ x ∧ x < 2 ^ 26 → 0 ≤ y ∧ y < 2 ^ 26 → 0 ≤ x * y ∧ x * y < 2 ^ 52 := by
    intro x y hx hy
    refine ⟨Int.mul_nonneg hx.1 hy.1, ?_⟩
    have : x * y ≤ (2 ^ 26 - 1) * (2 ^ 26 - 1) := Int.mul_le_mul (by omega) (by omega) hy.1 (by omega)
    omega
  have h1 := bd a c ha hc
  have h2 := bd b d hb hd
  have h3 := bd a d ha hd
  have h4 := bd b c hb hc
  unfold cMulBits
  rw [fl_mul a c (by omega) (by omega) (by omega) ⟨ha.1, hc.1⟩, fl_mul b d (by omega) (by omega) (by omega) ⟨hb.1, hd.1⟩, fl_mul a d (by omega) (by omega) (by omega) ⟨ha.1, hd.1⟩, fl_mul b c (by omega) (by omega) (by omega) ⟨hb.1, hc.1⟩]
  simp only [Option.bind_some]
  rw [fl_sub (a * c) (b * d) (by omega) (by omega) (by omega), fl_add (a * d) (b * c) (by omega) (by omega) (by omega)]
  rfl

end Go.Proofs.Ytddmnmeijnncmab
