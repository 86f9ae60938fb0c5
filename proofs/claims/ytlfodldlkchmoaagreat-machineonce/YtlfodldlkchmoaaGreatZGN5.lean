/-
  The program's Pow, Inv, Begin, as they run.
-/
import Derived.Laws.ComplexArith
import Derived.Test.YtlfodldlkchmoaaGreatProg
import Derived.WalkKit
import Derived.WalkSpells
import Derived.WalkLawsBesides
import Derived.BigQuiet
import Derived.Deep.RegionHeld3
namespace Go.Proofs.YtlfodldlkchmoaaGreat.G
open Ieee
theorem log2_shift (q d : Nat) (h : q ≠ 0) : (q <<< d).log2 = q.log2 + d := by
  rw [Nat.shiftLeft_eq]
  have h0 : q * 2 ^ d ≠ 0 := Nat.mul_ne_zero h (Nat.pos_iff_ne_zero.1 (Nat.two_pow_pos d))
  obtain ⟨h1, h2⟩ := (Nat.log2_eq_iff h).1 rfl
  refine (Nat.log2_eq_iff h0).2 ⟨?_, ?_⟩
  · rw [Nat.pow_add]; exact Nat.mul_le_mul_right _ h1
  · rw [show q.log2 + d + 1 = (q.log2 + 1) + d by omega, Nat.pow_add]
    exact Nat.mul_lt_mul_of_pos_right h2 (Nat.two_pow_pos d)
theorem cut_exact (way : Toward) (neg : Bool) (q d : Nat) (h : q ≠ 0) : way.cut neg (q <<< d) d = q := by
  have hm : min d ((q <<< d).log2 + 2) = d := by rw [log2_shift q d h]; omega
  have hg : (1 <<< d : Nat) = 2 ^ d := by rw [Nat.shiftLeft_eq, Nat.one_mul]
  have hp := Nat.two_pow_pos d
  have hl : (q <<< d) / 2 ^ d = q := by rw [Nat.shiftLeft_eq]; exact Nat.mul_div_cancel _ hp
  have hr : (q <<< d) % 2 ^ d = 0 := by rw [Nat.shiftLeft_eq]; exact Nat.mul_mod_left _ _
  unfold Toward.cut
  simp only [hm, hg, hl, hr]
  cases way
  · have e1 : decide (2 ^ d < 2 * 0) = false := decide_eq_false (by omega)
    have e2 : (2 ^ d == 2 * 0) = false := beq_eq_false_iff_ne.2 (by omega)
    simp only [e1, e2, Bool.false_and, Bool.or_false, Bool.toNat_false, Nat.add_zero]
  · simp
  · simp
  · simp
theorem log2_le (m : Nat) (h : m ≠ 0) (hm : m < 2 ^ 53) : m.log2 ≤ 52 := by
  have := (Nat.log2_lt h).2 hm
  omega
theorem kept_range (m : Nat) (h : m ≠ 0) (hm : m < 2 ^ 53) : 2 ^ 52 ≤ m <<< (52 - m.log2) ∧ m <<< (52 - m.log2) < 2 ^ 53 := by
  have hl := log2_le m h hm
  obtain ⟨h1, h2⟩ := (Nat.log2_eq_iff h).1 rfl
  rw [Nat.shiftLeft_eq]
  constructor
  · calc 2 ^ 52 = 2 ^ m.log2 * 2 ^ (52 - m.log2) := by rw [← Nat.pow_add, show m.log2 + (52 - m.log2) = 52 by omega]
      _ ≤ _ := Nat.mul_le_mul_right _ h1
  · calc m * 2 ^ (52 - m.log2) < 2 ^ (m.log2 + 1) * 2 ^ (52 - m.log2) := Nat.mul_lt_mul_of_pos_right h2 (Nat.two_pow_pos _)
      _ = 2 ^ 53 := by rw [← Nat.pow_add, show m.log2 + 1 + (52 - m.log2) = 53 by omega]
theorem least : double.leastPlace = -1074 := by decide
theorem binade52 : double.binade = 2 ^ 52 := rfl
theorem nearest_whole (neg : Bool) (m k : Nat) (h : m ≠ 0) (hm : m < 2 ^ 53) :
    double.nearest neg (m <<< k) (-(k : Int)) = double.word neg ((m.log2 + 1022) * 2 ^ 52 + m <<< (52 - m.log2)) := by
  have hl := log2_le m h hm
  have h0 : m <<< k ≠ 0 := by rw [Nat.shiftLeft_eq]; exact Nat.mul_ne_zero h (Nat.pos_iff_ne_zero.1 (Nat.two_pow_pos k))
  have hkr := kept_range m h hm
  unfold Format.nearest
  rw [if_neg h0, log2_shift m k h, least, binade52]
  have e0 : double.fractionBits = 52 := rfl
  rw [e0]
  have e1 : max (-(k : Int) + ((m.log2 + k : Nat) : Int) - ((52 : Nat) : Int)) (-1074) = (m.log2 : Int) - 52 := by omega
  simp only [e1]
  have hcut : Toward.even.cut neg (m <<< k <<< (-(k : Int) - ((m.log2 : Int) - 52)).toNat) ((m.log2 : Int) - 52 - -(k : Int)).toNat = m <<< (52 - m.log2) := by
    by_cases hk : k ≤ 52 - m.log2
    · have e2 : (-(k : Int) - ((m.log2 : Int) - 52)).toNat = 52 - m.log2 - k := by omega
      have e3 : ((m.log2 : Int) - 52 - -(k : Int)).toNat = 0 := by omega
      rw [e2, e3, ← Nat.shiftLeft_add, show k + (52 - m.log2 - k) = 52 - m.log2 by omega]
      have := cut_exact .even neg (m <<< (52 - m.log2)) 0 (by omega)
      rwa [Nat.shiftLeft_zero] at this
    · have e2 : (-(k : Int) - ((m.log2 : Int) - 52)).toNat = 0 := by omega
      obtain ⟨d, hd⟩ : ∃ d, k = (52 - m.log2) + d := ⟨k - (52 - m.log2), by omega⟩
      have e3 : ((m.log2 : Int) - 52 - -(k : Int)).toNat = d := by omega
      rw [e2, e3, Nat.shiftLeft_zero, hd, Nat.shiftLeft_add]
      exact cut_exact .even neg _ d (by omega)
  rw [hcut]
  have e4 : ((m.log2 : Int) - 52 - -1074).toNat = m.log2 + 1022 := by omega
  rw [e4]
  have e5 : double.infRung = 2047 * 2 ^ 52 := by decide
  rw [e5, Nat.min_eq_left]
  omega
theorem fl_word (n : Int) (h : n ≠ 0) (hn : n.natAbs < 2 ^ 53) : floatOfInt .f64 n = double.word (decide (n < 0)) ((n.natAbs.log2 + 1022) * 2 ^ 52 + n.natAbs <<< (52 - n.natAbs.log2)) := by
  have := nearest_whole (decide (n < 0)) n.natAbs 0 (by omega) hn
  rw [Nat.shiftLeft_zero] at this
  exact this
theorem fl_zero : floatOfInt .f64 0 = 0 := by decide
theorem fl_read (n : Int) (hn : n.natAbs < 2 ^ 53) : ∃ k : Nat, double.read (floatOfInt .f64 n) = .number (decide (n < 0)) (n.natAbs <<< k) (-(k : Int)) := by
  by_cases h : n = 0
  · subst h
    exact ⟨1074, by rw [fl_zero]; decide⟩
  · have hl := log2_le n.natAbs (by omega) hn
    obtain ⟨k1, k2⟩ := kept_range n.natAbs (by omega) hn
    refine ⟨52 - n.natAbs.log2, ?_⟩
    rw [fl_word n h hn]
    generalize n.natAbs <<< (52 - n.natAbs.log2) = K at *
    generalize n.natAbs.log2 = L at *
    have hs : double.signWeight = 2 ^ 63 := by decide
    have hi : double.infRung = 2047 * 2 ^ 52 := by decide
    have key : ∀ neg : Bool, double.read (double.word neg ((L + 1022) * 2 ^ 52 + K)) = .number neg K (-((52 - L : Nat) : Int)) := by
      intro neg
      have e1 : double.word neg ((L + 1022) * 2 ^ 52 + K) % 2 ^ 63 = (L + 1022) * 2 ^ 52 + K := by
        unfold Format.word
        rw [hs]
        cases neg
        · simp only [Bool.false_eq_true, if_false]; omega
        · simp only [if_true]; omega
      have e2 : (double.word neg ((L + 1022) * 2 ^ 52 + K) / 2 ^ 63 % 2 == 1) = neg := by
        unfold Format.word
        rw [hs]
        cases neg
        · simp only [Bool.false_eq_true, if_false]
          rw [beq_eq_false_iff_ne]; omega
        · simp only [if_true]
          rw [beq_iff_eq]; omega
      unfold Format.read
      simp only [hs, hi, least, binade52, e1, e2]
      rw [if_neg (by omega), if_pos (by omega)]
      congr 1 <;> omega
    exact key _
theorem fl_write (neg : Bool) (m k : Nat) (h : m ≠ 0) (hm : m < 2 ^ 53) (n : Int) (hn : n.natAbs = m) (hs : neg = decide (n < 0)) : double.write (.number neg (m <<< k) (-(k : Int))) = floatOfInt .f64 n := by
  show double.nearest neg (m <<< k) (-(k : Int)) = _
  rw [nearest_whole neg m k h hm, fl_word n (by omega) (by omega), hn, hs]
theorem signed_eq (n : Int) (k j : Nat) : signed (decide (n < 0)) (n.natAbs <<< k) j = n * 2 ^ (k + j) := by
  unfold signed
  rw [← Nat.shiftLeft_add, Nat.shiftLeft_eq]
  have e : ((n.natAbs * 2 ^ (k + j) : Nat) : Int) = (n.natAbs : Int) * 2 ^ (k + j) := by rw [Int.natCast_mul, Int.natCast_pow]; rfl
  by_cases h : n < 0
  · rw [if_pos (by simpa using h), e, ← Int.neg_mul, show -(n.natAbs : Int) = n by omega]
  · rw [if_neg (by simpa using h), e, show (n.natAbs : Int) = n by omega]
theorem signed_neg (n : Int) (k j : Nat) : signed (!decide (n < 0)) (n.natAbs <<< k) j = -n * 2 ^ (k + j) := by
  unfold signed
  rw [← Nat.shiftLeft_add, Nat.shiftLeft_eq]
  have e : ((n.natAbs * 2 ^ (k + j) : Nat) : Int) = (n.natAbs : Int) * 2 ^ (k + j) := by rw [Int.natCast_mul, Int.natCast_pow]; rfl
  by_cases h : n < 0
  · rw [if_neg (by simp [h]), e, show (n.natAbs : Int) = -n by omega]
  · rw [if_pos (by simp [h]), e, ← Int.neg_mul, show (n.natAbs : Int) = n by omega]
theorem total_write (z : Int) (k : Nat) (neg : Bool) (h0 : z = 0 → neg = false) (hz : z.natAbs < 2 ^ 53) :
    double.write (.number (if z * 2 ^ k = 0 then neg else decide (z * 2 ^ k < 0)) (z * 2 ^ k).natAbs (-(k : Int))) = floatOfInt .f64 z := by
  have hp : (0 : Int) < 2 ^ k := Int.pow_pos (by omega)
  by_cases h : z = 0
  · subst h
    rw [Int.zero_mul, if_pos rfl, h0 rfl, fl_zero]
    show double.nearest false 0 (-(k : Int)) = 0
    unfold Format.nearest
    rw [if_pos rfl]
    rfl
  · rw [if_neg (Int.mul_ne_zero h (by omega))]
    have e1 : (z * 2 ^ k).natAbs = z.natAbs <<< k := by
      rw [Int.natAbs_mul, Nat.shiftLeft_eq, Int.natAbs_pow]
      rfl
    have e2 : decide (z * 2 ^ k < 0) = decide (z < 0) := by
      apply decide_eq_decide.2
      constructor
      · intro h1
        apply Int.not_le.1
        intro h2
        have h3 : 0 ≤ z * 2 ^ k := Int.mul_nonneg h2 (by omega)
        omega
      · intro h1
        exact Int.mul_neg_of_neg_of_pos h1 hp
    rw [e1, e2]
    exact fl_write _ _ k (by omega) hz z rfl rfl
theorem fl_add (x y : Int) (hx : x.natAbs < 2 ^ 53) (hy : y.natAbs < 2 ^ 53) (hz : (x + y).natAbs < 2 ^ 53) :
    floatBits .add .f64 (floatOfInt .f64 x) (floatOfInt .f64 y) = some (floatOfInt .f64 (x + y)) := by
  obtain ⟨k, hk⟩ := fl_read x hx
  obtain ⟨j, hj⟩ := fl_read y hy
  show double.add _ _ = _
  unfold Format.add
  rw [hk, hj]
  simp only [Datum.sum, Option.map_some, Option.some.injEq]
  obtain ⟨b, hb1, hb2, hb3⟩ : ∃ b : Nat, min (-(k : Int)) (-(j : Int)) = -(b : Int) ∧ k ≤ b ∧ j ≤ b := ⟨max k j, by omega, by omega, by omega⟩
  rw [hb1]
  have e1 : (-(k : Int) - -(b : Int)).toNat = b - k := by omega
  have e2 : (-(j : Int) - -(b : Int)).toNat = b - j := by omega
  rw [e1, e2, signed_eq, signed_eq, show k + (b - k) = b by omega, show j + (b - j) = b by omega, ← Int.add_mul]
  refine total_write (x + y) b _ ?_ hz
  intro h
  simp
  omega
theorem fl_sub (x y : Int) (hx : x.natAbs < 2 ^ 53) (hy : y.natAbs < 2 ^ 53) (hz : (x - y).natAbs < 2 ^ 53) :
    floatBits .sub .f64 (floatOfInt .f64 x) (floatOfInt .f64 y) = some (floatOfInt .f64 (x - y)) := by
  obtain ⟨k, hk⟩ := fl_read x hx
  obtain ⟨j, hj⟩ := fl_read y hy
  show double.sub _ _ = _
  unfold Format.sub
  rw [hk, hj]
  simp only [Datum.opposite, Datum.sum, Option.map_some, Option.some.injEq]
  obtain ⟨b, hb1, hb2, hb3⟩ : ∃ b : Nat, min (-(k : Int)) (-(j : Int)) = -(b : Int) ∧ k ≤ b ∧ j ≤ b := ⟨max k j, by omega, by omega, by omega⟩
  rw [hb1]
  have e1 : (-(k : Int) - -(b : Int)).toNat = b - k := by omega
  have e2 : (-(j : Int) - -(b : Int)).toNat = b - j := by omega
  rw [e1, e2, signed_eq, signed_neg, show k + (b - k) = b by omega, show j + (b - j) = b by omega, ← Int.add_mul, ← Int.sub_eq_add_neg]
  refine total_write (x - y) b _ ?_ hz
  intro h
  have : x = y := by omega
  subst this
  simp
theorem fl_mul (x y : Int) (hx : x.natAbs < 2 ^ 53) (hy : y.natAbs < 2 ^ 53) (hz : (x * y).natAbs < 2 ^ 53) (h0 : 0 ≤ x ∧ 0 ≤ y) :
    floatBits .mul .f64 (floatOfInt .f64 x) (floatOfInt .f64 y) = some (floatOfInt .f64 (x * y)) := by
  obtain ⟨k, hk⟩ := fl_read x hx
  obtain ⟨j, hj⟩ := fl_read y hy
  show double.mul _ _ = _
  unfold Format.mul
  rw [hk, hj]
  simp only [Datum.product, Option.map_some, Option.some.injEq]
  have s1 : decide (x < 0) = false := decide_eq_false (by omega)
  have s2 : decide (y < 0) = false := decide_eq_false (by omega)
  have hp : 0 ≤ x * y := Int.mul_nonneg h0.1 h0.2
  have e1 : x.natAbs <<< k * y.natAbs <<< j = (x * y).natAbs <<< (k + j) := by
    rw [Nat.shiftLeft_eq, Nat.shiftLeft_eq, Nat.shiftLeft_eq, Int.natAbs_mul, Nat.pow_add]
    rw [Nat.mul_mul_mul_comm]
  have e2 : -(k : Int) + -(j : Int) = -((k + j : Nat) : Int) := by omega
  rw [s1, s2, e1, e2]
  by_cases h : x * y = 0
  · rw [h, fl_zero]
    show double.nearest false (Int.natAbs 0 <<< (k + j)) _ = 0
    unfold Format.nearest
    rw [if_pos (by simp)]
    rfl
  · exact fl_write _ _ _ (by omega) hz (x * y) rfl (decide_eq_false (by omega)).symm
theorem fl_back (n : Int) (hn : n.natAbs < 2 ^ 53) : floatToIntVal .f64 (floatOfInt .f64 n) .i64 = some n := by
  obtain ⟨k, hk⟩ := fl_read n hn
  unfold floatToIntVal
  have e : (FloatKind.f64.decode (floatOfInt .f64 n)).toInt .zero = some n := by
    show (double.read (floatOfInt .f64 n)).toInt .zero = some n
    rw [hk]
    simp only [Datum.toInt, Datum.integral]
    have e1 : (-(k : Int)).toNat = 0 := by omega
    have e2 : (- -(k : Int)).toNat = k := by omega
    rw [e1, e2, Nat.shiftLeft_zero]
    by_cases h : n = 0
    · subst h
      have : Toward.zero.cut (decide ((0 : Int) < 0)) (Int.natAbs 0 <<< k) k = 0 := by
        unfold Toward.cut
        simp
      rw [this]
      rfl
    · rw [cut_exact .zero _ _ k (by omega)]
      have := signed_eq n 0 0
      rw [Nat.shiftLeft_zero] at this
      rw [this]
      simp
  rw [e]
  have h1 : IntKind.i64.min = -9223372036854775808 := by decide
  have h2 : IntKind.i64.max = 9223372036854775807 := by decide
  simp only [h1, h2]
  rw [if_pos (by omega)]
theorem fl_cmul (a b c d : Int) (ha : 0 ≤ a ∧ a < 2 ^ 26) (hb : 0 ≤ b ∧ b < 2 ^ 26) (hc : 0 ≤ c ∧ c < 2 ^ 26) (hd : 0 ≤ d ∧ d < 2 ^ 26) :
    cMulBits (floatOfInt .f64 a) (floatOfInt .f64 b) (floatOfInt .f64 c) (floatOfInt .f64 d) = some (floatOfInt .f64 (a * c - b * d), floatOfInt .f64 (a * d + b * c)) := by
  have bd : ∀ x y : Int, 0 ≤ x ∧ x < 2 ^ 26 → 0 ≤ y ∧ y < 2 ^ 26 → 0 ≤ x * y ∧ x * y < 2 ^ 52 := by
    intro x y hx hy
    refine ⟨Int.mul_nonneg hx.1 hy.1, ?_⟩
    have : x * y ≤ (2 ^ 26 - 1) * (2 ^ 26 - 1) := Int.mul_le_mul (by omega) (by omega) hy.1 (by omega)
    omega
  have h1 := bd a c ha hc
  have h2 := bd b d hb hd
  have h3 := bd a d ha hd
  have h4 := bd b c hb hc
  unfold cMulBits
  rw [fl_mul a c (by omega) (by omega) (by omega) ⟨ha.1, hc.1⟩, fl_mul b d (by omega) (by omega) (by omega) ⟨hb.1, hd.1⟩, fl_mul a d (by omega) (by omega) (by omega) ⟨ha.1, hd.1⟩, fl_mul b c (by omega) (by omega) (by omega) ⟨hb.1, hc.1⟩]
  simp only [Option.bind_some]
  rw [fl_sub (a * c) (b * d) (by omega) (by omega) (by omega), fl_add (a * d) (b * c) (by omega) (by omega) (by omega)]
  rfl
end Go.Proofs.YtlfodldlkchmoaaGreat.G
namespace Go.Proofs.YtlfodldlkchmoaaGreat.G
open Ieee
theorem fl_cstep (a b c d e f : Int) (ha : 0 ≤ a ∧ a < 2 ^ 26) (hb : 0 ≤ b ∧ b < 2 ^ 26) (hc : 0 ≤ c ∧ c < 2 ^ 26) (hd : 0 ≤ d ∧ d < 2 ^ 26) (he : 0 ≤ e ∧ e < 2 ^ 26) (hf : 0 ≤ f ∧ f < 2 ^ 26) :
    cSumBits .add .f64 (floatOfInt .f64 (a * c - b * d)) (floatOfInt .f64 (a * d + b * c)) (floatOfInt .f64 e) (floatOfInt .f64 f) = some (floatOfInt .f64 (a * c - b * d + e), floatOfInt .f64 (a * d + b * c + f)) := by
  have bd : ∀ x y : Int, 0 ≤ x ∧ x < 2 ^ 26 → 0 ≤ y ∧ y < 2 ^ 26 → 0 ≤ x * y ∧ x * y < 2 ^ 52 - 2 ^ 27 + 2 := by
    intro x y hx hy
    refine ⟨Int.mul_nonneg hx.1 hy.1, ?_⟩
    have : x * y ≤ (2 ^ 26 - 1) * (2 ^ 26 - 1) := Int.mul_le_mul (by omega) (by omega) hy.1 (by omega)
    omega
  have h1 := bd a c ha hc
  have h2 := bd b d hb hd
  have h3 := bd a d ha hd
  have h4 := bd b c hb hc
  unfold cSumBits
  rw [fl_add (a * c - b * d) e (by omega) (by omega) (by omega), fl_add (a * d + b * c) f (by omega) (by omega) (by omega)]
  rfl
end Go.Proofs.YtlfodldlkchmoaaGreat.G
namespace Go.Proofs.YtlfodldlkchmoaaGreat.G
def ch : Nat → Nat → Nat
  | _, 0 => 1
  | 0, _ + 1 => 0
  | n + 1, k + 1 => ch n k + ch n (k + 1)
def sm (f : Nat → Nat) : Nat → Nat
  | 0 => 0
  | n + 1 => sm f n + f n
end Go.Proofs.YtlfodldlkchmoaaGreat.G
namespace Go.Proofs.YtlfodldlkchmoaaGreat.G
def pI : Int := 33554383
structure Pr where
  re : Int
  im : Int
def Pr.right (a : Pr) : Prop := 0 ≤ a.re ∧ a.re < pI ∧ 0 ≤ a.im ∧ a.im < pI
def Pr.zero : Pr := ⟨0, 0⟩
def Pr.one : Pr := ⟨1, 0⟩
def addP (a b : Pr) : Pr := ⟨(a.re + b.re) % pI, (a.im + b.im) % pI⟩
def subP (a b : Pr) : Pr := ⟨(a.re - b.re) % pI, (a.im - b.im) % pI⟩
def mulP (a b : Pr) : Pr := ⟨(a.re * b.re - a.im * b.im) % pI, (a.re * b.im + a.im * b.re) % pI⟩
def Cg (x y : Int) : Prop := ∃ k, x = y + pI * k
theorem Cg.refl (x : Int) : Cg x x := ⟨0, by simp⟩
theorem Cg.of_eq {x y : Int} (h : x = y) : Cg x y := h ▸ Cg.refl x
theorem Cg.symm {x y : Int} (h : Cg x y) : Cg y x := by
  obtain ⟨k, rfl⟩ := h
  exact ⟨-k, by rw [Int.mul_neg]; omega⟩
theorem Cg.trans {x y z : Int} (h : Cg x y) (g : Cg y z) : Cg x z := by
  obtain ⟨k, rfl⟩ := h
  obtain ⟨m, rfl⟩ := g
  exact ⟨k + m, by rw [Int.mul_add]; omega⟩
theorem Cg.add {x y u v : Int} (h : Cg x y) (g : Cg u v) : Cg (x + u) (y + v) := by
  obtain ⟨k, rfl⟩ := h
  obtain ⟨m, rfl⟩ := g
  exact ⟨k + m, by rw [Int.mul_add]; omega⟩
theorem Cg.sub {x y u v : Int} (h : Cg x y) (g : Cg u v) : Cg (x - u) (y - v) := by
  obtain ⟨k, rfl⟩ := h
  obtain ⟨m, rfl⟩ := g
  exact ⟨k - m, by rw [Int.mul_sub]; omega⟩
theorem Cg.mul {x y u v : Int} (h : Cg x y) (g : Cg u v) : Cg (x * u) (y * v) := by
  obtain ⟨k, rfl⟩ := h
  obtain ⟨m, rfl⟩ := g
  exact ⟨y * m + k * v + pI * k * m, by grind⟩
theorem Cg.mod (x : Int) : Cg (x % pI) x := ⟨-(x / pI), by have := Int.emod_def x pI; rw [Int.mul_neg]; omega⟩
theorem Cg.eq {x y : Int} (h : Cg x y) : x % pI = y % pI := by
  obtain ⟨k, rfl⟩ := h
  exact Int.add_mul_emod_self_left y pI k
theorem Cg.of_mod {x y : Int} (h : x % pI = y % pI) : Cg x y := ((Cg.mod x).symm.trans (Cg.of_eq h)).trans (Cg.mod y)
theorem mod_small {x : Int} (h0 : 0 ≤ x) (h1 : x < pI) : x % pI = x := Int.emod_eq_of_lt h0 h1
theorem mod_right (x : Int) : 0 ≤ x % pI ∧ x % pI < pI := ⟨Int.emod_nonneg x (by decide), Int.emod_lt_of_pos x (by decide)⟩
theorem addP_right (a b : Pr) : (addP a b).right := ⟨(mod_right _).1, (mod_right _).2, (mod_right _).1, (mod_right _).2⟩
theorem pr_ext {a b : Pr} (h1 : a.re = b.re) (h2 : a.im = b.im) : a = b := by cases a; cases b; simp_all
def Cp (a b : Pr) : Prop := Cg a.re b.re ∧ Cg a.im b.im
theorem Cp.eq {a b : Pr} (h : Cp a b) (ha : a.right) (hb : b.right) : a = b := by
  have h1 := h.1.eq
  have h2 := h.2.eq
  rw [mod_small ha.1 ha.2.1, mod_small hb.1 hb.2.1] at h1
  rw [mod_small ha.2.2.1 ha.2.2.2, mod_small hb.2.2.1 hb.2.2.2] at h2
  exact pr_ext h1 h2
def addR (a b : Pr) : Pr := ⟨a.re + b.re, a.im + b.im⟩
def subR (a b : Pr) : Pr := ⟨a.re - b.re, a.im - b.im⟩
def mulR (a b : Pr) : Pr := ⟨a.re * b.re - a.im * b.im, a.re * b.im + a.im * b.re⟩
theorem Cp.refl (a : Pr) : Cp a a := ⟨Cg.refl _, Cg.refl _⟩
theorem Cp.symm {a b : Pr} (h : Cp a b) : Cp b a := ⟨h.1.symm, h.2.symm⟩
theorem Cp.trans {a b c : Pr} (h : Cp a b) (g : Cp b c) : Cp a c := ⟨h.1.trans g.1, h.2.trans g.2⟩
theorem Cp.of_eq {a b : Pr} (h : a = b) : Cp a b := h ▸ Cp.refl a
theorem Cp.addP (a b : Pr) : Cp (addP a b) (addR a b) := ⟨Cg.mod _, Cg.mod _⟩
theorem Cp.subP (a b : Pr) : Cp (subP a b) (subR a b) := ⟨Cg.mod _, Cg.mod _⟩
theorem Cp.mulP (a b : Pr) : Cp (mulP a b) (mulR a b) := ⟨Cg.mod _, Cg.mod _⟩
theorem Cp.add {a b c d : Pr} (h : Cp a b) (g : Cp c d) : Cp (addR a c) (addR b d) := ⟨h.1.add g.1, h.2.add g.2⟩
theorem Cp.sub {a b c d : Pr} (h : Cp a b) (g : Cp c d) : Cp (subR a c) (subR b d) := ⟨h.1.sub g.1, h.2.sub g.2⟩
theorem Cp.mul {a b c d : Pr} (h : Cp a b) (g : Cp c d) : Cp (mulR a c) (mulR b d) := ⟨(h.1.mul g.1).sub (h.2.mul g.2), (h.1.mul g.2).add (h.2.mul g.1)⟩
theorem Cg.zero_mod {x : Int} : Cg x 0 ↔ x % pI = 0 := by
  constructor
  · intro h; have := h.eq; simpa using this
  · intro h; exact Cg.of_mod (by rw [h]; rfl)
end Go.Proofs.YtlfodldlkchmoaaGreat.G
namespace Go.Proofs.YtlfodldlkchmoaaGreat.G
def gP : Pr := ⟨2, 3⟩
def stepP (d : Pr) (v : Int) : Pr := addP (mulP d gP) ⟨v, 0⟩
def runP (d : Pr) (vs : List Int) : Pr := vs.foldl stepP d
def textV (s : List UInt8) : List Int := ((257 + (s.length : Int)) % pI) :: s.map fun c => (c.toNat : Int) + 1
def onP (d : Pr) (s : List UInt8) : Pr := runP d (textV s)
theorem runP_right (d : Pr) (vs : List Int) (hd : d.right) : (runP d vs).right := by
  induction vs generalizing d with
  | nil => exact hd
  | cons v vs ih => exact ih _ (addP_right _ _)
theorem runP_append (d : Pr) (a b : List Int) : runP d (a ++ b) = runP (runP d a) b := by simp [runP]
theorem sub_zero {a b : Pr} (ha : a.right) (hb : b.right) : subP a b = Pr.zero ↔ a = b := by
  constructor
  · intro h
    have h1 := congrArg Pr.re h
    have h2 := congrArg Pr.im h
    have c1 : Cg (a.re - b.re) 0 := Cg.zero_mod.2 h1
    have c2 : Cg (a.im - b.im) 0 := Cg.zero_mod.2 h2
    refine Cp.eq ⟨?_, ?_⟩ ha hb
    · exact (Cg.of_eq (by omega)).trans ((c1.add (Cg.refl b.re)).trans (Cg.of_eq (by omega)))
    · exact (Cg.of_eq (by omega)).trans ((c2.add (Cg.refl b.im)).trans (Cg.of_eq (by omega)))
  · rintro rfl
    unfold subP Pr.zero
    apply pr_ext <;> simp
end Go.Proofs.YtlfodldlkchmoaaGreat.G
namespace Go.Proofs.YtlfodldlkchmoaaGreat.G
end Go.Proofs.YtlfodldlkchmoaaGreat.G
namespace Go.Proofs.YtlfodldlkchmoaaGreat.G
open Go.RowKit
set_option maxRecDepth 100000
theorem hide {p : Prop} (h : p) : Hid p := h
theorem ret_i64 {a b : Int} (h : a = b) : Ending.returned (.int .i64 a) = .returned (.int .i64 b) := by rw [h]
theorem fl0 : floatOfInt .f64 0 = 0 := by decide
theorem fl2 : floatOfInt .f64 2 = 4611686018427387904 := by decide
theorem fl3 : floatOfInt .f64 3 = 4613937818241073152 := by decide
theorem conv_back (x : Int) (hx : x.natAbs < 2 ^ 53) (w : World) : (convert 146 2 (.float .f64 (floatOfInt .f64 x))).run Tryz.prog w = .ok (.int .i64 x) w :=
  run_convert_float_int w 146 2 .f64 .i64 _ x (by rw [Tryz.underlying146]; rfl) Tryz.underlying2 (fl_back x hx)
theorem tmod_pos (x : Int) : x % 33554383 = if x.tmod 33554383 < 0 then x.tmod 33554383 + 33554383 else x.tmod 33554383 := by
  by_cases h : 0 ≤ x
  · have h1 : x.tmod 33554383 = x % 33554383 := Int.tmod_eq_emod_of_nonneg h
    rw [h1, if_neg (by omega)]
  · have h1 : x.tmod 33554383 = -((-x) % 33554383) := by
      have : (-x).tmod 33554383 = (-x) % 33554383 := Int.tmod_eq_emod_of_nonneg (by omega)
      rw [← this, Int.neg_tmod, Int.neg_neg]
    rw [h1]
    split <;> omega
theorem modulo_any (x : Int) (hx : x.natAbs < 2 ^ 53) (w : World) :
    Calls Tryz.prog 94 #[.float .f64 (floatOfInt .f64 x)] w fun e w' => e = .returned (.int .i64 (x % 33554383)) ∧ w' = w := by
  have hc := conv_back x hx
  have hb := tmod_pos x
  have ht : -33554383 ≤ x.tmod 33554383 ∧ x.tmod 33554383 < 33554383 := by
    have := Int.emod_nonneg x (show (33554383 : Int) ≠ 0 by decide)
    have := Int.emod_lt_of_pos x (show (0 : Int) < 33554383 by decide)
    split at hb <;> omega
  obtain ⟨t1, t2⟩ := ht
  have HB := hide hb
  clear hb
  generalize x % 33554383 = m at *
  by_cases hn : x.tmod 33554383 < 0
  · have HM : Hid (m = x.tmod 33554383 + 33554383) := by have := HB.out; rw [if_pos hn] at this; exact this
    clear HB
    go_enter Tryz.func94, Tryz.ntmps94
    go_wp2_with (simp only [hc])
    go_ret
    exact ⟨ret_i64 HM.out.symm, rfl⟩
  · have HM : Hid (m = x.tmod 33554383) := by have := HB.out; rw [if_neg hn] at this; exact this
    clear HB
    go_enter Tryz.func94, Tryz.ntmps94
    go_wp2_with (simp only [hc])
    go_ret
    exact ⟨ret_i64 HM.out.symm, rfl⟩
end Go.Proofs.YtlfodldlkchmoaaGreat.G
namespace Go.Proofs.YtlfodldlkchmoaaGreat.G
open Go.RowKit
set_option maxRecDepth 100000
structure Held (W : World) (b : Nat) (x y : Int) : Prop where
  box : W.heap[b]? = some (.cells #[.int .i64 x, .int .i64 y] 45)
section
variable {W W' : World} {b : Nat} {x y : Int}
theorem Held.lt (h : Held W b x y) : b < W.heap.size := (Array.getElem?_eq_some_iff.1 h.box).1
theorem Held.ne (h : Held W b x y) : b ≠ W.heap.size := Nat.ne_of_lt h.lt
theorem Held.c0 (h : Held W b x y) : W.cell? ⟨b, 0, none⟩ = some (.int .i64 x) := by rw [Lib.cell_of_heap h.box]; rfl
theorem Held.c1 (h : Held W b x y) : W.cell? ⟨b, 1, none⟩ = some (.int .i64 y) := by rw [Lib.cell_of_heap h.box]; rfl
theorem Held.f0 (h : Held W b x y) : W.frozen? ⟨b, 0, none⟩ = false := Lib.frozen_of_heap h.box 0
theorem Held.f1 (h : Held W b x y) : W.frozen? ⟨b, 1, none⟩ = false := Lib.frozen_of_heap h.box 1
theorem Held.new (W : World) (x y : Int) : Held (W.alloc (.cells #[.int .i64 x, .int .i64 y] 45)) W.heap.size x y := ⟨by show (W.heap.push _)[W.heap.size]? = _; simp⟩
theorem Held.at (W : World) (x y : Int) (b : Nat) (h : b = W.heap.size) : Held (W.alloc (.cells #[.int .i64 x, .int .i64 y] 45)) b x y := h ▸ Held.new W x y
theorem Held.alloc (h : Held W b x y) (o : Obj) : Held (W.alloc o) b x y := ⟨(Below.heap_alloc W o b h.lt).trans h.box⟩
theorem Held.below (h : Held W b x y) (hb : Below W.heap.size W W') : Held W' b x y := ⟨(hb.block b h.lt).trans h.box⟩
theorem Held.past {V : World} (h : Held W b x y) (hb : Below V.heap.size V W') (e : V.heap = W.heap := by rfl) : Held W' b x y := ⟨(hb.block b (by rw [e]; exact h.lt)).trans (by rw [e]; exact h.box)⟩
theorem Held.drewN (h : Held W b x y) (n : Nat) : Held (W.drewN n) b x y := ⟨by rw [World.heap_drewN]; exact h.box⟩
end
theorem below_new {w W : World} (h : Below w.heap.size w W) (o : Obj) : Below w.heap.size w (W.alloc o) := h.alloc h.size o
theorem bpast {w V W W' : World} (h : Below w.heap.size w W) (k : Below V.heap.size V W') (e : V.heap = W.heap := by rfl) (e1 : V.os = W.os := by rfl) (e2 : V.tape = W.tape := by rfl) (e3 : V.output = W.output := by rfl) : Below w.heap.size w W' :=
  ⟨k.os.trans (e1.trans h.os), k.tape.trans (e2.trans h.tape), k.output.trans (e3.trans h.output), by have := h.size; have := k.size; rw [e] at this; omega, fun j hj => (k.block j (by rw [e]; exact Nat.lt_of_lt_of_le hj h.size)).trans (by rw [e]; exact h.block j hj)⟩
theorem bthen {w W W' : World} (h : Below w.heap.size w W) (k : Below W.heap.size W W') : Below w.heap.size w W' := h.trans (k.mono h.size)
end Go.Proofs.YtlfodldlkchmoaaGreat.G
namespace Go.Proofs.YtlfodldlkchmoaaGreat.G
open Go.RowKit
set_option maxRecDepth 100000
theorem number_any (a b : Int) (w : World) :
    Calls Tryz.prog 52 #[.agg #[.int .i64 a, .int .i64 b]] w fun e w' => e = .returned (.complex .f64 (floatOfInt .f64 a) (floatOfInt .f64 b)) ∧ Below w.heap.size w w' := by
  go_enter Tryz.func52, Tryz.ntmps52
  go_wp2
  go_ret
  exact ⟨rfl, (Below.refl _ _).alloc (Nat.le_refl _) _⟩
theorem below_box {w W : World} (h : Below w.heap.size w W) (b : Nat) (hb : w.heap.size ≤ b) (v u : Value) : Below w.heap.size w ((W.setCell ⟨b, 0, none⟩ v).setCell ⟨b, 1, none⟩ u) :=
  (h.setCell (p := ⟨b, 0, none⟩) hb _).setCell (p := ⟨b, 1, none⟩) hb _
theorem pair_any (x y : Int) (hx : x.natAbs < 2 ^ 53) (hy : y.natAbs < 2 ^ 53) (w : World) :
    Calls Tryz.prog 53 #[.complex .f64 (floatOfInt .f64 x) (floatOfInt .f64 y)] w fun e w' => e = .returned (.agg #[.int .i64 (x % 33554383), .int .i64 (y % 33554383)]) ∧ Below w.heap.size w w' := by
  have HX := hide (modulo_any x hx)
  have HY := hide (modulo_any y hy)
  clear hx hy
  generalize x % 33554383 = m at *
  generalize y % 33554383 = n at *
  generalize floatOfInt .f64 x = fx at *
  generalize floatOfInt .f64 y = fy at *
  go_enter Tryz.func53, Tryz.ntmps53
  go_wp2_with fail
  refine (HX.out _).mono ?_
  rintro e w' ⟨rfl, rfl⟩
  go_wp2_with fail
  refine (HY.out _).mono ?_
  rintro e w' ⟨rfl, rfl⟩
  go_wp2
  refine bodyPost_ret (v := .agg #[.int .i64 m, .int .i64 n]) (by simp [results, Tryz.results53, go_sem]) rfl ⟨rfl, ?_⟩
  exact (Below.refl _ _).alloc (Nat.le_refl _) _
theorem small_any (x y : Int) (hx : x.natAbs < 2 ^ 53) (hy : y.natAbs < 2 ^ 53) (w : World) :
    Calls Tryz.prog 93 #[.complex .f64 (floatOfInt .f64 x) (floatOfInt .f64 y)] w fun e w' => e = .returned (.complex .f64 (floatOfInt .f64 (x % 33554383)) (floatOfInt .f64 (y % 33554383))) ∧ Below w.heap.size w w' := by
  have HP := hide (pair_any x y hx hy)
  have HN := hide (number_any (x % 33554383) (y % 33554383))
  clear hx hy
  generalize x % 33554383 = m at *
  generalize y % 33554383 = n at *
  generalize floatOfInt .f64 x = fx at *
  generalize floatOfInt .f64 y = fy at *
  go_enter Tryz.func93, Tryz.ntmps93
  go_wp2_with fail
  refine (HP.out _).mono ?_
  rintro e w1 ⟨rfl, b1⟩
  have B1 := hide b1
  clear b1
  go_wp2_with fail
  refine (HN.out _).mono ?_
  rintro e w2 ⟨rfl, b2⟩
  have B2 := hide (bthen B1.out b2)
  clear b2
  go_wp2
  go_ret
  exact ⟨rfl, B2.out⟩
def rightB (a b : Int) : Bool := decide (0 ≤ a ∧ a < 33554383 ∧ 0 ≤ b ∧ b < 33554383)
theorem Right_any (a b : Int) (w : World) :
    Calls Tryz.prog 50 #[.agg #[.int .i64 a, .int .i64 b]] w fun e w' => e = .returned (.bool (rightB a b)) ∧ Below w.heap.size w w' := by
  have HD : Hid (rightB a b = decide (0 ≤ a ∧ a < 33554383 ∧ 0 ≤ b ∧ b < 33554383)) := rfl
  generalize rightB a b = r at *
  by_cases h1 : 0 ≤ a
  · by_cases h2 : a < 33554383
    · by_cases h3 : 0 ≤ b
      · by_cases h4 : b < 33554383
        all_goals
          go_enter Tryz.func50, Tryz.ntmps50
          go_wp2
          go_ret
          refine ⟨?_, (Below.refl _ _).alloc (Nat.le_refl _) _⟩
          rw [HD.out]
          simp <;> omega
      · go_enter Tryz.func50, Tryz.ntmps50
        go_wp2
        go_ret
        refine ⟨?_, (Below.refl _ _).alloc (Nat.le_refl _) _⟩
        rw [HD.out]
        simp <;> omega
    · go_enter Tryz.func50, Tryz.ntmps50
      go_wp2
      go_ret
      refine ⟨?_, (Below.refl _ _).alloc (Nat.le_refl _) _⟩
      rw [HD.out]
      simp <;> omega
  · go_enter Tryz.func50, Tryz.ntmps50
    go_wp2
    go_ret
    refine ⟨?_, (Below.refl _ _).alloc (Nat.le_refl _) _⟩
    rw [HD.out]
    simp <;> omega
end Go.Proofs.YtlfodldlkchmoaaGreat.G
namespace Go.Proofs.YtlfodldlkchmoaaGreat.G
open Go.RowKit
set_option maxRecDepth 100000
theorem Right_is (a b : Int) (r : Bool) (h : rightB a b = r) (w : World) :
    Calls Tryz.prog 50 #[.agg #[.int .i64 a, .int .i64 b]] w fun e w' => e = .returned (.bool r) ∧ Below w.heap.size w w' := h ▸ Right_any a b w
end Go.Proofs.YtlfodldlkchmoaaGreat.G
namespace Go.Proofs.YtlfodldlkchmoaaGreat.G
open Go.RowKit
set_option maxHeartbeats 400000
set_option maxRecDepth 100000
theorem step_any (a b v : Int) (ha : 0 ≤ a ∧ a < 33554383) (hb : 0 ≤ b ∧ b < 33554383) (hv : 0 ≤ v ∧ v < 2 ^ 26) (w : World) :
    Calls Tryz.prog 51 #[.complex .f64 (floatOfInt .f64 a) (floatOfInt .f64 b), .int .i64 v] w fun e w' => e = .returned (.complex .f64 (floatOfInt .f64 ((a * 2 - b * 3 + v) % 33554383)) (floatOfInt .f64 ((a * 3 + b * 2 + 0) % 33554383))) ∧ Below w.heap.size w w' := by
  have hm := fun t w => run_complex_mul (P := Tryz.prog) w t _ _ _ _ _ _ (fl_cmul a b 2 3 (by omega) (by omega) (by omega) (by omega))
  have hs := fun t w => run_complex_sum (P := Tryz.prog) w .add (Or.inl rfl) t .f64 _ _ _ _ _ _ (fl_cstep a b 2 3 v 0 (by omega) (by omega) (by omega) (by omega) (by omega) (by omega))
  have HS := hide (small_any (a * 2 - b * 3 + v) (a * 3 + b * 2 + 0) (by omega) (by omega))
  rw [fl2, fl3] at hm
  rw [fl0] at hs
  clear ha hb hv
  generalize (a * 2 - b * 3 + v) % 33554383 = m at *
  generalize (a * 3 + b * 2 + 0) % 33554383 = n at *
  generalize floatOfInt .f64 (a * 2 - b * 3 + v) = fe at *
  generalize floatOfInt .f64 (a * 3 + b * 2 + 0) = ff at *
  generalize floatOfInt .f64 (a * 2 - b * 3) = fc at *
  generalize floatOfInt .f64 (a * 3 + b * 2) = fd at *
  generalize floatOfInt .f64 a = fa at *
  generalize floatOfInt .f64 b = fb at *
  go_enter Tryz.func51, Tryz.ntmps51
  go_wp2_with fail
  refine (HS.out _).mono ?_
  rintro e w1 ⟨rfl, b1⟩
  go_wp2
  go_ret
  exact ⟨rfl, b1⟩
end Go.Proofs.YtlfodldlkchmoaaGreat.G
namespace Go.Proofs.YtlfodldlkchmoaaGreat.G
open Go.RowKit
set_option maxRecDepth 100000
theorem Pr.right_b {z : Pr} (h : z.right) : rightB z.re z.im = true := decide_eq_true ⟨h.1, h.2.1, h.2.2.1, h.2.2.2⟩
theorem pair_same (z : Pr) (hz : z.right) (w : World) :
    Calls Tryz.prog 53 #[.complex .f64 (floatOfInt .f64 z.re) (floatOfInt .f64 z.im)] w fun e w' => e = .returned (.agg #[.int .i64 z.re, .int .i64 z.im]) ∧ Below w.heap.size w w' := by
  obtain ⟨h1, h2, h3, h4⟩ := hz
  have hp : pI = 33554383 := rfl
  rw [hp] at h2 h4
  have h := pair_any z.re z.im (by omega) (by omega) w
  rwa [Int.emod_eq_of_lt h1 h2, Int.emod_eq_of_lt h3 h4] at h
theorem Begin_any (w : World) : Calls Tryz.prog 24 #[] w fun e w' => e = .returned (.agg #[.int .i64 1, .int .i64 0]) ∧ Below w.heap.size w w' := by
  go_enter Tryz.func24, Tryz.ntmps24
  go_wp2
  refine bodyPost_ret (v := .agg #[.int .i64 1, .int .i64 0]) (by simp [results, Tryz.results24, go_sem]) rfl ⟨rfl, ?_⟩
  exact (Below.refl _ _).alloc (Nat.le_refl _) _
end Go.Proofs.YtlfodldlkchmoaaGreat.G
