/-
  The program's modulo, number, pair, small, step, as they run.
-/
import Derived.Test.YtddmnmeijnncmabProg
import Derived.Test.YtddmnmeijnncmabFloat2
import Derived.Test.YtddmnmeijnncmabGauss4
import Derived.WalkKit
import Derived.WalkSpells
import Derived.WalkLawsBesides
import Derived.BigQuiet
namespace Go.Proofs.Ytddmnmeijnncmab
open Go.RowKit

theorem hide {p : Prop} (h : p) : Hid p := h
theorem ret_i64 {a b : Int} (h : a = b) : Ending.returned (.int .i64 a) = .returned (.int .i64 b) := by rw [h]

theorem fl0 : floatOfInt .f64 0 = 0 := by decide
theorem fl1 : floatOfInt .f64 1 = 4607182418800017408 := by decide
theorem fl2 : floatOfInt .f64 2 = 4611686018427387904 := by decide
theorem fl3 : floatOfInt .f64 3 = 4613937818241073152 := by decide

theorem conv_back (x : Int) (hx : x.natAbs < 2 ^ 53) (w : World) : (convert 41 2 (.float .f64 (floatOfInt .f64 x))).run Try.prog w = .ok (.int .i64 x) w :=
  run_convert_float_int w 41 2 .f64 .i64 _ x (by rw [Try.underlying41]; rfl) Try.underlying2 (fl_back x hx)
theorem conv_fl (x : Int) (w : World) : (convert 3 41 (.int .i64 x)).run Try.prog w = .ok (.float .f64 (floatOfInt .f64 x)) w :=
  run_convert_int_float w 3 41 .i64 .f64 x (by rw [Try.underlying3]; rfl) Try.underlying41

theorem tmod_pos (x : Int) : x % 33554383 = if x.tmod 33554383 < 0 then x.tmod 33554383 + 33554383 else x.tmod 33554383 := by
  by_cases h : 0 ≤ x
  · have h1 : x.tmod 33554383 = x % 33554383 := Int.tmod_eq_emod_of_nonneg h
    rw [h1, if_neg (by omega)]
  · have h1 : x.tmod 33554383 = -((-x) % 33554383) := by
      have : (-x).tmod 33554383 = (-x) % 33554383 := Int.tmod_eq_emod_of_nonneg (by omega)
      rw [← this, Int.neg_tmod, Int.neg_neg]
    rw [h1]
    split <;> omega

theorem modulo_any (x : Int) (hx : x.natAbs < 2 ^ 53) (w : World) :
    Calls Try.prog 16 #[.float .f64 (floatOfInt .f64 x)] w fun e w' => e = .returned (.int .i64 (x % 33554383)) ∧ w' = w := by
  have hc := conv_back x hx
  have hb := tmod_pos x
  have ht : -33554383 ≤ x.tmod 33554383 ∧ x.tmod 33554383 < 33554383 := by
    have := Int.emod_nonneg x (show (33554383 : Int) ≠ 0 by decide)
    have := Int.emod_lt_of_pos x (show (0 : Int) < 33554383 by decide)
    split at hb <;> omega
  obtain ⟨t1, t2⟩ := ht
  have HB := hide hb
  clear hb
  generalize x % 33554383 = m at *
  by_cases hn : x.tmod 33554383 < 0
  · have HM : Hid (m = x.tmod 33554383 + 33554383) := by have := HB.out; rw [if_pos hn] at this; exact this
    clear HB
    go_enter Try.func16, Try.ntmps16
    go_wp2_with (simp only [hc])
    go_ret
    exact ⟨ret_i64 HM.out.symm, rfl⟩
  · have HM : Hid (m = x.tmod 33554383) := by have := HB.out; rw [if_neg hn] at this; exact this
    clear HB
    go_enter Try.func16, Try.ntmps16
    go_wp2_with (simp only [hc])
    go_ret
    exact ⟨ret_i64 HM.out.symm, rfl⟩

end Go.Proofs.Ytddmnmeijnncmab
