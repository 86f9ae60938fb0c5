/-
  The program's step and power, as they run.
-/
import Derived.Test.YtddmnmeijnncmabN3
namespace Go.Proofs.Ytddmnmeijnncmab
open Go.RowKit

set_option maxHeartbeats 400000 in
theorem step_any (a b v : Int) (ha : 0 ≤ a ∧ a < 33554383) (hb : 0 ≤ b ∧ b < 33554383) (hv : 0 ≤ v ∧ v < 2 ^ 26) (w : World) :
    Calls Try.prog 11 #[.complex .f64 (floatOfInt .f64 a) (floatOfInt .f64 b), .int .i64 v] w fun e w' => e = .returned (.complex .f64 (floatOfInt .f64 ((a * 2 - b * 3 + v) % 33554383)) (floatOfInt .f64 ((a * 3 + b * 2 + 0) % 33554383))) ∧ Below w.heap.size w w' := by
  have hm := fun t w => run_complex_mul (P := Try.prog) w t _ _ _ _ _ _ (fl_cmul a b 2 3 (by omega) (by omega) (by omega) (by omega))
  have hs := fun t w => run_complex_sum (P := Try.prog) w .add (Or.inl rfl) t .f64 _ _ _ _ _ _ (fl_cstep a b 2 3 v 0 (by omega) (by omega) (by omega) (by omega) (by omega) (by omega))
  have HS := hide (small_any (a * 2 - b * 3 + v) (a * 3 + b * 2 + 0) (by omega) (by omega))
  rw [fl2, fl3] at hm
  rw [fl0] at hs
  clear ha hb hv
  generalize (a * 2 - b * 3 + v) % 33554383 = m at *
  generalize (a * 3 + b * 2 + 0) % 33554383 = n at *
  generalize floatOfInt .f64 (a * 2 - b * 3 + v) = fe at *
  generalize floatOfInt .f64 (a * 3 + b * 2 + 0) = ff at *
  generalize floatOfInt .f64 (a * 2 - b * 3) = fc at *
  generalize floatOfInt .f64 (a * 3 + b * 2) = fd at *
  generalize floatOfInt .f64 a = fa at *
  generalize floatOfInt .f64 b = fb at *
  go_enter Try.func11, Try.ntmps11
  go_wp2_with fail
  refine (HS.out _).mono ?_
  rintro e w1 ⟨rfl, b1⟩
  go_wp2
  go_ret
  exact ⟨rfl, b1⟩

theorem one_bits : Value.complex .f64 4607182418800017408 0 = .complex .f64 (floatOfInt .f64 Pr.one.re) (floatOfInt .f64 Pr.one.im) := by
  show _ = Value.complex .f64 (floatOfInt .f64 1) (floatOfInt .f64 0)
  rw [fl1, fl0]
/-- A product, made small, as it is walked. -/
theorem sq_facts (u o : Pr) (hu : u.right) (ho : o.right) :
    (∀ t w, (binOp .mul t (.complex .f64 (floatOfInt .f64 o.re) (floatOfInt .f64 o.im)) (.complex .f64 (floatOfInt .f64 u.re) (floatOfInt .f64 u.im))).run Try.prog w = .ok (.complex .f64 (floatOfInt .f64 (o.re * u.re - o.im * u.im)) (floatOfInt .f64 (o.re * u.im + o.im * u.re))) w) ∧
    (∀ w, Calls Try.prog 15 #[.complex .f64 (floatOfInt .f64 (o.re * u.re - o.im * u.im)) (floatOfInt .f64 (o.re * u.im + o.im * u.re))] w fun e w' => e = .returned (.complex .f64 (floatOfInt .f64 (mulP o u).re) (floatOfInt .f64 (mulP o u).im)) ∧ Below w.heap.size w w') := by
  obtain ⟨u1, u2, u3, u4⟩ := hu
  obtain ⟨o1, o2, o3, o4⟩ := ho
  have hp : pI = 33554383 := rfl
  rw [hp] at u2 u4 o2 o4
  have h1 := mul_lt26 o.re u.re (by omega) (by omega)
  have h2 := mul_lt26 o.im u.im (by omega) (by omega)
  have h3 := mul_lt26 o.re u.im (by omega) (by omega)
  have h4 := mul_lt26 o.im u.re (by omega) (by omega)
  exact ⟨fun t w => run_complex_mul (P := Try.prog) w t _ _ _ _ _ _ (fl_cmul o.re o.im u.re u.im (by omega) (by omega) (by omega) (by omega)), fun w => small_any _ _ (by omega) (by omega) w⟩

set_option maxHeartbeats 1000000 in
theorem power_any (z : Pr) (k : Nat) (hz : z.right) (hk : k < 9223372036854775808) (w : World) :
    Calls Try.prog 14 #[.complex .f64 (floatOfInt .f64 z.re) (floatOfInt .f64 z.im), .int .i64 k] w fun e w' => e = .returned (.complex .f64 (floatOfInt .f64 (powP z k).re) (floatOfInt .f64 (powP z k).im)) ∧ Below w.heap.size w w' := by
  have HZ := hide hz
  clear hz
  go_enter Try.func14, Try.ntmps14
  go_wp2
  go_loopw [0, 1, 5] (fun zv n p wv => ∃ (u o : Pr) (j : Nat), Hid u.right ∧ Hid o.right ∧ j ≤ k ∧ zv = .complex .f64 (floatOfInt .f64 u.re) (floatOfInt .f64 u.im) ∧ n = .int .i64 j ∧ p = .complex .f64 (floatOfInt .f64 o.re) (floatOfInt .f64 o.im) ∧ Hid (mulP o (powP u j) = powP z k) ∧ Hid (Below w.heap.size w wv)) (fun _ n _ _ => (intOf n).toNat)
  case atStart => exact ⟨z, Pr.one, k, HZ, hide one_right, Nat.le_refl _, rfl, rfl, one_bits, hide (by rw [mulP_comm, mulP_one _ (powP_right z k)]), hide (Below.refl _ _)⟩
  case round =>
    obtain ⟨u, o, j, HU, HO, hj, rfl, rfl, rfl, HE, HB⟩ := hrel
    clear HZ
    by_cases h0 : j = 0
    · have HR : Hid (powP z k = o) := by have := HE.out; rw [h0, show powP u 0 = Pr.one from rfl, mulP_one _ HO.out] at this; exact this.symm
      have hj1 : ¬ 0 < j := by omega
      clear HE h0
      go_wp2
      go_ret
      exact ⟨by rw [HR.out]; rfl, HB.out⟩
    · have hj0 : 0 < j := by omega
      obtain ⟨h1, h2⟩ := sq_facts u u HU.out HU.out
      have HSU := hide h2
      clear h2 h0
      by_cases hodd : j % 2 = 1
      · obtain ⟨h3, h4⟩ := sq_facts u o HU.out HO.out
        have HSO := hide h4
        clear h4
        have HN : Hid (mulP (mulP o u) (powP (mulP u u) (j / 2)) = powP z k) := by
          have := HE.out
          rw [powP_half, if_pos hodd] at this
          exact this
        clear HE
        have hb : (((j : Int) % 2) == 1) = true := by rw [beq_iff_eq]; omega
        go_wp2_with fail
        refine (HSO.out _).mono ?_
        rintro e w1 ⟨rfl, b1⟩
        have B1 := hide (bthen HB.out b1)
        clear b1 HB
        go_wp2_with fail
        refine (HSU.out _).mono ?_
        rintro e w2 ⟨rfl, b2⟩
        have B2 := hide (bthen B1.out b2)
        clear b2 B1
        go_wp2
        go_roundw
        case rel => exact ⟨mulP u u, mulP o u, j / 2, hide (mulP_right _ _), hide (mulP_right _ _), by omega, rfl, by go_num, rfl, HN, B2⟩
        case measure => simp [intOf]; omega
      · have HN : Hid (mulP o (powP (mulP u u) (j / 2)) = powP z k) := by
          have := HE.out
          rw [powP_half, if_neg hodd] at this
          exact this
        clear HE
        have hb : (((j : Int) % 2) == 1) = false := by rw [beq_eq_false_iff_ne]; omega
        go_wp2_with fail
        refine (HSU.out _).mono ?_
        rintro e w2 ⟨rfl, b2⟩
        have B2 := hide (bthen HB.out b2)
        clear b2 HB
        go_wp2
        go_roundw
        case rel => exact ⟨mulP u u, o, j / 2, hide (mulP_right _ _), HO, by omega, rfl, by go_num, rfl, HN, B2⟩
        case measure => simp [intOf]; omega

end Go.Proofs.Ytddmnmeijnncmab
