/-
  The program's Pow, Inv, Begin, as they run.
-/
import Derived.Test.YtddmnmeijnncmabN4
namespace Go.Proofs.Ytddmnmeijnncmab
open Go.RowKit

theorem Pr.right_b {z : Pr} (h : z.right) : rightB z.re z.im = true := decide_eq_true ⟨h.1, h.2.1, h.2.2.1, h.2.2.2⟩
theorem Pr.b_right {a b : Int} (h : rightB a b = true) : (⟨a, b⟩ : Pr).right := of_decide_eq_true (p := 0 ≤ a ∧ a < 33554383 ∧ 0 ≤ b ∧ b < 33554383) h
theorem pair_same (z : Pr) (hz : z.right) (w : World) :
    Calls Try.prog 13 #[.complex .f64 (floatOfInt .f64 z.re) (floatOfInt .f64 z.im)] w fun e w' => e = .returned (.agg #[.int .i64 z.re, .int .i64 z.im]) ∧ Below w.heap.size w w' := by
  obtain ⟨h1, h2, h3, h4⟩ := hz
  have hp : pI = 33554383 := rfl
  rw [hp] at h2 h4
  have h := pair_any z.re z.im (by omega) (by omega) w
  rwa [Int.emod_eq_of_lt h1 h2, Int.emod_eq_of_lt h3 h4] at h

set_option maxHeartbeats 400000 in
theorem Inv_wrong (a b : Int) (ha : rightB a b = false) (w : World) :
    Calls Try.prog 8 #[.agg #[.int .i64 a, .int .i64 b]] w fun e w' => e = .returned (.tuple #[.agg #[.int .i64 0, .int .i64 0], .int .i64 1]) ∧ Below w.heap.size w w' := by
  have HR := hide (Right_is a b _ ha)
  clear ha
  go_enter Try.func8, Try.ntmps8
  go_wp2_with fail
  refine (HR.out _).mono ?_
  rintro e w1 ⟨rfl, bb⟩
  have A : Hid (Held w1 (w.heap.size) (a) (b)) := ((Held.at _ (a) (b) _ rfl).alloc _).below bb
  have R : Hid (Held w1 (w.heap.size + 1) (0) (0)) := (Held.at _ (0) (0) _ (by simp)).below bb
  have B := hide (bthen (below_new (below_new (Below.refl _ w) _) _) bb)
  clear bb
  have n3 : w.heap.size ≤ w.heap.size + 1 := by omega
  generalize w.heap.size + 1 = rb at *
  have r0 := R.out.c0
  have r1 := R.out.c1
  have rf0 := R.out.f0
  have rf1 := R.out.f1
  go_wp2
  refine bodyPost_ret (v := .tuple #[.agg #[.int .i64 0, .int .i64 0], .int .i64 1]) (by simp [results, Try.results8, go_sem, r0, r1]) rfl ⟨rfl, ?_⟩
  exact below_box B.out _ n3 _ _

set_option maxHeartbeats 400000 in
theorem Inv_zero (w : World) :
    Calls Try.prog 8 #[.agg #[.int .i64 0, .int .i64 0]] w fun e w' => e = .returned (.tuple #[.agg #[.int .i64 0, .int .i64 0], .int .i64 7]) ∧ Below w.heap.size w w' := by
  have HR := hide (Right_is 0 0 true (by decide))
  go_enter Try.func8, Try.ntmps8
  go_wp2_with fail
  refine (HR.out _).mono ?_
  rintro e w1 ⟨rfl, bb⟩
  have A : Hid (Held w1 (w.heap.size) (0) (0)) := ((Held.at _ (0) (0) _ rfl).alloc _).below bb
  have R : Hid (Held w1 (w.heap.size + 1) (0) (0)) := (Held.at _ (0) (0) _ (by simp)).below bb
  have B := hide (bthen (below_new (below_new (Below.refl _ w) _) _) bb)
  clear bb
  have n3 : w.heap.size ≤ w.heap.size + 1 := by omega
  generalize w.heap.size + 1 = rb at *
  have a0 := A.out.c0
  have a1 := A.out.c1
  have r0 := R.out.c0
  have r1 := R.out.c1
  have rf0 := R.out.f0
  have rf1 := R.out.f1
  go_wp2
  refine bodyPost_ret (v := .tuple #[.agg #[.int .i64 0, .int .i64 0], .int .i64 7]) (by simp [results, Try.results8, go_sem, r0, r1]) rfl ⟨rfl, ?_⟩
  exact below_box B.out _ n3 _ _

set_option maxHeartbeats 400000 in
theorem Inv_core1 (x y : Int) (q : Pr) (hx : ¬ x = 0) (w : World)
    (HR : Hid (∀ w, Calls Try.prog 10 #[.agg #[.int .i64 x, .int .i64 y]] w fun e w' => e = .returned (.bool true) ∧ Below w.heap.size w w'))
    (HN : Hid (∀ w, Calls Try.prog 12 #[.agg #[.int .i64 x, .int .i64 y]] w fun e w' => e = .returned (.complex .f64 (floatOfInt .f64 x) (floatOfInt .f64 y)) ∧ Below w.heap.size w w'))
    (HW : Hid (∀ w, Calls Try.prog 14 #[.complex .f64 (floatOfInt .f64 x) (floatOfInt .f64 y), .int .i64 1125896618510687] w fun e w' => e = .returned (.complex .f64 (floatOfInt .f64 q.re) (floatOfInt .f64 q.im)) ∧ Below w.heap.size w w'))
    (HP : Hid (∀ w, Calls Try.prog 13 #[.complex .f64 (floatOfInt .f64 q.re) (floatOfInt .f64 q.im)] w fun e w' => e = .returned (.agg #[.int .i64 q.re, .int .i64 q.im]) ∧ Below w.heap.size w w')) :
    Calls Try.prog 8 #[.agg #[.int .i64 x, .int .i64 y]] w fun e w' => e = .returned (.tuple #[.agg #[.int .i64 (q).re, .int .i64 (q).im], .int .i64 0]) ∧ Below w.heap.size w w' := by
  generalize floatOfInt .f64 x = fx at *
  generalize floatOfInt .f64 y = fy at *
  go_enter Try.func8, Try.ntmps8
  go_wp2_with fail
  refine (HR.out _).mono ?_
  rintro e w1 ⟨rfl, bb⟩
  have A : Hid (Held w1 (w.heap.size) (x) (y)) := ((Held.at _ (x) (y) _ rfl).alloc _).below bb
  have R : Hid (Held w1 (w.heap.size + 1) (0) (0)) := (Held.at _ (0) (0) _ (by simp)).below bb
  have B := hide (bthen (below_new (below_new (Below.refl _ w) _) _) bb)
  clear bb
  have n3 : w.heap.size ≤ w.heap.size + 1 := by omega
  generalize w.heap.size + 1 = rb at *
  have a0 := A.out.c0
  have a1 := A.out.c1
  go_wp2_with fail
  refine (HN.out _).mono ?_
  rintro e w2 ⟨rfl, bb⟩
  replace R := hide (R.out.past bb)
  replace B := hide (bpast B.out bb)
  clear bb
  go_wp2_with fail
  refine (HW.out _).mono ?_
  rintro e w3 ⟨rfl, bb⟩
  replace R := hide (R.out.past bb)
  replace B := hide (bpast B.out bb)
  clear bb
  go_wp2_with fail
  refine (HP.out _).mono ?_
  rintro e w4 ⟨rfl, bb⟩
  replace R := hide (R.out.past bb)
  replace B := hide (bpast B.out bb)
  clear bb
  have r0 := R.out.c0
  have r1 := R.out.c1
  have rf0 := R.out.f0
  have rf1 := R.out.f1
  go_wp2
  refine bodyPost_ret (v := .tuple #[.agg #[.int .i64 (q).re, .int .i64 (q).im], .int .i64 0]) (by simp [results, Try.results8, go_sem, r0, r1]) rfl ⟨rfl, ?_⟩
  exact below_box B.out _ n3 _ _

set_option maxHeartbeats 400000 in
theorem Inv_core2 (y : Int) (q : Pr) (hy : ¬ y = 0) (w : World)
    (HR : Hid (∀ w, Calls Try.prog 10 #[.agg #[.int .i64 0, .int .i64 y]] w fun e w' => e = .returned (.bool true) ∧ Below w.heap.size w w'))
    (HN : Hid (∀ w, Calls Try.prog 12 #[.agg #[.int .i64 0, .int .i64 y]] w fun e w' => e = .returned (.complex .f64 (floatOfInt .f64 0) (floatOfInt .f64 y)) ∧ Below w.heap.size w w'))
    (HW : Hid (∀ w, Calls Try.prog 14 #[.complex .f64 (floatOfInt .f64 0) (floatOfInt .f64 y), .int .i64 1125896618510687] w fun e w' => e = .returned (.complex .f64 (floatOfInt .f64 q.re) (floatOfInt .f64 q.im)) ∧ Below w.heap.size w w'))
    (HP : Hid (∀ w, Calls Try.prog 13 #[.complex .f64 (floatOfInt .f64 q.re) (floatOfInt .f64 q.im)] w fun e w' => e = .returned (.agg #[.int .i64 q.re, .int .i64 q.im]) ∧ Below w.heap.size w w')) :
    Calls Try.prog 8 #[.agg #[.int .i64 0, .int .i64 y]] w fun e w' => e = .returned (.tuple #[.agg #[.int .i64 (q).re, .int .i64 (q).im], .int .i64 0]) ∧ Below w.heap.size w w' := by
  generalize floatOfInt .f64 0 = fx at *
  generalize floatOfInt .f64 y = fy at *
  go_enter Try.func8, Try.ntmps8
  go_wp2_with fail
  refine (HR.out _).mono ?_
  rintro e w1 ⟨rfl, bb⟩
  have A : Hid (Held w1 (w.heap.size) (0) (y)) := ((Held.at _ (0) (y) _ rfl).alloc _).below bb
  have R : Hid (Held w1 (w.heap.size + 1) (0) (0)) := (Held.at _ (0) (0) _ (by simp)).below bb
  have B := hide (bthen (below_new (below_new (Below.refl _ w) _) _) bb)
  clear bb
  have n3 : w.heap.size ≤ w.heap.size + 1 := by omega
  generalize w.heap.size + 1 = rb at *
  have a0 := A.out.c0
  have a1 := A.out.c1
  go_wp2_with fail
  refine (HN.out _).mono ?_
  rintro e w2 ⟨rfl, bb⟩
  replace R := hide (R.out.past bb)
  replace B := hide (bpast B.out bb)
  clear bb
  go_wp2_with fail
  refine (HW.out _).mono ?_
  rintro e w3 ⟨rfl, bb⟩
  replace R := hide (R.out.past bb)
  replace B := hide (bpast B.out bb)
  clear bb
  go_wp2_with fail
  refine (HP.out _).mono ?_
  rintro e w4 ⟨rfl, bb⟩
  replace R := hide (R.out.past bb)
  replace B := hide (bpast B.out bb)
  clear bb
  have r0 := R.out.c0
  have r1 := R.out.c1
  have rf0 := R.out.f0
  have rf1 := R.out.f1
  go_wp2
  refine bodyPost_ret (v := .tuple #[.agg #[.int .i64 (q).re, .int .i64 (q).im], .int .i64 0]) (by simp [results, Try.results8, go_sem, r0, r1]) rfl ⟨rfl, ?_⟩
  exact below_box B.out _ n3 _ _

theorem Inv_right (z : Pr) (hz : z.right) (h0 : z ≠ Pr.zero) (w : World) :
    Calls Try.prog 8 #[.agg #[.int .i64 z.re, .int .i64 z.im]] w fun e w' => e = .returned (.tuple #[.agg #[.int .i64 (invP z).re, .int .i64 (invP z).im], .int .i64 0]) ∧ Below w.heap.size w w' := by
  have HR := Right_is z.re z.im true (Pr.right_b hz)
  have HN := number_any z.re z.im
  have HW : ∀ w, Calls Try.prog 14 #[.complex .f64 (floatOfInt .f64 z.re) (floatOfInt .f64 z.im), .int .i64 1125896618510687] w fun e w' => e = .returned (.complex .f64 (floatOfInt .f64 (invP z).re) (floatOfInt .f64 (invP z).im)) ∧ Below w.heap.size w w' := fun w => by
    have h := power_any z 1125896618510687 hz (by decide) w
    rw [pow_inv z hz h0] at h
    exact h
  have HP := pair_same (invP z) (invP_right z)
  generalize invP z = q at *
  obtain ⟨x, y⟩ := z
  by_cases hx : x = 0
  · subst hx
    exact Inv_core2 y q (fun hy => h0 (by subst hy; rfl)) w HR HN HW HP
  · exact Inv_core1 x y q hx w HR HN HW HP

theorem Begin_any (w : World) : Calls Try.prog 9 #[] w fun e w' => e = .returned (.agg #[.int .i64 1, .int .i64 0]) ∧ Below w.heap.size w w' := by
  go_enter Try.func9, Try.ntmps9
  go_wp2
  refine bodyPost_ret (v := .agg #[.int .i64 1, .int .i64 0]) (by simp [results, Try.results9, go_sem]) rfl ⟨rfl, ?_⟩
  exact (Below.refl _ _).alloc (Nat.le_refl _) _

end Go.Proofs.Ytddmnmeijnncmab
