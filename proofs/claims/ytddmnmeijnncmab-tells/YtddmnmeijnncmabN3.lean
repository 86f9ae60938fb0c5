/-
  The program's Add, Sub, Mul, as they run.
-/
import Derived.Test.YtddmnmeijnncmabN2
namespace Go.Proofs.Ytddmnmeijnncmab
open Go.RowKit

theorem mul_lt26 (x y : Int) (hx : 0 ≤ x ∧ x < 33554383) (hy : 0 ≤ y ∧ y < 33554383) : 0 ≤ x * y ∧ x * y < 2 ^ 51 := by
  refine ⟨Int.mul_nonneg hx.1 hy.1, ?_⟩
  have : x * y ≤ 33554382 * 33554382 := Int.mul_le_mul (by omega) (by omega) hy.1 (by omega)
  omega
theorem Right_is (a b : Int) (r : Bool) (h : rightB a b = r) (w : World) :
    Calls Try.prog 10 #[.agg #[.int .i64 a, .int .i64 b]] w fun e w' => e = .returned (.bool r) ∧ Below w.heap.size w w' := h ▸ Right_any a b w

set_option maxHeartbeats 400000 in
theorem Mul_right (a b c d : Int) (w : World) (ha : 0 ≤ a ∧ a < 33554383 ∧ 0 ≤ b ∧ b < 33554383) (hc : 0 ≤ c ∧ c < 33554383 ∧ 0 ≤ d ∧ d < 33554383) :
    Calls Try.prog 7 #[.agg #[.int .i64 a, .int .i64 b], .agg #[.int .i64 c, .int .i64 d]] w fun e w' => e = .returned (.tuple #[.agg #[.int .i64 ((a * c - b * d) % 33554383), .int .i64 ((a * d + b * c) % 33554383)], .int .i64 0]) ∧ Below w.heap.size w w' := by
  have HR := hide (Right_is a b true (decide_eq_true ha))
  have HS := hide (Right_is c d true (decide_eq_true hc))
  have HN := hide number_any
  have h1 := mul_lt26 a c (by omega) (by omega)
  have h2 := mul_lt26 b d (by omega) (by omega)
  have h3 := mul_lt26 a d (by omega) (by omega)
  have h4 := mul_lt26 b c (by omega) (by omega)
  have hop := fun t w => run_complex_mul (P := Try.prog) w t _ _ _ _ _ _ (fl_cmul a b c d (by omega) (by omega) (by omega) (by omega))
  have HP := hide (pair_any (a * c - b * d) (a * d + b * c) (by omega) (by omega))
  clear ha hc h1 h2 h3 h4
  generalize (a * c - b * d) % 33554383 = m at *
  generalize (a * d + b * c) % 33554383 = n at *
  generalize floatOfInt .f64 (a * c - b * d) = fe at *
  generalize floatOfInt .f64 (a * d + b * c) = ff at *
  go_enter Try.func7, Try.ntmps7
  go_wp2_with fail
  refine (HR.out _).mono ?_
  rintro e w1 ⟨rfl, b1⟩
  have A1 : Hid (Held w1 w.heap.size a b) := (((Held.at w a b _ rfl).alloc _).alloc _).below b1
  have C1 : Hid (Held w1 (w.heap.size + 1) c d) := ((Held.at _ c d _ (by simp)).alloc _).below b1
  have R1 : Hid (Held w1 (w.heap.size + 1 + 1) 0 0) := (Held.at _ 0 0 _ (by simp)).below b1
  have B1 := hide (bthen (below_new (below_new (below_new (Below.refl _ w) _) _) _) b1)
  clear b1
  have c0 := C1.out.c0
  have c1 := C1.out.c1
  go_wp2_with fail
  refine (HS.out _).mono ?_
  rintro e w2 ⟨rfl, b2⟩
  clear c0 c1
  have A2 := hide (A1.out.below b2)
  have C2 := hide (C1.out.below b2)
  have R2 := hide (R1.out.below b2)
  have B2 := hide (bthen B1.out b2)
  clear b2 A1 C1 R1 B1
  have a0 := A2.out.c0
  have a1 := A2.out.c1
  have c0 := C2.out.c0
  have c1 := C2.out.c1
  have r0 := R2.out.c0
  have r1 := R2.out.c1
  have f0 := R2.out.f0
  have f1 := R2.out.f1
  have n1 : w.heap.size ≠ w.heap.size + 1 + 1 := by omega
  have n2 : w.heap.size + 1 ≠ w.heap.size + 1 + 1 := by omega
  have n3 : w.heap.size ≤ w.heap.size + 1 + 1 := by omega
  generalize w.heap.size + 1 + 1 = rb at *
  generalize w.heap.size + 1 = cb at *
  go_wp2
  go_region_held3 (fun w' => w'.cell? ⟨w.heap.size, 0, none⟩ = some (.int .i64 a) ∧ w'.cell? ⟨w.heap.size, 1, none⟩ = some (.int .i64 b) ∧ w'.cell? ⟨cb, 0, none⟩ = some (.int .i64 c) ∧ w'.cell? ⟨cb, 1, none⟩ = some (.int .i64 d))
    (first | go_keep | exact ⟨(A2.out.apart _ n1 _ _).c0, (A2.out.apart _ n1 _ _).c1, (C2.out.apart _ n2 _ _).c0, (C2.out.apart _ n2 _ _).c1⟩)
    (first
      | (go_at_call 12; refine (HN.out _ _ _).mono ?_; rintro e w3 ⟨rfl, bb⟩; have A2 := hide (A2.out.past bb); have C2 := hide (C2.out.past bb); have R2 := hide (R2.out.past bb); have B2 := hide (bpast B2.out bb); clear bb; have a0 := A2.out.c0; have a1 := A2.out.c1; have c0 := C2.out.c0; have c1 := C2.out.c1; have r0 := R2.out.c0; have r1 := R2.out.c1; have f0 := R2.out.f0; have f1 := R2.out.f1)
      | (go_at_call 13; refine (HP.out _).mono ?_; rintro e w5 ⟨rfl, bb⟩; have A2 := hide (A2.out.past bb); have C2 := hide (C2.out.past bb); have R2 := hide (R2.out.past bb); have B2 := hide (bpast B2.out bb); clear bb; have a0 := A2.out.c0; have a1 := A2.out.c1; have c0 := C2.out.c0; have c1 := C2.out.c1; have r0 := R2.out.c0; have r1 := R2.out.c1; have f0 := R2.out.f0; have f1 := R2.out.f1))
  go_wp2
  refine bodyPost_ret (v := .tuple #[.agg #[.int .i64 m, .int .i64 n], .int .i64 0]) (by simp [results, Try.results7, go_sem, r0, r1]) rfl ⟨rfl, ?_⟩
  exact below_box B2.out _ n3 _ _

set_option maxHeartbeats 400000 in
theorem Mul_wrong1 (a b c d : Int) (w : World) (ha : rightB a b = false) :
    Calls Try.prog 7 #[.agg #[.int .i64 a, .int .i64 b], .agg #[.int .i64 c, .int .i64 d]] w fun e w' => e = .returned (.tuple #[.agg #[.int .i64 0, .int .i64 0], .int .i64 1]) ∧ Below w.heap.size w w' := by
  have HR := hide (Right_is a b _ ha)
  clear ha
  go_enter Try.func7, Try.ntmps7
  go_wp2_with fail
  refine (HR.out _).mono ?_
  rintro e w1 ⟨rfl, b1⟩
  have A1 : Hid (Held w1 w.heap.size a b) := (((Held.at w a b _ rfl).alloc _).alloc _).below b1
  have C1 : Hid (Held w1 (w.heap.size + 1) c d) := ((Held.at _ c d _ (by simp)).alloc _).below b1
  have R1 : Hid (Held w1 (w.heap.size + 1 + 1) 0 0) := (Held.at _ 0 0 _ (by simp)).below b1
  have B1 := hide (bthen (below_new (below_new (below_new (Below.refl _ w) _) _) _) b1)
  clear b1
  have r0 := R1.out.c0
  have r1 := R1.out.c1
  have f0 := R1.out.f0
  have f1 := R1.out.f1
  have n3 : w.heap.size ≤ w.heap.size + 1 + 1 := by omega
  generalize w.heap.size + 1 + 1 = rb at *
  go_wp2
  refine bodyPost_ret (v := .tuple #[.agg #[.int .i64 0, .int .i64 0], .int .i64 1]) (by simp [results, Try.results7, go_sem, r0, r1]) rfl ⟨rfl, ?_⟩
  exact below_box B1.out _ n3 _ _

set_option maxHeartbeats 400000 in
theorem Mul_wrong2 (a b c d : Int) (w : World) (ha : rightB a b = true) (hc : rightB c d = false) :
    Calls Try.prog 7 #[.agg #[.int .i64 a, .int .i64 b], .agg #[.int .i64 c, .int .i64 d]] w fun e w' => e = .returned (.tuple #[.agg #[.int .i64 0, .int .i64 0], .int .i64 1]) ∧ Below w.heap.size w w' := by
  have HR := hide (Right_is a b _ ha)
  have HS := hide (Right_is c d _ hc)
  clear ha hc
  go_enter Try.func7, Try.ntmps7
  go_wp2_with fail
  refine (HR.out _).mono ?_
  rintro e w1 ⟨rfl, b1⟩
  have A1 : Hid (Held w1 w.heap.size a b) := (((Held.at w a b _ rfl).alloc _).alloc _).below b1
  have C1 : Hid (Held w1 (w.heap.size + 1) c d) := ((Held.at _ c d _ (by simp)).alloc _).below b1
  have R1 : Hid (Held w1 (w.heap.size + 1 + 1) 0 0) := (Held.at _ 0 0 _ (by simp)).below b1
  have B1 := hide (bthen (below_new (below_new (below_new (Below.refl _ w) _) _) _) b1)
  clear b1
  have c0 := C1.out.c0
  have c1 := C1.out.c1
  go_wp2_with fail
  refine (HS.out _).mono ?_
  rintro e w2 ⟨rfl, b2⟩
  clear c0 c1
  have A2 := hide (A1.out.below b2)
  have C2 := hide (C1.out.below b2)
  have R2 := hide (R1.out.below b2)
  have B2 := hide (bthen B1.out b2)
  clear b2 A1 C1 R1 B1
  have r0 := R2.out.c0
  have r1 := R2.out.c1
  have f0 := R2.out.f0
  have f1 := R2.out.f1
  have n3 : w.heap.size ≤ w.heap.size + 1 + 1 := by omega
  generalize w.heap.size + 1 + 1 = rb at *
  go_wp2
  refine bodyPost_ret (v := .tuple #[.agg #[.int .i64 0, .int .i64 0], .int .i64 1]) (by simp [results, Try.results7, go_sem, r0, r1]) rfl ⟨rfl, ?_⟩
  exact below_box B2.out _ n3 _ _

theorem Mul_any (a b c d : Int) (w : World) :
    Calls Try.prog 7 #[.agg #[.int .i64 a, .int .i64 b], .agg #[.int .i64 c, .int .i64 d]] w fun e w' =>
      e = .returned (.tuple (if rightB a b && rightB c d then #[.agg #[.int .i64 (mulP ⟨a, b⟩ ⟨c, d⟩).re, .int .i64 (mulP ⟨a, b⟩ ⟨c, d⟩).im], .int .i64 0] else #[.agg #[.int .i64 0, .int .i64 0], .int .i64 1])) ∧ Below w.heap.size w w' := by
  cases h1 : rightB a b with
  | false => exact Mul_wrong1 a b c d w h1
  | true =>
    cases h2 : rightB c d with
    | false => exact Mul_wrong2 a b c d w h1 h2
    | true => exact Mul_right a b c d w (of_decide_eq_true h1) (of_decide_eq_true h2)

end Go.Proofs.Ytddmnmeijnncmab
