/-
  The program's Join, as it runs.
-/
import Derived.Test.YtjkediidbbpnjaaN6
namespace Go.Proofs.Ytjkediidbbpnjaa
open Go.RowKit

theorem joinP_at (d e : Pr) (q : Pr) : (⟨((d.re - 1) * q.re - d.im * q.im + e.re) % pI, ((d.re - 1) * q.im + d.im * q.re + e.im) % pI⟩ : Pr) = addP (mulP (subP d Pr.one) q) e := by
  refine Cp.eq ?_ ⟨(mod_right _).1, (mod_right _).2, (mod_right _).1, (mod_right _).2⟩ (addP_right _ _)
  refine Cp.trans (b := ⟨(d.re - 1) * q.re - d.im * q.im + e.re, (d.re - 1) * q.im + d.im * q.re + e.im⟩) ⟨Cg.mod _, Cg.mod _⟩ (Cp.trans ?_ (Cp.addP _ _).symm)
  refine (Cp.add ((Cp.mulP _ _).trans ((Cp.subP d Pr.one).mul (Cp.refl q))) (Cp.refl e)).symm |> fun h => Cp.trans ?_ h
  refine Cp.of_eq ?_
  unfold addR mulR subR Pr.one
  apply pr_ext <;> simp

set_option maxHeartbeats 400000 in
theorem Join_wrong1 (a b c d n : Int) (ha : rightB a b = false) (w : World) :
    Calls Try.prog 24 #[.agg #[.int .i64 a, .int .i64 b], .agg #[.int .i64 c, .int .i64 d], .int .i64 n] w fun e w' => e = .returned (.tuple #[.agg #[.int .i64 0, .int .i64 0], .int .i64 1]) ∧ Below w.heap.size w w' := by
  have HR := hide (Right_is a b _ ha)
  clear ha
  go_enter Try.func24, Try.ntmps24
  go_wp2_with fail
  refine (HR.out _).mono ?_
  rintro e w1 ⟨rfl, bb⟩
  have A : Hid (Held w1 (w.heap.size) (a) (b)) := (((Held.at _ (a) (b) _ rfl).alloc _).alloc _).below bb
  have C : Hid (Held w1 (w.heap.size + 1) (c) (d)) := ((Held.at _ (c) (d) _ (by simp)).alloc _).below bb
  have R : Hid (Held w1 (w.heap.size + 1 + 1) (0) (0)) := (Held.at _ (0) (0) _ (by simp)).below bb
  have B := hide (bthen (below_new (below_new (below_new (Below.refl _ w) _) _) _) bb)
  clear bb
  have n3 : w.heap.size ≤ w.heap.size + 1 + 1 := by omega
  have n1 : w.heap.size ≠ w.heap.size + 1 + 1 := by omega
  have n2 : w.heap.size + 1 ≠ w.heap.size + 1 + 1 := by omega
  clear n1 n2
  generalize w.heap.size + 1 + 1 = rb at *
  generalize w.heap.size + 1 = cb at *
  have r0 := R.out.c0
  have r1 := R.out.c1
  have rf0 := R.out.f0
  have rf1 := R.out.f1
  go_wp2
  refine bodyPost_ret (v := .tuple #[.agg #[.int .i64 0, .int .i64 0], .int .i64 1]) (by simp [results, Try.results24, go_sem, r0, r1]) rfl ⟨rfl, ?_⟩
  exact below_box B.out _ n3 _ _

set_option maxHeartbeats 400000 in
theorem Join_wrong2 (a b c d n : Int) (ha : rightB a b = true) (hc : rightB c d = false) (w : World) :
    Calls Try.prog 24 #[.agg #[.int .i64 a, .int .i64 b], .agg #[.int .i64 c, .int .i64 d], .int .i64 n] w fun e w' => e = .returned (.tuple #[.agg #[.int .i64 0, .int .i64 0], .int .i64 1]) ∧ Below w.heap.size w w' := by
  have HR := hide (Right_is a b _ ha)
  have HS := hide (Right_is c d _ hc)
  clear ha hc
  go_enter Try.func24, Try.ntmps24
  go_wp2_with fail
  refine (HR.out _).mono ?_
  rintro e w1 ⟨rfl, bb⟩
  have A : Hid (Held w1 (w.heap.size) (a) (b)) := (((Held.at _ (a) (b) _ rfl).alloc _).alloc _).below bb
  have C : Hid (Held w1 (w.heap.size + 1) (c) (d)) := ((Held.at _ (c) (d) _ (by simp)).alloc _).below bb
  have R : Hid (Held w1 (w.heap.size + 1 + 1) (0) (0)) := (Held.at _ (0) (0) _ (by simp)).below bb
  have B := hide (bthen (below_new (below_new (below_new (Below.refl _ w) _) _) _) bb)
  clear bb
  have n3 : w.heap.size ≤ w.heap.size + 1 + 1 := by omega
  have n1 : w.heap.size ≠ w.heap.size + 1 + 1 := by omega
  have n2 : w.heap.size + 1 ≠ w.heap.size + 1 + 1 := by omega
  clear n1 n2
  generalize w.heap.size + 1 + 1 = rb at *
  generalize w.heap.size + 1 = cb at *
  have c0 := C.out.c0
  have c1 := C.out.c1
  go_wp2_with fail
  refine (HS.out _).mono ?_
  rintro e w2 ⟨rfl, bb⟩
  replace R := hide (R.out.past bb)
  replace B := hide (bpast B.out bb)
  clear bb
  have r0 := R.out.c0
  have r1 := R.out.c1
  have rf0 := R.out.f0
  have rf1 := R.out.f1
  go_wp2
  refine bodyPost_ret (v := .tuple #[.agg #[.int .i64 0, .int .i64 0], .int .i64 1]) (by simp [results, Try.results24, go_sem, r0, r1]) rfl ⟨rfl, ?_⟩
  exact below_box B.out _ n3 _ _

set_option maxHeartbeats 400000 in
theorem Join_wrong3 (a b c d n : Int) (ha : rightB a b = true) (hc : rightB c d = true) (hn : n < 0) (w : World) :
    Calls Try.prog 24 #[.agg #[.int .i64 a, .int .i64 b], .agg #[.int .i64 c, .int .i64 d], .int .i64 n] w fun e w' => e = .returned (.tuple #[.agg #[.int .i64 0, .int .i64 0], .int .i64 1]) ∧ Below w.heap.size w w' := by
  have HR := hide (Right_is a b _ ha)
  have HS := hide (Right_is c d _ hc)
  clear ha hc
  go_enter Try.func24, Try.ntmps24
  go_wp2_with fail
  refine (HR.out _).mono ?_
  rintro e w1 ⟨rfl, bb⟩
  have A : Hid (Held w1 (w.heap.size) (a) (b)) := (((Held.at _ (a) (b) _ rfl).alloc _).alloc _).below bb
  have C : Hid (Held w1 (w.heap.size + 1) (c) (d)) := ((Held.at _ (c) (d) _ (by simp)).alloc _).below bb
  have R : Hid (Held w1 (w.heap.size + 1 + 1) (0) (0)) := (Held.at _ (0) (0) _ (by simp)).below bb
  have B := hide (bthen (below_new (below_new (below_new (Below.refl _ w) _) _) _) bb)
  clear bb
  have n3 : w.heap.size ≤ w.heap.size + 1 + 1 := by omega
  have n1 : w.heap.size ≠ w.heap.size + 1 + 1 := by omega
  have n2 : w.heap.size + 1 ≠ w.heap.size + 1 + 1 := by omega
  clear n1 n2
  generalize w.heap.size + 1 + 1 = rb at *
  generalize w.heap.size + 1 = cb at *
  have c0 := C.out.c0
  have c1 := C.out.c1
  go_wp2_with fail
  refine (HS.out _).mono ?_
  rintro e w2 ⟨rfl, bb⟩
  replace R := hide (R.out.past bb)
  replace B := hide (bpast B.out bb)
  clear bb
  have r0 := R.out.c0
  have r1 := R.out.c1
  have rf0 := R.out.f0
  have rf1 := R.out.f1
  go_wp2
  refine bodyPost_ret (v := .tuple #[.agg #[.int .i64 0, .int .i64 0], .int .i64 1]) (by simp [results, Try.results24, go_sem, r0, r1]) rfl ⟨rfl, ?_⟩
  exact below_box B.out _ n3 _ _

set_option maxHeartbeats 1000000 in
theorem Join_core (a b c d : Int) (k : Nat) (_hk : k < 9223372036854775808) (q : Pr) (fs fi u v fe ff : Nat) (x y : Int) (w : World)
    (HR : Hid (∀ w, Calls Try.prog 18 #[.agg #[.int .i64 a, .int .i64 b]] w fun e w' => e = .returned (.bool true) ∧ Below w.heap.size w w'))
    (HS : Hid (∀ w, Calls Try.prog 18 #[.agg #[.int .i64 c, .int .i64 d]] w fun e w' => e = .returned (.bool true) ∧ Below w.heap.size w w'))
    (HW : Hid (∀ w, Calls Try.prog 33 #[.complex .f64 4611686018427387904 4613937818241073152, .int .i64 k] w fun e w' => e = .returned (.complex .f64 (floatOfInt .f64 q.re) (floatOfInt .f64 q.im)) ∧ Below w.heap.size w w'))
    (HP : Hid (∀ w, Calls Try.prog 30 #[.complex .f64 fe ff] w fun e w' => e = .returned (.agg #[.int .i64 x, .int .i64 y]) ∧ Below w.heap.size w w'))
    (h1 : ∀ t w, (binOp .sub t (.complex .f64 (floatOfInt .f64 a) (floatOfInt .f64 b)) (.complex .f64 4607182418800017408 0)).run Try.prog w = .ok (.complex .f64 fs fi) w)
    (h2 : ∀ t w, (binOp .mul t (.complex .f64 fs fi) (.complex .f64 (floatOfInt .f64 q.re) (floatOfInt .f64 q.im))).run Try.prog w = .ok (.complex .f64 u v) w)
    (h3 : ∀ t w, (binOp .add t (.complex .f64 u v) (.complex .f64 (floatOfInt .f64 c) (floatOfInt .f64 d))).run Try.prog w = .ok (.complex .f64 fe ff) w) :
    Calls Try.prog 24 #[.agg #[.int .i64 a, .int .i64 b], .agg #[.int .i64 c, .int .i64 d], .int .i64 k] w fun e w' => e = .returned (.tuple #[.agg #[.int .i64 x, .int .i64 y], .int .i64 0]) ∧ Below w.heap.size w w' := by
  have HN := hide number_any
  go_enter Try.func24, Try.ntmps24
  go_wp2_with fail
  refine (HR.out _).mono ?_
  rintro e w1 ⟨rfl, bb⟩
  have A : Hid (Held w1 (w.heap.size) (a) (b)) := (((Held.at _ (a) (b) _ rfl).alloc _).alloc _).below bb
  have C : Hid (Held w1 (w.heap.size + 1) (c) (d)) := ((Held.at _ (c) (d) _ (by simp)).alloc _).below bb
  have R : Hid (Held w1 (w.heap.size + 1 + 1) (0) (0)) := (Held.at _ (0) (0) _ (by simp)).below bb
  have B := hide (bthen (below_new (below_new (below_new (Below.refl _ w) _) _) _) bb)
  clear bb
  have n3 : w.heap.size ≤ w.heap.size + 1 + 1 := by omega
  have n1 : w.heap.size ≠ w.heap.size + 1 + 1 := by omega
  have n2 : w.heap.size + 1 ≠ w.heap.size + 1 + 1 := by omega
  generalize w.heap.size + 1 + 1 = rb at *
  generalize w.heap.size + 1 = cb at *
  have c0 := C.out.c0
  have c1 := C.out.c1
  go_wp2_with fail
  refine (HS.out _).mono ?_
  rintro e w2 ⟨rfl, bb⟩
  replace A := hide (A.out.past bb)
  replace C := hide (C.out.past bb)
  replace R := hide (R.out.past bb)
  replace B := hide (bpast B.out bb)
  clear bb
  have a0 := A.out.c0
  have a1 := A.out.c1
  replace c0 := C.out.c0
  replace c1 := C.out.c1
  have r0 := R.out.c0
  have r1 := R.out.c1
  have rf0 := R.out.f0
  have rf1 := R.out.f1
  go_wp2
  go_region_held3 (fun w' => w'.cell? ⟨w.heap.size, 0, none⟩ = some (.int .i64 a) ∧ w'.cell? ⟨w.heap.size, 1, none⟩ = some (.int .i64 b) ∧ w'.cell? ⟨cb, 0, none⟩ = some (.int .i64 c) ∧ w'.cell? ⟨cb, 1, none⟩ = some (.int .i64 d))
    (first | go_keep | exact ⟨(A.out.apart _ n1 _ _).c0, (A.out.apart _ n1 _ _).c1, (C.out.apart _ n2 _ _).c0, (C.out.apart _ n2 _ _).c1⟩)
    (first
      | (go_at_call 31; refine (HN.out _ _ _).mono ?_; rintro e w3 ⟨rfl, bb⟩; replace A := hide (A.out.past bb); replace C := hide (C.out.past bb); replace R := hide (R.out.past bb); replace B := hide (bpast B.out bb); clear bb; replace a0 := A.out.c0; replace a1 := A.out.c1; replace c0 := C.out.c0; replace c1 := C.out.c1; replace r0 := R.out.c0; replace r1 := R.out.c1; replace rf0 := R.out.f0; replace rf1 := R.out.f1)
      | (go_at_call 33; refine (HW.out _).mono ?_; rintro e w4 ⟨rfl, bb⟩; replace A := hide (A.out.past bb); replace C := hide (C.out.past bb); replace R := hide (R.out.past bb); replace B := hide (bpast B.out bb); clear bb; replace a0 := A.out.c0; replace a1 := A.out.c1; replace c0 := C.out.c0; replace c1 := C.out.c1; replace r0 := R.out.c0; replace r1 := R.out.c1; replace rf0 := R.out.f0; replace rf1 := R.out.f1)
      | (go_at_call 30; refine (HP.out _).mono ?_; rintro e w5 ⟨rfl, bb⟩; replace A := hide (A.out.past bb); replace C := hide (C.out.past bb); replace R := hide (R.out.past bb); replace B := hide (bpast B.out bb); clear bb; replace a0 := A.out.c0; replace a1 := A.out.c1; replace c0 := C.out.c0; replace c1 := C.out.c1; replace r0 := R.out.c0; replace r1 := R.out.c1; replace rf0 := R.out.f0; replace rf1 := R.out.f1))
  go_wp2
  refine bodyPost_ret (v := .tuple #[.agg #[.int .i64 x, .int .i64 y], .int .i64 0]) (by simp [results, Try.results24, go_sem, r0, r1]) rfl ⟨rfl, ?_⟩
  exact below_box B.out _ n3 _ _

theorem Join_right (d e : Pr) (k : Nat) (hd : d.right) (he : e.right) (hk : k < 9223372036854775808) (w : World) :
    Calls Try.prog 24 #[.agg #[.int .i64 d.re, .int .i64 d.im], .agg #[.int .i64 e.re, .int .i64 e.im], .int .i64 k] w fun r w' => r = .returned (.tuple #[.agg #[.int .i64 (joinP d e k).re, .int .i64 (joinP d e k).im], .int .i64 0]) ∧ Below w.heap.size w w' := by
  have hq := powP_right gP k
  have HW : ∀ w, Calls Try.prog 33 #[.complex .f64 4611686018427387904 4613937818241073152, .int .i64 k] w fun e w' => e = .returned (.complex .f64 (floatOfInt .f64 (powP gP k).re) (floatOfInt .f64 (powP gP k).im)) ∧ Below w.heap.size w w' := by
    have h := power_any gP k (by unfold Pr.right; decide) hk
    rw [show gP.re = 2 from rfl, show gP.im = 3 from rfl, fl2, fl3] at h
    exact h
  have hj := joinP_at d e (powP gP k)
  have HR := Right_is d.re d.im true (Pr.right_b hd)
  have HS := Right_is e.re e.im true (Pr.right_b he)
  have ej : joinP d e k = addP (mulP (subP d Pr.one) (powP gP k)) e := rfl
  rw [ej, ← hj]
  generalize powP gP k = q at *
  obtain ⟨d1, d2, d3, d4⟩ := hd
  obtain ⟨e1, e2, e3, e4⟩ := he
  obtain ⟨q1, q2, q3, q4⟩ := hq
  have hp : pI = 33554383 := rfl
  rw [hp] at d2 d4 e2 e4 q2 q4
  obtain ⟨u, v, hm, hs⟩ := fl_cjoin (d.re - 1) d.im q.re q.im e.re e.im (by omega) (by omega) (by omega) (by omega) (by omega) (by omega)
  have h1 := fl_cdiff d.re d.im 1 0 (by omega) (by omega) (by omega) (by omega)
  rw [fl1, fl0, Int.sub_zero] at h1
  have b1 : (q.re * (d.re - 1)).natAbs < 2 ^ 51 := by
    by_cases h : d.re = 0
    · rw [h]; omega
    · have := mul_lt26 q.re (d.re - 1) (by omega) (by omega)
      omega
  have b2 : (q.im * (d.re - 1)).natAbs < 2 ^ 51 := by
    by_cases h : d.re = 0
    · rw [h]; omega
    · have := mul_lt26 q.im (d.re - 1) (by omega) (by omega)
      omega
  have b3 := mul_lt26 d.im q.im (by omega) (by omega)
  have b4 := mul_lt26 d.im q.re (by omega) (by omega)
  have HP := pair_any ((d.re - 1) * q.re - d.im * q.im + e.re) ((d.re - 1) * q.im + d.im * q.re + e.im) (by rw [Int.mul_comm (d.re - 1)]; omega) (by rw [Int.mul_comm (d.re - 1)]; omega)
  exact Join_core d.re d.im e.re e.im k hk q _ _ u v _ _ _ _ w HR HS HW HP (fun t w => run_complex_sum (P := Try.prog) w .sub (Or.inr rfl) t .f64 _ _ _ _ _ _ h1) (fun t w => run_complex_mul (P := Try.prog) w t _ _ _ _ _ _ hm) (fun t w => run_complex_sum (P := Try.prog) w .add (Or.inl rfl) t .f64 _ _ _ _ _ _ hs)

end Go.Proofs.Ytjkediidbbpnjaa
