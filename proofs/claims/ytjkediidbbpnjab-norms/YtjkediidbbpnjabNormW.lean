/-
  GaussNorms as it runs.
-/
import Derived.Test.YtjkediidbbpnjabPut
import Derived.Lib.QuietBelow
namespace Go.Proofs.Ytjkediidbbpnjab
open Go.RowKit Go.Sort

theorem norm_any (z : Pr) (hz : z.right) (w : World) :
    Calls Try.prog 9 #[.agg #[.int .i64 z.re, .int .i64 z.im]] w fun e w' => e = .returned (.int .i64 (normP z)) ∧ Below w.heap.size w w' := by
  have HN := hide (norm_parts z)
  obtain ⟨h1, h2, h3, h4⟩ := hz
  have hp : pI = 33554383 := rfl
  rw [hp] at h2 h4
  have g1 := mul_lt26 z.re z.re (by omega) (by omega)
  have g2 := mul_lt26 z.im z.im (by omega) (by omega)
  generalize normP z = N at *
  go_enter Try.func9, Try.ntmps9
  go_wp2
  go_ret
  refine ⟨ret_i64 ?_, (Below.refl _ _).alloc (Nat.le_refl _) _⟩
  rw [HN.out, hp]
theorem norm_is (x y : Int) (h : Hid (Pr.right ⟨x, y⟩)) (w : World) :
    Calls Try.prog 9 #[.agg #[.int .i64 x, .int .i64 y]] w fun e w' => e = .returned (.int .i64 (normP ⟨x, y⟩)) ∧ Below w.heap.size w w' := norm_any ⟨x, y⟩ h.out w

set_option maxHeartbeats 1000000 in
theorem norms_core0 (a b c d x y s t m n : Int) (hx : ¬ x = 0) (hn : (normP ⟨x, y⟩ == 0) = false) (hb : 0 ≤ normP ⟨x, y⟩ * normP ⟨s, t⟩ ∧ normP ⟨x, y⟩ * normP ⟨s, t⟩ < 2 ^ 51) (hN : normP ⟨x, y⟩ * normP ⟨s, t⟩ % 33554383 = normP ⟨m, n⟩) (R1 : Hid (Pr.right ⟨x, y⟩)) (R2 : Hid (Pr.right ⟨s, t⟩)) (R3 : Hid (Pr.right ⟨m, n⟩)) (w : World)
    (HE : Hid (∀ w, Calls Try.prog 5 #[] w fun e w' => e = .returned (.bool true) ∧ Below w.heap.size w w'))
    (HA : Hid (∀ w, Calls Try.prog 6 #[.agg #[.int .i64 a, .int .i64 b]] w fun e w' => e = .returned (.agg #[.int .i64 x, .int .i64 y]) ∧ Below w.heap.size w w'))
    (HC : Hid (∀ w, Calls Try.prog 6 #[.agg #[.int .i64 c, .int .i64 d]] w fun e w' => e = .returned (.agg #[.int .i64 s, .int .i64 t]) ∧ Below w.heap.size w w'))
    (HM : Hid (∀ w, Calls Try.prog 8 #[.agg #[.int .i64 x, .int .i64 y], .agg #[.int .i64 s, .int .i64 t]] w fun e w' => e = .returned (.tuple #[.agg #[.int .i64 m, .int .i64 n], .int .i64 0]) ∧ Below w.heap.size w w')) :
    Calls Try.prog 4 #[.agg #[.int .i64 a, .int .i64 b], .agg #[.int .i64 c, .int .i64 d]] w fun e w' => e = .returned (.bool true) ∧ Below w.heap.size w w' := by
  have HH := hide norm_is
  have hw := IntWalk.i64_left (normP ⟨x, y⟩ * normP ⟨s, t⟩)
  rw [IntWalk.wrap64_in _ (by omega)] at hw
  have ht : (normP ⟨x, y⟩ * normP ⟨s, t⟩).tmod 33554383 = normP ⟨m, n⟩ := by rw [Int.tmod_eq_emod_of_nonneg hb.1]; exact hN
  go_enter Try.func4, Try.ntmps4
  go_wp2_with fail
  refine (HE.out _).mono ?_
  rintro e w1 ⟨rfl, bb⟩
  have A : Hid (Held w1 (w.heap.size) (a) (b)) := ((Held.at _ (a) (b) _ rfl).alloc _).below bb
  have C : Hid (Held w1 (w.heap.size + 1) (c) (d)) := (Held.at _ (c) (d) _ (by simp)).below bb
  have B := hide (bpast (below_new (below_new (Below.refl _ w) _) _) bb)
  clear bb
  have ac0 := A.out.c0
  have ac1 := A.out.c1
  go_wp2_with fail
  refine (HA.out _).mono ?_
  rintro e w2 ⟨rfl, bb⟩
  clear ac0 ac1
  replace A := hide (A.out.past bb)
  replace C := hide (C.out.past bb)
  replace B := hide (bpast B.out bb)
  clear bb
  have cc0 := C.out.c0
  have cc1 := C.out.c1
  have ac0 := A.out.c0
  have ac1 := A.out.c1
  have af0 := A.out.f0
  have af1 := A.out.f1
  go_wp2_with fail
  refine (HC.out _).mono ?_
  rintro e w3 ⟨rfl, bb⟩
  clear cc0 cc1 ac0 ac1 af0 af1
  replace A := hide ((A.out.put (x) (y)).past bb)
  replace C := hide ((C.out.apart (w.heap.size) (by omega) (.int .i64 (x)) (.int .i64 (y))).past bb)
  replace B := hide (bpast (below_box B.out (w.heap.size) (by omega) (.int .i64 (x)) (.int .i64 (y))) bb)
  clear bb
  have ac0 := A.out.c0
  have ac1 := A.out.c1
  have cc0 := C.out.c0
  have cc1 := C.out.c1
  have cf0 := C.out.f0
  have cf1 := C.out.f1
  go_wp2_with fail
  refine (HM.out _).mono ?_
  rintro e w4 ⟨rfl, bb⟩
  clear ac0 ac1 cc0 cc1 cf0 cf1
  replace A := hide ((A.out.apart (w.heap.size + 1) (by omega) (.int .i64 (s)) (.int .i64 (t))).past bb)
  replace C := hide ((C.out.put (s) (t)).past bb)
  replace B := hide (bpast (below_box B.out (w.heap.size + 1) (by omega) (.int .i64 (s)) (.int .i64 (t))) bb)
  clear bb
  go_wp2
  replace A := hide (A.out.alloc (.cells #[.int .i64 (m), .int .i64 (n)] 23))
  replace C := hide (C.out.alloc (.cells #[.int .i64 (m), .int .i64 (n)] 23))
  have X : Hid (Held (w4.alloc (.cells #[.int .i64 (m), .int .i64 (n)] 23)) (w4.heap.size) (m) (n)) := Held.at _ (m) (n) _ rfl
  replace B := hide (below_new B.out (.cells #[.int .i64 (m), .int .i64 (n)] 23))
  generalize (w4.alloc (.cells #[.int .i64 (m), .int .i64 (n)] 23)) = W5 at *
  generalize w4.heap.size = bX at *
  have ac0 := cell_regrown A.out.c0
  have ac1 := cell_regrown A.out.c1
  have cc0 := cell_regrown C.out.c0
  have cc1 := cell_regrown C.out.c1
  have xc0 := cell_regrown X.out.c0
  have xc1 := cell_regrown X.out.c1
  refine wp_region_quiet_below (by kernel_rfl) (by kernel_rfl) ?_
  repeat (go_big_quiet_step (first | (go_at_call 9; exact Calls.regrown_of (HH.out _ _ (by assumption) _))))
  refine wpQuiet_nil ?_
  intro _ hw'
  obtain ⟨⟨dq, osq⟩, hw''⟩ := hw'
  subst hw''
  have bb := below_regrown W5 dq osq
  generalize grow (redrawn W5 dq) osq = w6 at *
  replace A := hide (A.out.below bb)
  replace C := hide (C.out.below bb)
  replace X := hide (X.out.below bb)
  replace B := hide (bthen B.out bb)
  clear bb ac0 ac1 cc0 cc1 xc0 xc1
  go_wp2
  go_ret
  exact ⟨rfl, B.out⟩

set_option maxHeartbeats 1000000 in
theorem norms_core1 (a b c d y s t m n : Int) (hy : ¬ y = 0) (hn : (normP ⟨0, y⟩ == 0) = false) (hb : 0 ≤ normP ⟨0, y⟩ * normP ⟨s, t⟩ ∧ normP ⟨0, y⟩ * normP ⟨s, t⟩ < 2 ^ 51) (hN : normP ⟨0, y⟩ * normP ⟨s, t⟩ % 33554383 = normP ⟨m, n⟩) (R1 : Hid (Pr.right ⟨0, y⟩)) (R2 : Hid (Pr.right ⟨s, t⟩)) (R3 : Hid (Pr.right ⟨m, n⟩)) (w : World)
    (HE : Hid (∀ w, Calls Try.prog 5 #[] w fun e w' => e = .returned (.bool true) ∧ Below w.heap.size w w'))
    (HA : Hid (∀ w, Calls Try.prog 6 #[.agg #[.int .i64 a, .int .i64 b]] w fun e w' => e = .returned (.agg #[.int .i64 0, .int .i64 y]) ∧ Below w.heap.size w w'))
    (HC : Hid (∀ w, Calls Try.prog 6 #[.agg #[.int .i64 c, .int .i64 d]] w fun e w' => e = .returned (.agg #[.int .i64 s, .int .i64 t]) ∧ Below w.heap.size w w'))
    (HM : Hid (∀ w, Calls Try.prog 8 #[.agg #[.int .i64 0, .int .i64 y], .agg #[.int .i64 s, .int .i64 t]] w fun e w' => e = .returned (.tuple #[.agg #[.int .i64 m, .int .i64 n], .int .i64 0]) ∧ Below w.heap.size w w')) :
    Calls Try.prog 4 #[.agg #[.int .i64 a, .int .i64 b], .agg #[.int .i64 c, .int .i64 d]] w fun e w' => e = .returned (.bool true) ∧ Below w.heap.size w w' := by
  have HH := hide norm_is
  have hw := IntWalk.i64_left (normP ⟨0, y⟩ * normP ⟨s, t⟩)
  rw [IntWalk.wrap64_in _ (by omega)] at hw
  have ht : (normP ⟨0, y⟩ * normP ⟨s, t⟩).tmod 33554383 = normP ⟨m, n⟩ := by rw [Int.tmod_eq_emod_of_nonneg hb.1]; exact hN
  go_enter Try.func4, Try.ntmps4
  go_wp2_with fail
  refine (HE.out _).mono ?_
  rintro e w1 ⟨rfl, bb⟩
  have A : Hid (Held w1 (w.heap.size) (a) (b)) := ((Held.at _ (a) (b) _ rfl).alloc _).below bb
  have C : Hid (Held w1 (w.heap.size + 1) (c) (d)) := (Held.at _ (c) (d) _ (by simp)).below bb
  have B := hide (bpast (below_new (below_new (Below.refl _ w) _) _) bb)
  clear bb
  have ac0 := A.out.c0
  have ac1 := A.out.c1
  go_wp2_with fail
  refine (HA.out _).mono ?_
  rintro e w2 ⟨rfl, bb⟩
  clear ac0 ac1
  replace A := hide (A.out.past bb)
  replace C := hide (C.out.past bb)
  replace B := hide (bpast B.out bb)
  clear bb
  have cc0 := C.out.c0
  have cc1 := C.out.c1
  have ac0 := A.out.c0
  have ac1 := A.out.c1
  have af0 := A.out.f0
  have af1 := A.out.f1
  go_wp2_with fail
  refine (HC.out _).mono ?_
  rintro e w3 ⟨rfl, bb⟩
  clear cc0 cc1 ac0 ac1 af0 af1
  replace A := hide ((A.out.put (0) (y)).past bb)
  replace C := hide ((C.out.apart (w.heap.size) (by omega) (.int .i64 (0)) (.int .i64 (y))).past bb)
  replace B := hide (bpast (below_box B.out (w.heap.size) (by omega) (.int .i64 (0)) (.int .i64 (y))) bb)
  clear bb
  have ac0 := A.out.c0
  have ac1 := A.out.c1
  have cc0 := C.out.c0
  have cc1 := C.out.c1
  have cf0 := C.out.f0
  have cf1 := C.out.f1
  go_wp2_with fail
  refine (HM.out _).mono ?_
  rintro e w4 ⟨rfl, bb⟩
  clear ac0 ac1 cc0 cc1 cf0 cf1
  replace A := hide ((A.out.apart (w.heap.size + 1) (by omega) (.int .i64 (s)) (.int .i64 (t))).past bb)
  replace C := hide ((C.out.put (s) (t)).past bb)
  replace B := hide (bpast (below_box B.out (w.heap.size + 1) (by omega) (.int .i64 (s)) (.int .i64 (t))) bb)
  clear bb
  go_wp2
  replace A := hide (A.out.alloc (.cells #[.int .i64 (m), .int .i64 (n)] 23))
  replace C := hide (C.out.alloc (.cells #[.int .i64 (m), .int .i64 (n)] 23))
  have X : Hid (Held (w4.alloc (.cells #[.int .i64 (m), .int .i64 (n)] 23)) (w4.heap.size) (m) (n)) := Held.at _ (m) (n) _ rfl
  replace B := hide (below_new B.out (.cells #[.int .i64 (m), .int .i64 (n)] 23))
  generalize (w4.alloc (.cells #[.int .i64 (m), .int .i64 (n)] 23)) = W5 at *
  generalize w4.heap.size = bX at *
  have ac0 := cell_regrown A.out.c0
  have ac1 := cell_regrown A.out.c1
  have cc0 := cell_regrown C.out.c0
  have cc1 := cell_regrown C.out.c1
  have xc0 := cell_regrown X.out.c0
  have xc1 := cell_regrown X.out.c1
  refine wp_region_quiet_below (by kernel_rfl) (by kernel_rfl) ?_
  repeat (go_big_quiet_step (first | (go_at_call 9; exact Calls.regrown_of (HH.out _ _ (by assumption) _))))
  refine wpQuiet_nil ?_
  intro _ hw'
  obtain ⟨⟨dq, osq⟩, hw''⟩ := hw'
  subst hw''
  have bb := below_regrown W5 dq osq
  generalize grow (redrawn W5 dq) osq = w6 at *
  replace A := hide (A.out.below bb)
  replace C := hide (C.out.below bb)
  replace X := hide (X.out.below bb)
  replace B := hide (bthen B.out bb)
  clear bb ac0 ac1 cc0 cc1 xc0 xc1
  go_wp2
  go_ret
  exact ⟨rfl, B.out⟩

set_option maxHeartbeats 1000000 in
theorem norms_core2 (a b c d s t : Int) (hn : normP ⟨0, 0⟩ = 0) (R1 : Hid (Pr.right ⟨0, 0⟩)) (R2 : Hid (Pr.right ⟨s, t⟩)) (w : World)
    (HE : Hid (∀ w, Calls Try.prog 5 #[] w fun e w' => e = .returned (.bool true) ∧ Below w.heap.size w w'))
    (HA : Hid (∀ w, Calls Try.prog 6 #[.agg #[.int .i64 a, .int .i64 b]] w fun e w' => e = .returned (.agg #[.int .i64 0, .int .i64 0]) ∧ Below w.heap.size w w'))
    (HC : Hid (∀ w, Calls Try.prog 6 #[.agg #[.int .i64 c, .int .i64 d]] w fun e w' => e = .returned (.agg #[.int .i64 s, .int .i64 t]) ∧ Below w.heap.size w w'))
    (HM : Hid (∀ w, Calls Try.prog 8 #[.agg #[.int .i64 0, .int .i64 0], .agg #[.int .i64 s, .int .i64 t]] w fun e w' => e = .returned (.tuple #[.agg #[.int .i64 0, .int .i64 0], .int .i64 0]) ∧ Below w.heap.size w w')) :
    Calls Try.prog 4 #[.agg #[.int .i64 a, .int .i64 b], .agg #[.int .i64 c, .int .i64 d]] w fun e w' => e = .returned (.bool true) ∧ Below w.heap.size w w' := by
  have HH := hide norm_is
  go_enter Try.func4, Try.ntmps4
  go_wp2_with fail
  refine (HE.out _).mono ?_
  rintro e w1 ⟨rfl, bb⟩
  have A : Hid (Held w1 (w.heap.size) (a) (b)) := ((Held.at _ (a) (b) _ rfl).alloc _).below bb
  have C : Hid (Held w1 (w.heap.size + 1) (c) (d)) := (Held.at _ (c) (d) _ (by simp)).below bb
  have B := hide (bpast (below_new (below_new (Below.refl _ w) _) _) bb)
  clear bb
  have ac0 := A.out.c0
  have ac1 := A.out.c1
  go_wp2_with fail
  refine (HA.out _).mono ?_
  rintro e w2 ⟨rfl, bb⟩
  clear ac0 ac1
  replace A := hide (A.out.past bb)
  replace C := hide (C.out.past bb)
  replace B := hide (bpast B.out bb)
  clear bb
  have cc0 := C.out.c0
  have cc1 := C.out.c1
  have ac0 := A.out.c0
  have ac1 := A.out.c1
  have af0 := A.out.f0
  have af1 := A.out.f1
  go_wp2_with fail
  refine (HC.out _).mono ?_
  rintro e w3 ⟨rfl, bb⟩
  clear cc0 cc1 ac0 ac1 af0 af1
  replace A := hide ((A.out.put (0) (0)).past bb)
  replace C := hide ((C.out.apart (w.heap.size) (by omega) (.int .i64 (0)) (.int .i64 (0))).past bb)
  replace B := hide (bpast (below_box B.out (w.heap.size) (by omega) (.int .i64 (0)) (.int .i64 (0))) bb)
  clear bb
  have ac0 := A.out.c0
  have ac1 := A.out.c1
  have cc0 := C.out.c0
  have cc1 := C.out.c1
  have cf0 := C.out.f0
  have cf1 := C.out.f1
  go_wp2_with fail
  refine (HM.out _).mono ?_
  rintro e w4 ⟨rfl, bb⟩
  clear ac0 ac1 cc0 cc1 cf0 cf1
  replace A := hide ((A.out.apart (w.heap.size + 1) (by omega) (.int .i64 (s)) (.int .i64 (t))).past bb)
  replace C := hide ((C.out.put (s) (t)).past bb)
  replace B := hide (bpast (below_box B.out (w.heap.size + 1) (by omega) (.int .i64 (s)) (.int .i64 (t))) bb)
  clear bb
  go_wp2
  replace A := hide (A.out.alloc (.cells #[.int .i64 (0), .int .i64 (0)] 23))
  replace C := hide (C.out.alloc (.cells #[.int .i64 (0), .int .i64 (0)] 23))
  have X : Hid (Held (w4.alloc (.cells #[.int .i64 (0), .int .i64 (0)] 23)) (w4.heap.size) (0) (0)) := Held.at _ (0) (0) _ rfl
  replace B := hide (below_new B.out (.cells #[.int .i64 (0), .int .i64 (0)] 23))
  generalize (w4.alloc (.cells #[.int .i64 (0), .int .i64 (0)] 23)) = W5 at *
  generalize w4.heap.size = bX at *
  have ac0 := cell_regrown A.out.c0
  have ac1 := cell_regrown A.out.c1
  have cc0 := cell_regrown C.out.c0
  have cc1 := cell_regrown C.out.c1
  have xc0 := cell_regrown X.out.c0
  have xc1 := cell_regrown X.out.c1
  refine wp_region_quiet_below (by kernel_rfl) (by kernel_rfl) ?_
  repeat (go_big_quiet_step (first | (go_at_call 9; exact Calls.regrown_of (HH.out _ _ (by assumption) _))))
  refine wpQuiet_nil ?_
  intro _ hw'
  obtain ⟨⟨dq, osq⟩, hw''⟩ := hw'
  subst hw''
  have bb := below_regrown W5 dq osq
  generalize grow (redrawn W5 dq) osq = w6 at *
  replace A := hide (A.out.below bb)
  replace C := hide (C.out.below bb)
  replace X := hide (X.out.below bb)
  replace B := hide (bthen B.out bb)
  clear bb ac0 ac1 cc0 cc1 xc0 xc1
  go_wp2
  go_ret
  exact ⟨rfl, B.out⟩


theorem norms_walk (a b c d : Int) (w : World) :
    Calls Try.prog 4 #[.agg #[.int .i64 a, .int .i64 b], .agg #[.int .i64 c, .int .i64 d]] w fun e w' => e = .returned (.bool true) ∧ Below w.heap.size w w' := by
  have HA := right_any a b
  have HC := right_any c d
  have R1 := right_pr a b
  have R2 := right_pr c d
  generalize a % 33554383 = x at *
  generalize b % 33554383 = y at *
  generalize c % 33554383 = s at *
  generalize d % 33554383 = t at *
  have HM := fun w => Mul_right x y s t w R1 R2
  have R3 := mulP_right ⟨x, y⟩ ⟨s, t⟩
  have hN := norm_mul ⟨x, y⟩ ⟨s, t⟩
  have h0 := norm_iff ⟨x, y⟩ R1
  have hb := mul_lt26 (normP ⟨x, y⟩) (normP ⟨s, t⟩) (mod_right _) (mod_right _)
  by_cases hx : x = 0
  · subst hx
    by_cases hy : y = 0
    · subst hy
      have e0 : mulP ⟨0, 0⟩ ⟨s, t⟩ = ⟨0, 0⟩ := by unfold mulP; simp
      have HM2 : ∀ w, Calls Try.prog 8 #[.agg #[.int .i64 0, .int .i64 0], .agg #[.int .i64 s, .int .i64 t]] w fun e w' => e = .returned (.tuple #[.agg #[.int .i64 0, .int .i64 0], .int .i64 0]) ∧ Below w.heap.size w w' := fun w => by
        have h : Calls Try.prog 8 #[.agg #[.int .i64 0, .int .i64 0], .agg #[.int .i64 s, .int .i64 t]] w fun e w' => e = .returned (.tuple #[.agg #[.int .i64 (mulP ⟨0, 0⟩ ⟨s, t⟩).re, .int .i64 (mulP ⟨0, 0⟩ ⟨s, t⟩).im], .int .i64 0]) ∧ Below w.heap.size w w' := HM w
        rw [e0] at h
        exact h
      exact norms_core2 a b c d s t (h0.2 rfl) R1 R2 w examples_any HA HC HM2
    · exact norms_core1 a b c d y s t _ _ hy (beq_eq_false_iff_ne.2 fun h => hy (congrArg Pr.im (h0.1 h))) hb hN.symm R1 R2 R3 w examples_any HA HC HM
  · exact norms_core0 a b c d x y s t _ _ hx (beq_eq_false_iff_ne.2 fun h => hx (congrArg Pr.re (h0.1 h))) hb hN.symm R1 R2 R3 w examples_any HA HC HM

end Go.Proofs.Ytjkediidbbpnjab
