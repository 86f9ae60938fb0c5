/-
  GaussReckons as it runs.
-/
import Derived.Test.YtjkediidbbpnjaaX1
import Derived.Test.YtjkediidbbpnjaaR1
import Derived.Lib.QuietBelow
namespace Go.Proofs.Ytjkediidbbpnjaa
open Go.RowKit Go.Sort

set_option maxHeartbeats 1000000 in
theorem reck_right (a b c d s t u v m n : Int) (w : World)
    (HE : Hid (∀ w, Calls Try.prog 9 #[] w fun e w' => e = .returned (.bool true) ∧ Below w.heap.size w w'))
    (HQ : Hid (∀ w, Calls Try.prog 10 #[.agg #[.int .i64 a, .int .i64 b]] w fun e w' => e = .returned (.bool true) ∧ Below w.heap.size w w'))
    (HR : Hid (∀ w, Calls Try.prog 10 #[.agg #[.int .i64 c, .int .i64 d]] w fun e w' => e = .returned (.bool true) ∧ Below w.heap.size w w'))
    (HG : Hid (∀ w, Calls Try.prog 18 #[.agg #[.int .i64 a, .int .i64 b]] w fun e w' => e = .returned (.bool true) ∧ Below w.heap.size w w'))
    (HA : Hid (∀ w, Calls Try.prog 11 #[.agg #[.int .i64 a, .int .i64 b], .agg #[.int .i64 c, .int .i64 d]] w fun e w' => e = .returned (.tuple #[.agg #[.int .i64 s, .int .i64 t], .int .i64 0]) ∧ Below w.heap.size w w'))
    (HS : Hid (∀ w, Calls Try.prog 12 #[.agg #[.int .i64 a, .int .i64 b], .agg #[.int .i64 c, .int .i64 d]] w fun e w' => e = .returned (.tuple #[.agg #[.int .i64 u, .int .i64 v], .int .i64 0]) ∧ Below w.heap.size w w'))
    (HM : Hid (∀ w, Calls Try.prog 13 #[.agg #[.int .i64 a, .int .i64 b], .agg #[.int .i64 c, .int .i64 d]] w fun e w' => e = .returned (.tuple #[.agg #[.int .i64 m, .int .i64 n], .int .i64 0]) ∧ Below w.heap.size w w'))
    (JA : Hid (∀ w, Calls Try.prog 15 #[.agg #[.int .i64 a, .int .i64 b], .agg #[.int .i64 c, .int .i64 d]] w fun e w' => e = .returned (.agg #[.int .i64 s, .int .i64 t]) ∧ Below w.heap.size w w'))
    (JS : Hid (∀ w, Calls Try.prog 16 #[.agg #[.int .i64 a, .int .i64 b], .agg #[.int .i64 c, .int .i64 d]] w fun e w' => e = .returned (.agg #[.int .i64 u, .int .i64 v]) ∧ Below w.heap.size w w'))
    (JM : Hid (∀ w, Calls Try.prog 17 #[.agg #[.int .i64 a, .int .i64 b], .agg #[.int .i64 c, .int .i64 d]] w fun e w' => e = .returned (.agg #[.int .i64 m, .int .i64 n]) ∧ Below w.heap.size w w')) :
    Calls Try.prog 3 #[.agg #[.int .i64 a, .int .i64 b], .agg #[.int .i64 c, .int .i64 d]] w fun e w' => e = .returned (.bool true) ∧ Below w.heap.size w w' := by
  have TY := hide told_yes
  go_enter Try.func3, Try.ntmps3
  go_wp2_with fail
  refine (HE.out _).mono ?_
  rintro e w1 ⟨rfl, bb⟩
  have A : Hid (Held w1 (w.heap.size) (a) (b)) := ((Held.at _ (a) (b) _ rfl).alloc _).below bb
  have C : Hid (Held w1 (w.heap.size + 1) (c) (d)) := (Held.at _ (c) (d) _ (by simp)).below bb
  have B := hide (bpast (below_new (below_new (Below.refl _ w) _) _) bb)
  clear bb
  have ac0 := A.out.c0
  have ac1 := A.out.c1
  go_wp2_with fail
  refine (HQ.out _).mono ?_
  rintro e w2 ⟨rfl, bb⟩
  clear ac0 ac1
  replace A := hide (A.out.past bb)
  replace C := hide (C.out.past bb)
  replace B := hide (bpast B.out bb)
  clear bb
  have cc0 := C.out.c0
  have cc1 := C.out.c1
  go_wp2_with fail
  refine (HR.out _).mono ?_
  rintro e w3 ⟨rfl, bb⟩
  clear cc0 cc1
  replace A := hide (A.out.past bb)
  replace C := hide (C.out.past bb)
  replace B := hide (bpast B.out bb)
  clear bb
  have ac0 := A.out.c0
  have ac1 := A.out.c1
  have cc0 := C.out.c0
  have cc1 := C.out.c1
  go_wp2_with fail
  refine (HA.out _).mono ?_
  rintro e w4 ⟨rfl, bb⟩
  clear ac0 ac1 cc0 cc1
  replace A := hide (A.out.past bb)
  replace C := hide (C.out.past bb)
  replace B := hide (bpast B.out bb)
  clear bb
  have ac0 := fun o0 => (A.out.alloc o0).c0
  have ac1 := fun o0 => (A.out.alloc o0).c1
  have cc0 := fun o0 => (C.out.alloc o0).c0
  have cc1 := fun o0 => (C.out.alloc o0).c1
  go_wp2_with fail
  refine (HS.out _).mono ?_
  rintro e w5 ⟨rfl, bb⟩
  clear ac0 ac1 cc0 cc1
  replace A := hide ((A.out.alloc _).past bb)
  replace C := hide ((C.out.alloc _).past bb)
  have X : Hid (Held w5 (w4.heap.size) (s) (t)) := (Held.at _ (s) (t) _ rfl).below bb
  replace B := hide (bpast (below_new B.out _) bb)
  clear bb
  generalize w4.heap.size = bX at *
  have ac0 := fun o0 => (A.out.alloc o0).c0
  have ac1 := fun o0 => (A.out.alloc o0).c1
  have cc0 := fun o0 => (C.out.alloc o0).c0
  have cc1 := fun o0 => (C.out.alloc o0).c1
  go_wp2_with fail
  refine (HM.out _).mono ?_
  rintro e w6 ⟨rfl, bb⟩
  clear ac0 ac1 cc0 cc1
  replace A := hide ((A.out.alloc _).past bb)
  replace C := hide ((C.out.alloc _).past bb)
  replace X := hide ((X.out.alloc _).past bb)
  have Y : Hid (Held w6 (w5.heap.size) (u) (v)) := (Held.at _ (u) (v) _ rfl).below bb
  replace B := hide (bpast (below_new B.out _) bb)
  clear bb
  generalize w5.heap.size = bY at *
  go_wp2
  replace A := hide (A.out.alloc (.cells #[.int .i64 (m), .int .i64 (n)] 23))
  replace C := hide (C.out.alloc (.cells #[.int .i64 (m), .int .i64 (n)] 23))
  replace X := hide (X.out.alloc (.cells #[.int .i64 (m), .int .i64 (n)] 23))
  replace Y := hide (Y.out.alloc (.cells #[.int .i64 (m), .int .i64 (n)] 23))
  have Z : Hid (Held (w6.alloc (.cells #[.int .i64 (m), .int .i64 (n)] 23)) (w6.heap.size) (m) (n)) := Held.at _ (m) (n) _ rfl
  replace B := hide (below_new B.out (.cells #[.int .i64 (m), .int .i64 (n)] 23))
  generalize (w6.alloc (.cells #[.int .i64 (m), .int .i64 (n)] 23)) = W7 at *
  generalize w6.heap.size = bZ at *
  have xc0 := cell_regrown X.out.c0
  have xc1 := cell_regrown X.out.c1
  have ac0 := cell_regrown A.out.c0
  have ac1 := cell_regrown A.out.c1
  have cc0 := cell_regrown C.out.c0
  have cc1 := cell_regrown C.out.c1
  refine wp_region_quiet_below (by kernel_rfl) (by kernel_rfl) ?_
  repeat (go_big_quiet_step (first | (go_at_call 15; exact Calls.regrown_of (JA.out _)) | (go_at_call 14; exact Calls.regrown_of (TY.out _ _ _))))
  refine wpQuiet_nil ?_
  intro _ hw'
  obtain ⟨⟨dq, osq⟩, hw''⟩ := hw'
  subst hw''
  have bb := below_regrown W7 dq osq
  generalize grow (redrawn W7 dq) osq = w8 at *
  replace A := hide (A.out.below bb)
  replace C := hide (C.out.below bb)
  replace X := hide (X.out.below bb)
  replace Y := hide (Y.out.below bb)
  replace Z := hide (Z.out.below bb)
  replace B := hide (bthen B.out bb)
  clear bb xc0 xc1 ac0 ac1 cc0 cc1
  go_wp2
  have yc0 := cell_regrown Y.out.c0
  have yc1 := cell_regrown Y.out.c1
  have ac0 := cell_regrown A.out.c0
  have ac1 := cell_regrown A.out.c1
  have cc0 := cell_regrown C.out.c0
  have cc1 := cell_regrown C.out.c1
  refine wp_region_quiet_below (by kernel_rfl) (by kernel_rfl) ?_
  repeat (go_big_quiet_step (first | (go_at_call 16; exact Calls.regrown_of (JS.out _)) | (go_at_call 14; exact Calls.regrown_of (TY.out _ _ _))))
  refine wpQuiet_nil ?_
  intro _ hw'
  obtain ⟨⟨dq, osq⟩, hw''⟩ := hw'
  subst hw''
  have bb := below_regrown w8 dq osq
  generalize grow (redrawn w8 dq) osq = w9 at *
  replace A := hide (A.out.below bb)
  replace C := hide (C.out.below bb)
  replace X := hide (X.out.below bb)
  replace Y := hide (Y.out.below bb)
  replace Z := hide (Z.out.below bb)
  replace B := hide (bthen B.out bb)
  clear bb yc0 yc1 ac0 ac1 cc0 cc1
  go_wp2
  have zc0 := cell_regrown Z.out.c0
  have zc1 := cell_regrown Z.out.c1
  have ac0 := cell_regrown A.out.c0
  have ac1 := cell_regrown A.out.c1
  have cc0 := cell_regrown C.out.c0
  have cc1 := cell_regrown C.out.c1
  refine wp_region_quiet_below (by kernel_rfl) (by kernel_rfl) ?_
  repeat (go_big_quiet_step (first | (go_at_call 17; exact Calls.regrown_of (JM.out _)) | (go_at_call 14; exact Calls.regrown_of (TY.out _ _ _))))
  refine wpQuiet_nil ?_
  intro _ hw'
  obtain ⟨⟨dq, osq⟩, hw''⟩ := hw'
  subst hw''
  have bb := below_regrown w9 dq osq
  generalize grow (redrawn w9 dq) osq = w10 at *
  replace A := hide (A.out.below bb)
  replace C := hide (C.out.below bb)
  replace X := hide (X.out.below bb)
  replace Y := hide (Y.out.below bb)
  replace Z := hide (Z.out.below bb)
  replace B := hide (bthen B.out bb)
  clear bb zc0 zc1 ac0 ac1 cc0 cc1
  go_wp2
  have ac0 := cell_regrown A.out.c0
  have ac1 := cell_regrown A.out.c1
  refine wp_region_quiet_below (by kernel_rfl) (by kernel_rfl) ?_
  repeat (go_big_quiet_step (first | (go_at_call 18; exact Calls.regrown_of (HG.out _)) | (go_at_call 10; exact Calls.regrown_of (HQ.out _))))
  refine wpQuiet_nil ?_
  intro _ hw'
  obtain ⟨⟨dq, osq⟩, hw''⟩ := hw'
  subst hw''
  have bb := below_regrown w10 dq osq
  generalize grow (redrawn w10 dq) osq = w11 at *
  replace A := hide (A.out.below bb)
  replace C := hide (C.out.below bb)
  replace X := hide (X.out.below bb)
  replace Y := hide (Y.out.below bb)
  replace Z := hide (Z.out.below bb)
  replace B := hide (bthen B.out bb)
  clear bb ac0 ac1
  go_wp2
  go_ret
  exact ⟨rfl, B.out⟩

set_option maxHeartbeats 1000000 in
theorem reck_wrong1 (a b c d s t u v : Int) (w : World)
    (HE : Hid (∀ w, Calls Try.prog 9 #[] w fun e w' => e = .returned (.bool true) ∧ Below w.heap.size w w'))
    (HQ : Hid (∀ w, Calls Try.prog 10 #[.agg #[.int .i64 a, .int .i64 b]] w fun e w' => e = .returned (.bool false) ∧ Below w.heap.size w w'))
    (HG : Hid (∀ w, Calls Try.prog 18 #[.agg #[.int .i64 a, .int .i64 b]] w fun e w' => e = .returned (.bool false) ∧ Below w.heap.size w w'))
    (HA : Hid (∀ w, Calls Try.prog 11 #[.agg #[.int .i64 a, .int .i64 b], .agg #[.int .i64 c, .int .i64 d]] w fun e w' => e = .returned (.tuple #[.agg #[.int .i64 0, .int .i64 0], .int .i64 1]) ∧ Below w.heap.size w w'))
    (HS : Hid (∀ w, Calls Try.prog 12 #[.agg #[.int .i64 a, .int .i64 b], .agg #[.int .i64 c, .int .i64 d]] w fun e w' => e = .returned (.tuple #[.agg #[.int .i64 0, .int .i64 0], .int .i64 1]) ∧ Below w.heap.size w w'))
    (HM : Hid (∀ w, Calls Try.prog 13 #[.agg #[.int .i64 a, .int .i64 b], .agg #[.int .i64 c, .int .i64 d]] w fun e w' => e = .returned (.tuple #[.agg #[.int .i64 0, .int .i64 0], .int .i64 1]) ∧ Below w.heap.size w w'))
    (JA : Hid (∀ w, Calls Try.prog 15 #[.agg #[.int .i64 a, .int .i64 b], .agg #[.int .i64 c, .int .i64 d]] w fun e w' => e = .returned (.agg #[.int .i64 s, .int .i64 t]) ∧ Below w.heap.size w w'))
    (JS : Hid (∀ w, Calls Try.prog 16 #[.agg #[.int .i64 a, .int .i64 b], .agg #[.int .i64 c, .int .i64 d]] w fun e w' => e = .returned (.agg #[.int .i64 u, .int .i64 v]) ∧ Below w.heap.size w w')) :
    Calls Try.prog 3 #[.agg #[.int .i64 a, .int .i64 b], .agg #[.int .i64 c, .int .i64 d]] w fun e w' => e = .returned (.bool true) ∧ Below w.heap.size w w' := by
  have TN := hide told_no
  go_enter Try.func3, Try.ntmps3
  go_wp2_with fail
  refine (HE.out _).mono ?_
  rintro e w1 ⟨rfl, bb⟩
  have A : Hid (Held w1 (w.heap.size) (a) (b)) := ((Held.at _ (a) (b) _ rfl).alloc _).below bb
  have C : Hid (Held w1 (w.heap.size + 1) (c) (d)) := (Held.at _ (c) (d) _ (by simp)).below bb
  have B := hide (bpast (below_new (below_new (Below.refl _ w) _) _) bb)
  clear bb
  have ac0 := A.out.c0
  have ac1 := A.out.c1
  go_wp2_with fail
  refine (HQ.out _).mono ?_
  rintro e w2 ⟨rfl, bb⟩
  clear ac0 ac1
  replace A := hide (A.out.past bb)
  replace C := hide (C.out.past bb)
  replace B := hide (bpast B.out bb)
  clear bb
  have ac0 := A.out.c0
  have ac1 := A.out.c1
  have cc0 := C.out.c0
  have cc1 := C.out.c1
  go_wp2_with fail
  refine (HA.out _).mono ?_
  rintro e w3 ⟨rfl, bb⟩
  clear ac0 ac1 cc0 cc1
  replace A := hide (A.out.past bb)
  replace C := hide (C.out.past bb)
  replace B := hide (bpast B.out bb)
  clear bb
  have ac0 := fun o0 => (A.out.alloc o0).c0
  have ac1 := fun o0 => (A.out.alloc o0).c1
  have cc0 := fun o0 => (C.out.alloc o0).c0
  have cc1 := fun o0 => (C.out.alloc o0).c1
  go_wp2_with fail
  refine (HS.out _).mono ?_
  rintro e w4 ⟨rfl, bb⟩
  clear ac0 ac1 cc0 cc1
  replace A := hide ((A.out.alloc _).past bb)
  replace C := hide ((C.out.alloc _).past bb)
  have X : Hid (Held w4 (w3.heap.size) (0) (0)) := (Held.at _ (0) (0) _ rfl).below bb
  replace B := hide (bpast (below_new B.out _) bb)
  clear bb
  generalize w3.heap.size = bX at *
  have ac0 := fun o0 => (A.out.alloc o0).c0
  have ac1 := fun o0 => (A.out.alloc o0).c1
  have cc0 := fun o0 => (C.out.alloc o0).c0
  have cc1 := fun o0 => (C.out.alloc o0).c1
  go_wp2_with fail
  refine (HM.out _).mono ?_
  rintro e w5 ⟨rfl, bb⟩
  clear ac0 ac1 cc0 cc1
  replace A := hide ((A.out.alloc _).past bb)
  replace C := hide ((C.out.alloc _).past bb)
  replace X := hide ((X.out.alloc _).past bb)
  have Y : Hid (Held w5 (w4.heap.size) (0) (0)) := (Held.at _ (0) (0) _ rfl).below bb
  replace B := hide (bpast (below_new B.out _) bb)
  clear bb
  generalize w4.heap.size = bY at *
  go_wp2
  replace A := hide (A.out.alloc (.cells #[.int .i64 (0), .int .i64 (0)] 23))
  replace C := hide (C.out.alloc (.cells #[.int .i64 (0), .int .i64 (0)] 23))
  replace X := hide (X.out.alloc (.cells #[.int .i64 (0), .int .i64 (0)] 23))
  replace Y := hide (Y.out.alloc (.cells #[.int .i64 (0), .int .i64 (0)] 23))
  have Z : Hid (Held (w5.alloc (.cells #[.int .i64 (0), .int .i64 (0)] 23)) (w5.heap.size) (0) (0)) := Held.at _ (0) (0) _ rfl
  replace B := hide (below_new B.out (.cells #[.int .i64 (0), .int .i64 (0)] 23))
  generalize (w5.alloc (.cells #[.int .i64 (0), .int .i64 (0)] 23)) = W6 at *
  generalize w5.heap.size = bZ at *
  have xc0 := cell_regrown X.out.c0
  have xc1 := cell_regrown X.out.c1
  have ac0 := cell_regrown A.out.c0
  have ac1 := cell_regrown A.out.c1
  have cc0 := cell_regrown C.out.c0
  have cc1 := cell_regrown C.out.c1
  refine wp_region_quiet_below (by kernel_rfl) (by kernel_rfl) ?_
  repeat (go_big_quiet_step (first | (go_at_call 15; exact Calls.regrown_of (JA.out _)) | (go_at_call 14; exact Calls.regrown_of (TN.out _ _ _))))
  refine wpQuiet_nil ?_
  intro _ hw'
  obtain ⟨⟨dq, osq⟩, hw''⟩ := hw'
  subst hw''
  have bb := below_regrown W6 dq osq
  generalize grow (redrawn W6 dq) osq = w7 at *
  replace A := hide (A.out.below bb)
  replace C := hide (C.out.below bb)
  replace X := hide (X.out.below bb)
  replace Y := hide (Y.out.below bb)
  replace Z := hide (Z.out.below bb)
  replace B := hide (bthen B.out bb)
  clear bb xc0 xc1 ac0 ac1 cc0 cc1
  go_wp2
  have yc0 := cell_regrown Y.out.c0
  have yc1 := cell_regrown Y.out.c1
  have ac0 := cell_regrown A.out.c0
  have ac1 := cell_regrown A.out.c1
  have cc0 := cell_regrown C.out.c0
  have cc1 := cell_regrown C.out.c1
  refine wp_region_quiet_below (by kernel_rfl) (by kernel_rfl) ?_
  repeat (go_big_quiet_step (first | (go_at_call 16; exact Calls.regrown_of (JS.out _)) | (go_at_call 14; exact Calls.regrown_of (TN.out _ _ _))))
  refine wpQuiet_nil ?_
  intro _ hw'
  obtain ⟨⟨dq, osq⟩, hw''⟩ := hw'
  subst hw''
  have bb := below_regrown w7 dq osq
  generalize grow (redrawn w7 dq) osq = w8 at *
  replace A := hide (A.out.below bb)
  replace C := hide (C.out.below bb)
  replace X := hide (X.out.below bb)
  replace Y := hide (Y.out.below bb)
  replace Z := hide (Z.out.below bb)
  replace B := hide (bthen B.out bb)
  clear bb yc0 yc1 ac0 ac1 cc0 cc1
  go_wp2
  have zc0 := cell_regrown Z.out.c0
  have zc1 := cell_regrown Z.out.c1
  have ac0 := cell_regrown A.out.c0
  have ac1 := cell_regrown A.out.c1
  have cc0 := cell_regrown C.out.c0
  have cc1 := cell_regrown C.out.c1
  refine wp_region_quiet_below (by kernel_rfl) (by kernel_rfl) ?_
  repeat (go_big_quiet_step (first | (go_at_call 14; exact Calls.regrown_of (TN.out _ _ _))))
  refine wpQuiet_nil ?_
  intro _ hw'
  obtain ⟨⟨dq, osq⟩, hw''⟩ := hw'
  subst hw''
  have bb := below_regrown w8 dq osq
  generalize grow (redrawn w8 dq) osq = w9 at *
  replace A := hide (A.out.below bb)
  replace C := hide (C.out.below bb)
  replace X := hide (X.out.below bb)
  replace Y := hide (Y.out.below bb)
  replace Z := hide (Z.out.below bb)
  replace B := hide (bthen B.out bb)
  clear bb zc0 zc1 ac0 ac1 cc0 cc1
  go_wp2
  have ac0 := cell_regrown A.out.c0
  have ac1 := cell_regrown A.out.c1
  refine wp_region_quiet_below (by kernel_rfl) (by kernel_rfl) ?_
  repeat (go_big_quiet_step (first | (go_at_call 18; exact Calls.regrown_of (HG.out _)) | (go_at_call 10; exact Calls.regrown_of (HQ.out _))))
  refine wpQuiet_nil ?_
  intro _ hw'
  obtain ⟨⟨dq, osq⟩, hw''⟩ := hw'
  subst hw''
  have bb := below_regrown w9 dq osq
  generalize grow (redrawn w9 dq) osq = w10 at *
  replace A := hide (A.out.below bb)
  replace C := hide (C.out.below bb)
  replace X := hide (X.out.below bb)
  replace Y := hide (Y.out.below bb)
  replace Z := hide (Z.out.below bb)
  replace B := hide (bthen B.out bb)
  clear bb ac0 ac1
  go_wp2
  go_ret
  exact ⟨rfl, B.out⟩

set_option maxHeartbeats 1000000 in
theorem reck_wrong2 (a b c d s t u v : Int) (w : World)
    (HE : Hid (∀ w, Calls Try.prog 9 #[] w fun e w' => e = .returned (.bool true) ∧ Below w.heap.size w w'))
    (HQ : Hid (∀ w, Calls Try.prog 10 #[.agg #[.int .i64 a, .int .i64 b]] w fun e w' => e = .returned (.bool true) ∧ Below w.heap.size w w'))
    (HR : Hid (∀ w, Calls Try.prog 10 #[.agg #[.int .i64 c, .int .i64 d]] w fun e w' => e = .returned (.bool false) ∧ Below w.heap.size w w'))
    (HG : Hid (∀ w, Calls Try.prog 18 #[.agg #[.int .i64 a, .int .i64 b]] w fun e w' => e = .returned (.bool true) ∧ Below w.heap.size w w'))
    (HA : Hid (∀ w, Calls Try.prog 11 #[.agg #[.int .i64 a, .int .i64 b], .agg #[.int .i64 c, .int .i64 d]] w fun e w' => e = .returned (.tuple #[.agg #[.int .i64 0, .int .i64 0], .int .i64 1]) ∧ Below w.heap.size w w'))
    (HS : Hid (∀ w, Calls Try.prog 12 #[.agg #[.int .i64 a, .int .i64 b], .agg #[.int .i64 c, .int .i64 d]] w fun e w' => e = .returned (.tuple #[.agg #[.int .i64 0, .int .i64 0], .int .i64 1]) ∧ Below w.heap.size w w'))
    (HM : Hid (∀ w, Calls Try.prog 13 #[.agg #[.int .i64 a, .int .i64 b], .agg #[.int .i64 c, .int .i64 d]] w fun e w' => e = .returned (.tuple #[.agg #[.int .i64 0, .int .i64 0], .int .i64 1]) ∧ Below w.heap.size w w'))
    (JA : Hid (∀ w, Calls Try.prog 15 #[.agg #[.int .i64 a, .int .i64 b], .agg #[.int .i64 c, .int .i64 d]] w fun e w' => e = .returned (.agg #[.int .i64 s, .int .i64 t]) ∧ Below w.heap.size w w'))
    (JS : Hid (∀ w, Calls Try.prog 16 #[.agg #[.int .i64 a, .int .i64 b], .agg #[.int .i64 c, .int .i64 d]] w fun e w' => e = .returned (.agg #[.int .i64 u, .int .i64 v]) ∧ Below w.heap.size w w')) :
    Calls Try.prog 3 #[.agg #[.int .i64 a, .int .i64 b], .agg #[.int .i64 c, .int .i64 d]] w fun e w' => e = .returned (.bool true) ∧ Below w.heap.size w w' := by
  have TN := hide told_no
  go_enter Try.func3, Try.ntmps3
  go_wp2_with fail
  refine (HE.out _).mono ?_
  rintro e w1 ⟨rfl, bb⟩
  have A : Hid (Held w1 (w.heap.size) (a) (b)) := ((Held.at _ (a) (b) _ rfl).alloc _).below bb
  have C : Hid (Held w1 (w.heap.size + 1) (c) (d)) := (Held.at _ (c) (d) _ (by simp)).below bb
  have B := hide (bpast (below_new (below_new (Below.refl _ w) _) _) bb)
  clear bb
  have ac0 := A.out.c0
  have ac1 := A.out.c1
  go_wp2_with fail
  refine (HQ.out _).mono ?_
  rintro e w2 ⟨rfl, bb⟩
  clear ac0 ac1
  replace A := hide (A.out.past bb)
  replace C := hide (C.out.past bb)
  replace B := hide (bpast B.out bb)
  clear bb
  have cc0 := C.out.c0
  have cc1 := C.out.c1
  go_wp2_with fail
  refine (HR.out _).mono ?_
  rintro e w3 ⟨rfl, bb⟩
  clear cc0 cc1
  replace A := hide (A.out.past bb)
  replace C := hide (C.out.past bb)
  replace B := hide (bpast B.out bb)
  clear bb
  have ac0 := A.out.c0
  have ac1 := A.out.c1
  have cc0 := C.out.c0
  have cc1 := C.out.c1
  go_wp2_with fail
  refine (HA.out _).mono ?_
  rintro e w4 ⟨rfl, bb⟩
  clear ac0 ac1 cc0 cc1
  replace A := hide (A.out.past bb)
  replace C := hide (C.out.past bb)
  replace B := hide (bpast B.out bb)
  clear bb
  have ac0 := fun o0 => (A.out.alloc o0).c0
  have ac1 := fun o0 => (A.out.alloc o0).c1
  have cc0 := fun o0 => (C.out.alloc o0).c0
  have cc1 := fun o0 => (C.out.alloc o0).c1
  go_wp2_with fail
  refine (HS.out _).mono ?_
  rintro e w5 ⟨rfl, bb⟩
  clear ac0 ac1 cc0 cc1
  replace A := hide ((A.out.alloc _).past bb)
  replace C := hide ((C.out.alloc _).past bb)
  have X : Hid (Held w5 (w4.heap.size) (0) (0)) := (Held.at _ (0) (0) _ rfl).below bb
  replace B := hide (bpast (below_new B.out _) bb)
  clear bb
  generalize w4.heap.size = bX at *
  have ac0 := fun o0 => (A.out.alloc o0).c0
  have ac1 := fun o0 => (A.out.alloc o0).c1
  have cc0 := fun o0 => (C.out.alloc o0).c0
  have cc1 := fun o0 => (C.out.alloc o0).c1
  go_wp2_with fail
  refine (HM.out _).mono ?_
  rintro e w6 ⟨rfl, bb⟩
  clear ac0 ac1 cc0 cc1
  replace A := hide ((A.out.alloc _).past bb)
  replace C := hide ((C.out.alloc _).past bb)
  replace X := hide ((X.out.alloc _).past bb)
  have Y : Hid (Held w6 (w5.heap.size) (0) (0)) := (Held.at _ (0) (0) _ rfl).below bb
  replace B := hide (bpast (below_new B.out _) bb)
  clear bb
  generalize w5.heap.size = bY at *
  go_wp2
  replace A := hide (A.out.alloc (.cells #[.int .i64 (0), .int .i64 (0)] 23))
  replace C := hide (C.out.alloc (.cells #[.int .i64 (0), .int .i64 (0)] 23))
  replace X := hide (X.out.alloc (.cells #[.int .i64 (0), .int .i64 (0)] 23))
  replace Y := hide (Y.out.alloc (.cells #[.int .i64 (0), .int .i64 (0)] 23))
  have Z : Hid (Held (w6.alloc (.cells #[.int .i64 (0), .int .i64 (0)] 23)) (w6.heap.size) (0) (0)) := Held.at _ (0) (0) _ rfl
  replace B := hide (below_new B.out (.cells #[.int .i64 (0), .int .i64 (0)] 23))
  generalize (w6.alloc (.cells #[.int .i64 (0), .int .i64 (0)] 23)) = W7 at *
  generalize w6.heap.size = bZ at *
  have xc0 := cell_regrown X.out.c0
  have xc1 := cell_regrown X.out.c1
  have ac0 := cell_regrown A.out.c0
  have ac1 := cell_regrown A.out.c1
  have cc0 := cell_regrown C.out.c0
  have cc1 := cell_regrown C.out.c1
  refine wp_region_quiet_below (by kernel_rfl) (by kernel_rfl) ?_
  repeat (go_big_quiet_step (first | (go_at_call 15; exact Calls.regrown_of (JA.out _)) | (go_at_call 14; exact Calls.regrown_of (TN.out _ _ _))))
  refine wpQuiet_nil ?_
  intro _ hw'
  obtain ⟨⟨dq, osq⟩, hw''⟩ := hw'
  subst hw''
  have bb := below_regrown W7 dq osq
  generalize grow (redrawn W7 dq) osq = w8 at *
  replace A := hide (A.out.below bb)
  replace C := hide (C.out.below bb)
  replace X := hide (X.out.below bb)
  replace Y := hide (Y.out.below bb)
  replace Z := hide (Z.out.below bb)
  replace B := hide (bthen B.out bb)
  clear bb xc0 xc1 ac0 ac1 cc0 cc1
  go_wp2
  have yc0 := cell_regrown Y.out.c0
  have yc1 := cell_regrown Y.out.c1
  have ac0 := cell_regrown A.out.c0
  have ac1 := cell_regrown A.out.c1
  have cc0 := cell_regrown C.out.c0
  have cc1 := cell_regrown C.out.c1
  refine wp_region_quiet_below (by kernel_rfl) (by kernel_rfl) ?_
  repeat (go_big_quiet_step (first | (go_at_call 16; exact Calls.regrown_of (JS.out _)) | (go_at_call 14; exact Calls.regrown_of (TN.out _ _ _))))
  refine wpQuiet_nil ?_
  intro _ hw'
  obtain ⟨⟨dq, osq⟩, hw''⟩ := hw'
  subst hw''
  have bb := below_regrown w8 dq osq
  generalize grow (redrawn w8 dq) osq = w9 at *
  replace A := hide (A.out.below bb)
  replace C := hide (C.out.below bb)
  replace X := hide (X.out.below bb)
  replace Y := hide (Y.out.below bb)
  replace Z := hide (Z.out.below bb)
  replace B := hide (bthen B.out bb)
  clear bb yc0 yc1 ac0 ac1 cc0 cc1
  go_wp2
  have zc0 := cell_regrown Z.out.c0
  have zc1 := cell_regrown Z.out.c1
  have ac0 := cell_regrown A.out.c0
  have ac1 := cell_regrown A.out.c1
  have cc0 := cell_regrown C.out.c0
  have cc1 := cell_regrown C.out.c1
  refine wp_region_quiet_below (by kernel_rfl) (by kernel_rfl) ?_
  repeat (go_big_quiet_step (first | (go_at_call 14; exact Calls.regrown_of (TN.out _ _ _))))
  refine wpQuiet_nil ?_
  intro _ hw'
  obtain ⟨⟨dq, osq⟩, hw''⟩ := hw'
  subst hw''
  have bb := below_regrown w9 dq osq
  generalize grow (redrawn w9 dq) osq = w10 at *
  replace A := hide (A.out.below bb)
  replace C := hide (C.out.below bb)
  replace X := hide (X.out.below bb)
  replace Y := hide (Y.out.below bb)
  replace Z := hide (Z.out.below bb)
  replace B := hide (bthen B.out bb)
  clear bb zc0 zc1 ac0 ac1 cc0 cc1
  go_wp2
  have ac0 := cell_regrown A.out.c0
  have ac1 := cell_regrown A.out.c1
  refine wp_region_quiet_below (by kernel_rfl) (by kernel_rfl) ?_
  repeat (go_big_quiet_step (first | (go_at_call 18; exact Calls.regrown_of (HG.out _)) | (go_at_call 10; exact Calls.regrown_of (HQ.out _))))
  refine wpQuiet_nil ?_
  intro _ hw'
  obtain ⟨⟨dq, osq⟩, hw''⟩ := hw'
  subst hw''
  have bb := below_regrown w10 dq osq
  generalize grow (redrawn w10 dq) osq = w11 at *
  replace A := hide (A.out.below bb)
  replace C := hide (C.out.below bb)
  replace X := hide (X.out.below bb)
  replace Y := hide (Y.out.below bb)
  replace Z := hide (Z.out.below bb)
  replace B := hide (bthen B.out bb)
  clear bb ac0 ac1
  go_wp2
  go_ret
  exact ⟨rfl, B.out⟩

theorem rRight_is (a b : Int) (r : Bool) (h : rightB a b = r) (w : World) :
    Calls Try.prog 10 #[.agg #[.int .i64 a, .int .i64 b]] w fun e w' => e = .returned (.bool r) ∧ Below w.heap.size w w' := h ▸ rRight_any a b w
theorem reck_walk (a b c d : Int) (w : World) :
    Calls Try.prog 3 #[.agg #[.int .i64 a, .int .i64 b], .agg #[.int .i64 c, .int .i64 d]] w fun e w' => e = .returned (.bool true) ∧ Below w.heap.size w w' := by
  cases h1 : rightB a b with
  | false => exact reck_wrong1 a b c d _ _ _ _ w examples_any (rRight_is a b _ h1) (Right_is a b _ h1) (fun w => Add_wrong1 a b c d w h1) (fun w => Sub_wrong1 a b c d w h1) (fun w => Mul_wrong1 a b c d w h1) (rAdd_any a b c d) (rSub_any a b c d)
  | true =>
    cases h2 : rightB c d with
    | false => exact reck_wrong2 a b c d _ _ _ _ w examples_any (rRight_is a b _ h1) (rRight_is c d _ h2) (Right_is a b _ h1) (fun w => Add_wrong2 a b c d w h1 h2) (fun w => Sub_wrong2 a b c d w h1 h2) (fun w => Mul_wrong2 a b c d w h1 h2) (rAdd_any a b c d) (rSub_any a b c d)
    | true =>
      have ha := Pr.b_right h1
      have hc := Pr.b_right h2
      exact reck_right a b c d _ _ _ _ _ _ w examples_any (rRight_is a b _ h1) (rRight_is c d _ h2) (Right_is a b _ h1) (fun w => Add_right a b c d w ha hc) (fun w => Sub_right a b c d w ha hc) (fun w => Mul_right a b c d w ha hc) (rAdd_right ⟨a, b⟩ ⟨c, d⟩ ha hc) (rSub_right ⟨a, b⟩ ⟨c, d⟩ ha hc) (rMul_right ⟨a, b⟩ ⟨c, d⟩ ha hc)

end Go.Proofs.Ytjkediidbbpnjaa
