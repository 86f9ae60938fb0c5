/-
  GaussDigests as it runs.
-/
import Derived.Test.YtjkediidbbpnjaaPut
import Derived.Test.YtjkediidbbpnjaaR5
namespace Go.Proofs.Ytjkediidbbpnjaa
open Go.RowKit Go.Sort

set_option maxHeartbeats 1000000 in
theorem dig_core1 (a b c d n : Int) (s : ByteArray) (w : World)
    (HE : Hid (∀ w, Calls Try.prog 9 #[] w fun e w' => e = .returned (.bool true) ∧ Below w.heap.size w w'))
    (HO : Hid (∀ w, Calls Try.prog 23 #[.agg #[.int .i64 a, .int .i64 b], .string s] w fun e w' => e = .returned (.tuple #[.agg #[.int .i64 0, .int .i64 0], .int .i64 1]) ∧ Below w.heap.size w w'))
    (HJ : Hid (∀ w, Calls Try.prog 24 #[.agg #[.int .i64 a, .int .i64 b], .agg #[.int .i64 c, .int .i64 d], .int .i64 n] w fun e w' => e = .returned (.tuple #[.agg #[.int .i64 0, .int .i64 0], .int .i64 1]) ∧ Below w.heap.size w w'))
    (HQ : Hid (∀ w, Calls Try.prog 10 #[.agg #[.int .i64 a, .int .i64 b]] w fun e w' => e = .returned (.bool false) ∧ Below w.heap.size w w'))
    (HB : Hid (∀ w, Calls Try.prog 27 #[] w fun e w' => e = .returned (.agg #[.int .i64 1, .int .i64 0]) ∧ Below w.heap.size w w'))
    (JB : Hid (∀ w, Calls Try.prog 28 #[] w fun e w' => e = .returned (.agg #[.int .i64 1, .int .i64 0]) ∧ Below w.heap.size w w')) :
    Calls Try.prog 5 #[.agg #[.int .i64 a, .int .i64 b], .string s, .agg #[.int .i64 c, .int .i64 d], .int .i64 n] w fun e w' => e = .returned (.bool true) ∧ Below w.heap.size w w' := by
  go_enter Try.func5, Try.ntmps5
  go_wp2_with fail
  refine (HE.out _).mono ?_
  rintro e w1 ⟨rfl, bb⟩
  have A : Hid (Held w1 (w.heap.size) (a) (b)) := ((Held.at _ (a) (b) _ rfl).alloc _).below bb
  have C : Hid (Held w1 (w.heap.size + 1) (c) (d)) := (Held.at _ (c) (d) _ (by simp)).below bb
  have B := hide (bpast (below_new (below_new (Below.refl _ w) _) _) bb)
  clear bb
  have ac0 := A.out.c0
  have ac1 := A.out.c1
  go_wp2_with fail
  refine (HO.out _).mono ?_
  rintro e w2 ⟨rfl, bb⟩
  clear ac0 ac1
  replace A := hide (A.out.past bb)
  replace C := hide (C.out.past bb)
  replace B := hide (bpast B.out bb)
  clear bb
  have ac0 := fun o0 => (A.out.alloc o0).c0
  have ac1 := fun o0 => (A.out.alloc o0).c1
  have cc0 := fun o0 => (C.out.alloc o0).c0
  have cc1 := fun o0 => (C.out.alloc o0).c1
  go_wp2_with fail
  refine (HJ.out _).mono ?_
  rintro e w3 ⟨rfl, bb⟩
  clear ac0 ac1 cc0 cc1
  replace A := hide ((A.out.alloc _).past bb)
  replace C := hide ((C.out.alloc _).past bb)
  have X : Hid (Held w3 (w2.heap.size) (0) (0)) := (Held.at _ (0) (0) _ rfl).below bb
  replace B := hide (bpast (below_new B.out _) bb)
  clear bb
  generalize w2.heap.size = bX at *
  have ac0 := fun o0 => (A.out.alloc o0).c0
  have ac1 := fun o0 => (A.out.alloc o0).c1
  go_wp2_with fail
  refine (HQ.out _).mono ?_
  rintro e w4 ⟨rfl, bb⟩
  clear ac0 ac1
  replace A := hide ((A.out.alloc _).past bb)
  replace C := hide ((C.out.alloc _).past bb)
  replace X := hide ((X.out.alloc _).past bb)
  have Y : Hid (Held w4 (w3.heap.size) (0) (0)) := (Held.at _ (0) (0) _ rfl).below bb
  replace B := hide (bpast (below_new B.out _) bb)
  clear bb
  generalize w3.heap.size = bY at *
  have xc0 := X.out.c0
  have xc1 := X.out.c1
  have yc0 := Y.out.c0
  have yc1 := Y.out.c1
  go_wp2
  have xc0 := cell_regrown X.out.c0
  have xc1 := cell_regrown X.out.c1
  have ac0 := cell_regrown A.out.c0
  have ac1 := cell_regrown A.out.c1
  refine wp_region_quiet_below (by kernel_rfl) (by kernel_rfl) ?_
  repeat (go_big_quiet_step (first | fail))
  refine wpQuiet_nil ?_
  intro _ hw'
  obtain ⟨⟨dq, osq⟩, hw''⟩ := hw'
  subst hw''
  have bb := below_regrown w4 dq osq
  generalize grow (redrawn w4 dq) osq = w5 at *
  replace A := hide (A.out.below bb)
  replace C := hide (C.out.below bb)
  replace X := hide (X.out.below bb)
  replace Y := hide (Y.out.below bb)
  replace B := hide (bthen B.out bb)
  clear bb xc0 xc1 ac0 ac1
  go_wp2
  have yc0 := cell_regrown Y.out.c0
  have yc1 := cell_regrown Y.out.c1
  have ac0 := cell_regrown A.out.c0
  have ac1 := cell_regrown A.out.c1
  have cc0 := cell_regrown C.out.c0
  have cc1 := cell_regrown C.out.c1
  refine wp_region_quiet_below (by kernel_rfl) (by kernel_rfl) ?_
  repeat (go_big_quiet_step (first | (go_at_call 27; exact Calls.regrown_of (HB.out _)) | (go_at_call 28; exact Calls.regrown_of (JB.out _))))
  refine wpQuiet_nil ?_
  intro _ hw'
  obtain ⟨⟨dq, osq⟩, hw''⟩ := hw'
  subst hw''
  have bb := below_regrown w5 dq osq
  generalize grow (redrawn w5 dq) osq = w6 at *
  replace A := hide (A.out.below bb)
  replace C := hide (C.out.below bb)
  replace X := hide (X.out.below bb)
  replace Y := hide (Y.out.below bb)
  replace B := hide (bthen B.out bb)
  clear bb yc0 yc1 ac0 ac1 cc0 cc1
  go_wp2
  go_ret
  exact ⟨rfl, B.out⟩

set_option maxHeartbeats 1000000 in
theorem dig_core2 (a b c d n p q : Int) (s : ByteArray) (w : World)
    (HE : Hid (∀ w, Calls Try.prog 9 #[] w fun e w' => e = .returned (.bool true) ∧ Below w.heap.size w w'))
    (HO : Hid (∀ w, Calls Try.prog 23 #[.agg #[.int .i64 a, .int .i64 b], .string s] w fun e w' => e = .returned (.tuple #[.agg #[.int .i64 p, .int .i64 q], .int .i64 0]) ∧ Below w.heap.size w w'))
    (HJ : Hid (∀ w, Calls Try.prog 24 #[.agg #[.int .i64 a, .int .i64 b], .agg #[.int .i64 c, .int .i64 d], .int .i64 n] w fun e w' => e = .returned (.tuple #[.agg #[.int .i64 0, .int .i64 0], .int .i64 1]) ∧ Below w.heap.size w w'))
    (HQ : Hid (∀ w, Calls Try.prog 10 #[.agg #[.int .i64 a, .int .i64 b]] w fun e w' => e = .returned (.bool true) ∧ Below w.heap.size w w'))
    (HR : Hid (∀ w, Calls Try.prog 10 #[.agg #[.int .i64 c, .int .i64 d]] w fun e w' => e = .returned (.bool false) ∧ Below w.heap.size w w'))
    (JO : Hid (∀ w, Calls Try.prog 25 #[.agg #[.int .i64 a, .int .i64 b], .string s] w fun e w' => e = .returned (.agg #[.int .i64 p, .int .i64 q]) ∧ Below w.heap.size w w'))
    (HB : Hid (∀ w, Calls Try.prog 27 #[] w fun e w' => e = .returned (.agg #[.int .i64 1, .int .i64 0]) ∧ Below w.heap.size w w'))
    (JB : Hid (∀ w, Calls Try.prog 28 #[] w fun e w' => e = .returned (.agg #[.int .i64 1, .int .i64 0]) ∧ Below w.heap.size w w')) :
    Calls Try.prog 5 #[.agg #[.int .i64 a, .int .i64 b], .string s, .agg #[.int .i64 c, .int .i64 d], .int .i64 n] w fun e w' => e = .returned (.bool true) ∧ Below w.heap.size w w' := by
  go_enter Try.func5, Try.ntmps5
  go_wp2_with fail
  refine (HE.out _).mono ?_
  rintro e w1 ⟨rfl, bb⟩
  have A : Hid (Held w1 (w.heap.size) (a) (b)) := ((Held.at _ (a) (b) _ rfl).alloc _).below bb
  have C : Hid (Held w1 (w.heap.size + 1) (c) (d)) := (Held.at _ (c) (d) _ (by simp)).below bb
  have B := hide (bpast (below_new (below_new (Below.refl _ w) _) _) bb)
  clear bb
  have ac0 := A.out.c0
  have ac1 := A.out.c1
  go_wp2_with fail
  refine (HO.out _).mono ?_
  rintro e w2 ⟨rfl, bb⟩
  clear ac0 ac1
  replace A := hide (A.out.past bb)
  replace C := hide (C.out.past bb)
  replace B := hide (bpast B.out bb)
  clear bb
  have ac0 := fun o0 => (A.out.alloc o0).c0
  have ac1 := fun o0 => (A.out.alloc o0).c1
  have cc0 := fun o0 => (C.out.alloc o0).c0
  have cc1 := fun o0 => (C.out.alloc o0).c1
  go_wp2_with fail
  refine (HJ.out _).mono ?_
  rintro e w3 ⟨rfl, bb⟩
  clear ac0 ac1 cc0 cc1
  replace A := hide ((A.out.alloc _).past bb)
  replace C := hide ((C.out.alloc _).past bb)
  have X : Hid (Held w3 (w2.heap.size) (p) (q)) := (Held.at _ (p) (q) _ rfl).below bb
  replace B := hide (bpast (below_new B.out _) bb)
  clear bb
  generalize w2.heap.size = bX at *
  have ac0 := fun o0 => (A.out.alloc o0).c0
  have ac1 := fun o0 => (A.out.alloc o0).c1
  go_wp2_with fail
  refine (HQ.out _).mono ?_
  rintro e w4 ⟨rfl, bb⟩
  clear ac0 ac1
  replace A := hide ((A.out.alloc _).past bb)
  replace C := hide ((C.out.alloc _).past bb)
  replace X := hide ((X.out.alloc _).past bb)
  have Y : Hid (Held w4 (w3.heap.size) (0) (0)) := (Held.at _ (0) (0) _ rfl).below bb
  replace B := hide (bpast (below_new B.out _) bb)
  clear bb
  generalize w3.heap.size = bY at *
  have cc0 := C.out.c0
  have cc1 := C.out.c1
  go_wp2_with fail
  refine (HR.out _).mono ?_
  rintro e w5 ⟨rfl, bb⟩
  clear cc0 cc1
  replace A := hide (A.out.past bb)
  replace C := hide (C.out.past bb)
  replace X := hide (X.out.past bb)
  replace Y := hide (Y.out.past bb)
  replace B := hide (bpast B.out bb)
  clear bb
  have xc0 := X.out.c0
  have xc1 := X.out.c1
  have yc0 := Y.out.c0
  have yc1 := Y.out.c1
  go_wp2
  have xc0 := cell_regrown X.out.c0
  have xc1 := cell_regrown X.out.c1
  have ac0 := cell_regrown A.out.c0
  have ac1 := cell_regrown A.out.c1
  refine wp_region_quiet_below (by kernel_rfl) (by kernel_rfl) ?_
  repeat (go_big_quiet_step (first | (go_at_call 25; exact Calls.regrown_of (JO.out _))))
  refine wpQuiet_nil ?_
  intro _ hw'
  obtain ⟨⟨dq, osq⟩, hw''⟩ := hw'
  subst hw''
  have bb := below_regrown w5 dq osq
  generalize grow (redrawn w5 dq) osq = w6 at *
  replace A := hide (A.out.below bb)
  replace C := hide (C.out.below bb)
  replace X := hide (X.out.below bb)
  replace Y := hide (Y.out.below bb)
  replace B := hide (bthen B.out bb)
  clear bb xc0 xc1 ac0 ac1
  go_wp2
  have yc0 := cell_regrown Y.out.c0
  have yc1 := cell_regrown Y.out.c1
  have ac0 := cell_regrown A.out.c0
  have ac1 := cell_regrown A.out.c1
  have cc0 := cell_regrown C.out.c0
  have cc1 := cell_regrown C.out.c1
  refine wp_region_quiet_below (by kernel_rfl) (by kernel_rfl) ?_
  repeat (go_big_quiet_step (first | (go_at_call 27; exact Calls.regrown_of (HB.out _)) | (go_at_call 28; exact Calls.regrown_of (JB.out _))))
  refine wpQuiet_nil ?_
  intro _ hw'
  obtain ⟨⟨dq, osq⟩, hw''⟩ := hw'
  subst hw''
  have bb := below_regrown w6 dq osq
  generalize grow (redrawn w6 dq) osq = w7 at *
  replace A := hide (A.out.below bb)
  replace C := hide (C.out.below bb)
  replace X := hide (X.out.below bb)
  replace Y := hide (Y.out.below bb)
  replace B := hide (bthen B.out bb)
  clear bb yc0 yc1 ac0 ac1 cc0 cc1
  go_wp2
  go_ret
  exact ⟨rfl, B.out⟩

set_option maxHeartbeats 1000000 in
theorem dig_core3 (a b c d n p q : Int) (s : ByteArray) (hn : n < 0) (w : World)
    (HE : Hid (∀ w, Calls Try.prog 9 #[] w fun e w' => e = .returned (.bool true) ∧ Below w.heap.size w w'))
    (HO : Hid (∀ w, Calls Try.prog 23 #[.agg #[.int .i64 a, .int .i64 b], .string s] w fun e w' => e = .returned (.tuple #[.agg #[.int .i64 p, .int .i64 q], .int .i64 0]) ∧ Below w.heap.size w w'))
    (HJ : Hid (∀ w, Calls Try.prog 24 #[.agg #[.int .i64 a, .int .i64 b], .agg #[.int .i64 c, .int .i64 d], .int .i64 n] w fun e w' => e = .returned (.tuple #[.agg #[.int .i64 0, .int .i64 0], .int .i64 1]) ∧ Below w.heap.size w w'))
    (HQ : Hid (∀ w, Calls Try.prog 10 #[.agg #[.int .i64 a, .int .i64 b]] w fun e w' => e = .returned (.bool true) ∧ Below w.heap.size w w'))
    (HR : Hid (∀ w, Calls Try.prog 10 #[.agg #[.int .i64 c, .int .i64 d]] w fun e w' => e = .returned (.bool true) ∧ Below w.heap.size w w'))
    (JO : Hid (∀ w, Calls Try.prog 25 #[.agg #[.int .i64 a, .int .i64 b], .string s] w fun e w' => e = .returned (.agg #[.int .i64 p, .int .i64 q]) ∧ Below w.heap.size w w'))
    (HB : Hid (∀ w, Calls Try.prog 27 #[] w fun e w' => e = .returned (.agg #[.int .i64 1, .int .i64 0]) ∧ Below w.heap.size w w'))
    (JB : Hid (∀ w, Calls Try.prog 28 #[] w fun e w' => e = .returned (.agg #[.int .i64 1, .int .i64 0]) ∧ Below w.heap.size w w')) :
    Calls Try.prog 5 #[.agg #[.int .i64 a, .int .i64 b], .string s, .agg #[.int .i64 c, .int .i64 d], .int .i64 n] w fun e w' => e = .returned (.bool true) ∧ Below w.heap.size w w' := by
  have hd : decide (0 ≤ n) = false := decide_eq_false (by omega)
  go_enter Try.func5, Try.ntmps5
  go_wp2_with fail
  refine (HE.out _).mono ?_
  rintro e w1 ⟨rfl, bb⟩
  have A : Hid (Held w1 (w.heap.size) (a) (b)) := ((Held.at _ (a) (b) _ rfl).alloc _).below bb
  have C : Hid (Held w1 (w.heap.size + 1) (c) (d)) := (Held.at _ (c) (d) _ (by simp)).below bb
  have B := hide (bpast (below_new (below_new (Below.refl _ w) _) _) bb)
  clear bb
  have ac0 := A.out.c0
  have ac1 := A.out.c1
  go_wp2_with fail
  refine (HO.out _).mono ?_
  rintro e w2 ⟨rfl, bb⟩
  clear ac0 ac1
  replace A := hide (A.out.past bb)
  replace C := hide (C.out.past bb)
  replace B := hide (bpast B.out bb)
  clear bb
  have ac0 := fun o0 => (A.out.alloc o0).c0
  have ac1 := fun o0 => (A.out.alloc o0).c1
  have cc0 := fun o0 => (C.out.alloc o0).c0
  have cc1 := fun o0 => (C.out.alloc o0).c1
  go_wp2_with fail
  refine (HJ.out _).mono ?_
  rintro e w3 ⟨rfl, bb⟩
  clear ac0 ac1 cc0 cc1
  replace A := hide ((A.out.alloc _).past bb)
  replace C := hide ((C.out.alloc _).past bb)
  have X : Hid (Held w3 (w2.heap.size) (p) (q)) := (Held.at _ (p) (q) _ rfl).below bb
  replace B := hide (bpast (below_new B.out _) bb)
  clear bb
  generalize w2.heap.size = bX at *
  have ac0 := fun o0 => (A.out.alloc o0).c0
  have ac1 := fun o0 => (A.out.alloc o0).c1
  go_wp2_with fail
  refine (HQ.out _).mono ?_
  rintro e w4 ⟨rfl, bb⟩
  clear ac0 ac1
  replace A := hide ((A.out.alloc _).past bb)
  replace C := hide ((C.out.alloc _).past bb)
  replace X := hide ((X.out.alloc _).past bb)
  have Y : Hid (Held w4 (w3.heap.size) (0) (0)) := (Held.at _ (0) (0) _ rfl).below bb
  replace B := hide (bpast (below_new B.out _) bb)
  clear bb
  generalize w3.heap.size = bY at *
  have cc0 := C.out.c0
  have cc1 := C.out.c1
  go_wp2_with fail
  refine (HR.out _).mono ?_
  rintro e w5 ⟨rfl, bb⟩
  clear cc0 cc1
  replace A := hide (A.out.past bb)
  replace C := hide (C.out.past bb)
  replace X := hide (X.out.past bb)
  replace Y := hide (Y.out.past bb)
  replace B := hide (bpast B.out bb)
  clear bb
  have xc0 := X.out.c0
  have xc1 := X.out.c1
  have yc0 := Y.out.c0
  have yc1 := Y.out.c1
  go_wp2
  have xc0 := cell_regrown X.out.c0
  have xc1 := cell_regrown X.out.c1
  have ac0 := cell_regrown A.out.c0
  have ac1 := cell_regrown A.out.c1
  refine wp_region_quiet_below (by kernel_rfl) (by kernel_rfl) ?_
  repeat (go_big_quiet_step (first | (go_at_call 25; exact Calls.regrown_of (JO.out _))))
  refine wpQuiet_nil ?_
  intro _ hw'
  obtain ⟨⟨dq, osq⟩, hw''⟩ := hw'
  subst hw''
  have bb := below_regrown w5 dq osq
  generalize grow (redrawn w5 dq) osq = w6 at *
  replace A := hide (A.out.below bb)
  replace C := hide (C.out.below bb)
  replace X := hide (X.out.below bb)
  replace Y := hide (Y.out.below bb)
  replace B := hide (bthen B.out bb)
  clear bb xc0 xc1 ac0 ac1
  go_wp2
  have yc0 := cell_regrown Y.out.c0
  have yc1 := cell_regrown Y.out.c1
  have ac0 := cell_regrown A.out.c0
  have ac1 := cell_regrown A.out.c1
  have cc0 := cell_regrown C.out.c0
  have cc1 := cell_regrown C.out.c1
  refine wp_region_quiet_below (by kernel_rfl) (by kernel_rfl) ?_
  repeat (go_big_quiet_step (first | (go_at_call 27; exact Calls.regrown_of (HB.out _)) | (go_at_call 28; exact Calls.regrown_of (JB.out _))))
  refine wpQuiet_nil ?_
  intro _ hw'
  obtain ⟨⟨dq, osq⟩, hw''⟩ := hw'
  subst hw''
  have bb := below_regrown w6 dq osq
  generalize grow (redrawn w6 dq) osq = w7 at *
  replace A := hide (A.out.below bb)
  replace C := hide (C.out.below bb)
  replace X := hide (X.out.below bb)
  replace Y := hide (Y.out.below bb)
  replace B := hide (bthen B.out bb)
  clear bb yc0 yc1 ac0 ac1 cc0 cc1
  go_wp2
  go_ret
  exact ⟨rfl, B.out⟩

set_option maxHeartbeats 1000000 in
theorem dig_core4 (a b c d p q u v : Int) (k : Nat) (s : ByteArray) (w : World)
    (HE : Hid (∀ w, Calls Try.prog 9 #[] w fun e w' => e = .returned (.bool true) ∧ Below w.heap.size w w'))
    (HO : Hid (∀ w, Calls Try.prog 23 #[.agg #[.int .i64 a, .int .i64 b], .string s] w fun e w' => e = .returned (.tuple #[.agg #[.int .i64 p, .int .i64 q], .int .i64 0]) ∧ Below w.heap.size w w'))
    (HJ : Hid (∀ w, Calls Try.prog 24 #[.agg #[.int .i64 a, .int .i64 b], .agg #[.int .i64 c, .int .i64 d], .int .i64 k] w fun e w' => e = .returned (.tuple #[.agg #[.int .i64 u, .int .i64 v], .int .i64 0]) ∧ Below w.heap.size w w'))
    (HQ : Hid (∀ w, Calls Try.prog 10 #[.agg #[.int .i64 a, .int .i64 b]] w fun e w' => e = .returned (.bool true) ∧ Below w.heap.size w w'))
    (HR : Hid (∀ w, Calls Try.prog 10 #[.agg #[.int .i64 c, .int .i64 d]] w fun e w' => e = .returned (.bool true) ∧ Below w.heap.size w w'))
    (JO : Hid (∀ w, Calls Try.prog 25 #[.agg #[.int .i64 a, .int .i64 b], .string s] w fun e w' => e = .returned (.agg #[.int .i64 p, .int .i64 q]) ∧ Below w.heap.size w w'))
    (JJ : Hid (∀ w, Calls Try.prog 26 #[.agg #[.int .i64 a, .int .i64 b], .agg #[.int .i64 c, .int .i64 d], .int .i64 k] w fun e w' => e = .returned (.agg #[.int .i64 u, .int .i64 v]) ∧ Below w.heap.size w w'))
    (HB : Hid (∀ w, Calls Try.prog 27 #[] w fun e w' => e = .returned (.agg #[.int .i64 1, .int .i64 0]) ∧ Below w.heap.size w w'))
    (JB : Hid (∀ w, Calls Try.prog 28 #[] w fun e w' => e = .returned (.agg #[.int .i64 1, .int .i64 0]) ∧ Below w.heap.size w w')) :
    Calls Try.prog 5 #[.agg #[.int .i64 a, .int .i64 b], .string s, .agg #[.int .i64 c, .int .i64 d], .int .i64 k] w fun e w' => e = .returned (.bool true) ∧ Below w.heap.size w w' := by
  go_enter Try.func5, Try.ntmps5
  go_wp2_with fail
  refine (HE.out _).mono ?_
  rintro e w1 ⟨rfl, bb⟩
  have A : Hid (Held w1 (w.heap.size) (a) (b)) := ((Held.at _ (a) (b) _ rfl).alloc _).below bb
  have C : Hid (Held w1 (w.heap.size + 1) (c) (d)) := (Held.at _ (c) (d) _ (by simp)).below bb
  have B := hide (bpast (below_new (below_new (Below.refl _ w) _) _) bb)
  clear bb
  have ac0 := A.out.c0
  have ac1 := A.out.c1
  go_wp2_with fail
  refine (HO.out _).mono ?_
  rintro e w2 ⟨rfl, bb⟩
  clear ac0 ac1
  replace A := hide (A.out.past bb)
  replace C := hide (C.out.past bb)
  replace B := hide (bpast B.out bb)
  clear bb
  have ac0 := fun o0 => (A.out.alloc o0).c0
  have ac1 := fun o0 => (A.out.alloc o0).c1
  have cc0 := fun o0 => (C.out.alloc o0).c0
  have cc1 := fun o0 => (C.out.alloc o0).c1
  go_wp2_with fail
  refine (HJ.out _).mono ?_
  rintro e w3 ⟨rfl, bb⟩
  clear ac0 ac1 cc0 cc1
  replace A := hide ((A.out.alloc _).past bb)
  replace C := hide ((C.out.alloc _).past bb)
  have X : Hid (Held w3 (w2.heap.size) (p) (q)) := (Held.at _ (p) (q) _ rfl).below bb
  replace B := hide (bpast (below_new B.out _) bb)
  clear bb
  generalize w2.heap.size = bX at *
  have ac0 := fun o0 => (A.out.alloc o0).c0
  have ac1 := fun o0 => (A.out.alloc o0).c1
  go_wp2_with fail
  refine (HQ.out _).mono ?_
  rintro e w4 ⟨rfl, bb⟩
  clear ac0 ac1
  replace A := hide ((A.out.alloc _).past bb)
  replace C := hide ((C.out.alloc _).past bb)
  replace X := hide ((X.out.alloc _).past bb)
  have Y : Hid (Held w4 (w3.heap.size) (u) (v)) := (Held.at _ (u) (v) _ rfl).below bb
  replace B := hide (bpast (below_new B.out _) bb)
  clear bb
  generalize w3.heap.size = bY at *
  have cc0 := C.out.c0
  have cc1 := C.out.c1
  go_wp2_with fail
  refine (HR.out _).mono ?_
  rintro e w5 ⟨rfl, bb⟩
  clear cc0 cc1
  replace A := hide (A.out.past bb)
  replace C := hide (C.out.past bb)
  replace X := hide (X.out.past bb)
  replace Y := hide (Y.out.past bb)
  replace B := hide (bpast B.out bb)
  clear bb
  have xc0 := X.out.c0
  have xc1 := X.out.c1
  have yc0 := Y.out.c0
  have yc1 := Y.out.c1
  go_wp2
  have xc0 := cell_regrown X.out.c0
  have xc1 := cell_regrown X.out.c1
  have ac0 := cell_regrown A.out.c0
  have ac1 := cell_regrown A.out.c1
  refine wp_region_quiet_below (by kernel_rfl) (by kernel_rfl) ?_
  repeat (go_big_quiet_step (first | (go_at_call 25; exact Calls.regrown_of (JO.out _))))
  refine wpQuiet_nil ?_
  intro _ hw'
  obtain ⟨⟨dq, osq⟩, hw''⟩ := hw'
  subst hw''
  have bb := below_regrown w5 dq osq
  generalize grow (redrawn w5 dq) osq = w6 at *
  replace A := hide (A.out.below bb)
  replace C := hide (C.out.below bb)
  replace X := hide (X.out.below bb)
  replace Y := hide (Y.out.below bb)
  replace B := hide (bthen B.out bb)
  clear bb xc0 xc1 ac0 ac1
  go_wp2
  have yc0 := cell_regrown Y.out.c0
  have yc1 := cell_regrown Y.out.c1
  have ac0 := cell_regrown A.out.c0
  have ac1 := cell_regrown A.out.c1
  have cc0 := cell_regrown C.out.c0
  have cc1 := cell_regrown C.out.c1
  refine wp_region_quiet_below (by kernel_rfl) (by kernel_rfl) ?_
  repeat (go_big_quiet_step (first | (go_at_call 26; exact Calls.regrown_of (JJ.out _)) | (go_at_call 27; exact Calls.regrown_of (HB.out _)) | (go_at_call 28; exact Calls.regrown_of (JB.out _))))
  refine wpQuiet_nil ?_
  intro _ hw'
  obtain ⟨⟨dq, osq⟩, hw''⟩ := hw'
  subst hw''
  have bb := below_regrown w6 dq osq
  generalize grow (redrawn w6 dq) osq = w7 at *
  replace A := hide (A.out.below bb)
  replace C := hide (C.out.below bb)
  replace X := hide (X.out.below bb)
  replace Y := hide (Y.out.below bb)
  replace B := hide (bthen B.out bb)
  clear bb yc0 yc1 ac0 ac1 cc0 cc1
  go_wp2
  go_ret
  exact ⟨rfl, B.out⟩

theorem rRight_is3 (a b : Int) (r : Bool) (h : rightB a b = r) (w : World) :
    Calls Try.prog 10 #[.agg #[.int .i64 a, .int .i64 b]] w fun e w' => e = .returned (.bool r) ∧ Below w.heap.size w w' := h ▸ rRight_any a b w
theorem dig_walk (a b : Int) (s : ByteArray) (c d n : Int) (hs : s.size ≤ 281474976710656) (hn : -9223372036854775808 ≤ n ∧ n ≤ 9223372036854775807) (w : World) :
    Calls Try.prog 5 #[.agg #[.int .i64 a, .int .i64 b], .string s, .agg #[.int .i64 c, .int .i64 d], .int .i64 n] w fun e w' => e = .returned (.bool true) ∧ Below w.heap.size w w' := by
  cases h1 : rightB a b with
  | false => exact dig_core1 a b c d n s w examples_any (fun w => On_wrong a b s h1 w) (fun w => Join_wrong1 a b c d n h1 w) (rRight_is3 a b _ h1) Begin_any rBegin_any
  | true =>
    have ha := Pr.b_right h1
    have HO := fun w => On_right ⟨a, b⟩ s ha (by omega) w
    have JO := fun w => rOn_any ⟨a, b⟩ s ha hs w
    cases h2 : rightB c d with
    | false => exact dig_core2 a b c d n _ _ s w examples_any HO (fun w => Join_wrong2 a b c d n h1 h2 w) (rRight_is3 a b _ h1) (rRight_is3 c d _ h2) JO Begin_any rBegin_any
    | true =>
      have hc := Pr.b_right h2
      by_cases hs : n < 0
      · exact dig_core3 a b c d n _ _ s hs w examples_any HO (fun w => Join_wrong3 a b c d n h1 h2 hs w) (rRight_is3 a b _ h1) (rRight_is3 c d _ h2) JO Begin_any rBegin_any
      · obtain ⟨k, rfl⟩ : ∃ k : Nat, n = k := ⟨n.toNat, by omega⟩
        exact dig_core4 a b c d _ _ _ _ k s w examples_any HO (fun w => Join_right ⟨a, b⟩ ⟨c, d⟩ k ha hc (by omega) w) (rRight_is3 a b _ h1) (rRight_is3 c d _ h2) JO (fun w => rJoin_any ⟨a, b⟩ ⟨c, d⟩ k ha hc (by omega) w) Begin_any rBegin_any

end Go.Proofs.Ytjkediidbbpnjaa
