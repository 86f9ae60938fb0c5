/-
  GaussPowers as it runs.
-/
import Derived.Test.YtjkediidbbpnjaaPut
import Derived.Test.YtjkediidbbpnjaaR3
namespace Go.Proofs.Ytjkediidbbpnjaa
open Go.RowKit Go.Sort

set_option maxHeartbeats 1000000 in
theorem pow_wrong (a b n : Int) (w : World)
    (HE : Hid (∀ w, Calls Try.prog 9 #[] w fun e w' => e = .returned (.bool true) ∧ Below w.heap.size w w'))
    (HQ : Hid (∀ w, Calls Try.prog 10 #[.agg #[.int .i64 a, .int .i64 b]] w fun e w' => e = .returned (.bool false) ∧ Below w.heap.size w w'))
    (HP : Hid (∀ w, Calls Try.prog 19 #[.agg #[.int .i64 a, .int .i64 b], .int .i64 n] w fun e w' => e = .returned (.tuple #[.agg #[.int .i64 0, .int .i64 0], .int .i64 1]) ∧ Below w.heap.size w w'))
    (HI : Hid (∀ w, Calls Try.prog 20 #[.agg #[.int .i64 a, .int .i64 b]] w fun e w' => e = .returned (.tuple #[.agg #[.int .i64 0, .int .i64 0], .int .i64 1]) ∧ Below w.heap.size w w')) :
    Calls Try.prog 4 #[.agg #[.int .i64 a, .int .i64 b], .int .i64 n] w fun e w' => e = .returned (.bool true) ∧ Below w.heap.size w w' := by
  go_enter Try.func4, Try.ntmps4
  go_wp2_with fail
  refine (HE.out _).mono ?_
  rintro e w1 ⟨rfl, bb⟩
  have A : Hid (Held w1 (w.heap.size) (a) (b)) := (Held.at _ (a) (b) _ rfl).below bb
  have B := hide (bpast (below_new (Below.refl _ w) _) bb)
  clear bb
  have ac0 := A.out.c0
  have ac1 := A.out.c1
  go_wp2_with fail
  refine (HQ.out _).mono ?_
  rintro e w2 ⟨rfl, bb⟩
  clear ac0 ac1
  replace A := hide (A.out.past bb)
  replace B := hide (bpast B.out bb)
  clear bb
  have ac0 := A.out.c0
  have ac1 := A.out.c1
  go_wp2_with fail
  refine (HP.out _).mono ?_
  rintro e w3 ⟨rfl, bb⟩
  clear ac0 ac1
  replace A := hide (A.out.past bb)
  replace B := hide (bpast B.out bb)
  clear bb
  have ac0 := fun o0 => (A.out.alloc o0).c0
  have ac1 := fun o0 => (A.out.alloc o0).c1
  go_wp2_with fail
  refine (HI.out _).mono ?_
  rintro e w4 ⟨rfl, bb⟩
  clear ac0 ac1
  replace A := hide ((A.out.alloc _).past bb)
  have X : Hid (Held w4 (w3.heap.size) (0) (0)) := (Held.at _ (0) (0) _ rfl).below bb
  replace B := hide (bpast (below_new B.out _) bb)
  clear bb
  generalize w3.heap.size = bX at *
  have xc0 := fun o0 => (X.out.alloc o0).c0
  have xc1 := fun o0 => (X.out.alloc o0).c1
  go_wp2
  go_ret
  exact ⟨rfl, (below_new B.out _)⟩

set_option maxHeartbeats 1000000 in
theorem pow_neg0 (a b n i j : Int) (hn : n < 0) (w : World)
    (HE : Hid (∀ w, Calls Try.prog 9 #[] w fun e w' => e = .returned (.bool true) ∧ Below w.heap.size w w'))
    (HQ : Hid (∀ w, Calls Try.prog 10 #[.agg #[.int .i64 a, .int .i64 b]] w fun e w' => e = .returned (.bool true) ∧ Below w.heap.size w w'))
    (HP : Hid (∀ w, Calls Try.prog 19 #[.agg #[.int .i64 a, .int .i64 b], .int .i64 n] w fun e w' => e = .returned (.tuple #[.agg #[.int .i64 0, .int .i64 0], .int .i64 1]) ∧ Below w.heap.size w w'))
    (HI : Hid (∀ w, Calls Try.prog 20 #[.agg #[.int .i64 a, .int .i64 b]] w fun e w' => e = .returned (.tuple #[.agg #[.int .i64 i, .int .i64 j], .int .i64 0]) ∧ Below w.heap.size w w'))
    (JI : Hid (∀ w, Calls Try.prog 21 #[.agg #[.int .i64 a, .int .i64 b]] w fun e w' => e = .returned (.tuple #[.agg #[.int .i64 i, .int .i64 j], .bool true]) ∧ Below w.heap.size w w')) :
    Calls Try.prog 4 #[.agg #[.int .i64 a, .int .i64 b], .int .i64 n] w fun e w' => e = .returned (.bool true) ∧ Below w.heap.size w w' := by
  go_enter Try.func4, Try.ntmps4
  go_wp2_with fail
  refine (HE.out _).mono ?_
  rintro e w1 ⟨rfl, bb⟩
  have A : Hid (Held w1 (w.heap.size) (a) (b)) := (Held.at _ (a) (b) _ rfl).below bb
  have B := hide (bpast (below_new (Below.refl _ w) _) bb)
  clear bb
  have ac0 := A.out.c0
  have ac1 := A.out.c1
  go_wp2_with fail
  refine (HQ.out _).mono ?_
  rintro e w2 ⟨rfl, bb⟩
  clear ac0 ac1
  replace A := hide (A.out.past bb)
  replace B := hide (bpast B.out bb)
  clear bb
  have ac0 := A.out.c0
  have ac1 := A.out.c1
  go_wp2_with fail
  refine (HP.out _).mono ?_
  rintro e w3 ⟨rfl, bb⟩
  clear ac0 ac1
  replace A := hide (A.out.past bb)
  replace B := hide (bpast B.out bb)
  clear bb
  have ac0 := fun o0 => (A.out.alloc o0).c0
  have ac1 := fun o0 => (A.out.alloc o0).c1
  go_wp2_with fail
  refine (HI.out _).mono ?_
  rintro e w4 ⟨rfl, bb⟩
  clear ac0 ac1
  replace A := hide ((A.out.alloc _).past bb)
  have X : Hid (Held w4 (w3.heap.size) (0) (0)) := (Held.at _ (0) (0) _ rfl).below bb
  replace B := hide (bpast (below_new B.out _) bb)
  clear bb
  generalize w3.heap.size = bX at *
  have ac0 := fun o0 => (A.out.alloc o0).c0
  have ac1 := fun o0 => (A.out.alloc o0).c1
  go_wp2_with fail
  refine (JI.out _).mono ?_
  rintro e w5 ⟨rfl, bb⟩
  clear ac0 ac1
  replace A := hide ((A.out.alloc _).past bb)
  replace X := hide ((X.out.alloc _).past bb)
  have Y : Hid (Held w5 (w4.heap.size) (i) (j)) := (Held.at _ (i) (j) _ rfl).below bb
  replace B := hide (bpast (below_new B.out _) bb)
  clear bb
  generalize w4.heap.size = bY at *
  have xc0 := fun o0 => (X.out.alloc o0).c0
  have xc1 := fun o0 => (X.out.alloc o0).c1
  have yc0 := fun o0 => (Y.out.alloc o0).c0
  have yc1 := fun o0 => (Y.out.alloc o0).c1
  go_wp2
  go_ret
  exact ⟨rfl, (below_new B.out _)⟩

set_option maxHeartbeats 1000000 in
theorem pow_pos0 (a b p q i j : Int) (k : Nat) (w : World)
    (HE : Hid (∀ w, Calls Try.prog 9 #[] w fun e w' => e = .returned (.bool true) ∧ Below w.heap.size w w'))
    (HQ : Hid (∀ w, Calls Try.prog 10 #[.agg #[.int .i64 a, .int .i64 b]] w fun e w' => e = .returned (.bool true) ∧ Below w.heap.size w w'))
    (HP : Hid (∀ w, Calls Try.prog 19 #[.agg #[.int .i64 a, .int .i64 b], .int .i64 k] w fun e w' => e = .returned (.tuple #[.agg #[.int .i64 p, .int .i64 q], .int .i64 0]) ∧ Below w.heap.size w w'))
    (HI : Hid (∀ w, Calls Try.prog 20 #[.agg #[.int .i64 a, .int .i64 b]] w fun e w' => e = .returned (.tuple #[.agg #[.int .i64 i, .int .i64 j], .int .i64 0]) ∧ Below w.heap.size w w'))
    (JI : Hid (∀ w, Calls Try.prog 21 #[.agg #[.int .i64 a, .int .i64 b]] w fun e w' => e = .returned (.tuple #[.agg #[.int .i64 i, .int .i64 j], .bool true]) ∧ Below w.heap.size w w'))
    (JP : Hid (∀ w, Calls Try.prog 22 #[.agg #[.int .i64 a, .int .i64 b], .int .i64 k] w fun e w' => e = .returned (.agg #[.int .i64 p, .int .i64 q]) ∧ Below w.heap.size w w')) :
    Calls Try.prog 4 #[.agg #[.int .i64 a, .int .i64 b], .int .i64 k] w fun e w' => e = .returned (.bool true) ∧ Below w.heap.size w w' := by
  go_enter Try.func4, Try.ntmps4
  go_wp2_with fail
  refine (HE.out _).mono ?_
  rintro e w1 ⟨rfl, bb⟩
  have A : Hid (Held w1 (w.heap.size) (a) (b)) := (Held.at _ (a) (b) _ rfl).below bb
  have B := hide (bpast (below_new (Below.refl _ w) _) bb)
  clear bb
  have ac0 := A.out.c0
  have ac1 := A.out.c1
  go_wp2_with fail
  refine (HQ.out _).mono ?_
  rintro e w2 ⟨rfl, bb⟩
  clear ac0 ac1
  replace A := hide (A.out.past bb)
  replace B := hide (bpast B.out bb)
  clear bb
  have ac0 := A.out.c0
  have ac1 := A.out.c1
  go_wp2_with fail
  refine (HP.out _).mono ?_
  rintro e w3 ⟨rfl, bb⟩
  clear ac0 ac1
  replace A := hide (A.out.past bb)
  replace B := hide (bpast B.out bb)
  clear bb
  have ac0 := fun o0 => (A.out.alloc o0).c0
  have ac1 := fun o0 => (A.out.alloc o0).c1
  go_wp2_with fail
  refine (HI.out _).mono ?_
  rintro e w4 ⟨rfl, bb⟩
  clear ac0 ac1
  replace A := hide ((A.out.alloc _).past bb)
  have X : Hid (Held w4 (w3.heap.size) (p) (q)) := (Held.at _ (p) (q) _ rfl).below bb
  replace B := hide (bpast (below_new B.out _) bb)
  clear bb
  generalize w3.heap.size = bX at *
  have ac0 := fun o0 => (A.out.alloc o0).c0
  have ac1 := fun o0 => (A.out.alloc o0).c1
  go_wp2_with fail
  refine (JI.out _).mono ?_
  rintro e w5 ⟨rfl, bb⟩
  clear ac0 ac1
  replace A := hide ((A.out.alloc _).past bb)
  replace X := hide ((X.out.alloc _).past bb)
  have Y : Hid (Held w5 (w4.heap.size) (i) (j)) := (Held.at _ (i) (j) _ rfl).below bb
  replace B := hide (bpast (below_new B.out _) bb)
  clear bb
  generalize w4.heap.size = bY at *
  have yc0 := fun o0 => (Y.out.alloc o0).c0
  have yc1 := fun o0 => (Y.out.alloc o0).c1
  go_wp2
  replace A := hide (A.out.alloc (.cells #[.int .i64 (i), .int .i64 (j)] 23))
  replace X := hide (X.out.alloc (.cells #[.int .i64 (i), .int .i64 (j)] 23))
  replace Y := hide (Y.out.alloc (.cells #[.int .i64 (i), .int .i64 (j)] 23))
  have Z : Hid (Held (w5.alloc (.cells #[.int .i64 (i), .int .i64 (j)] 23)) (w5.heap.size) (i) (j)) := Held.at _ (i) (j) _ rfl
  replace B := hide (below_new B.out (.cells #[.int .i64 (i), .int .i64 (j)] 23))
  generalize (w5.alloc (.cells #[.int .i64 (i), .int .i64 (j)] 23)) = W6 at *
  generalize w5.heap.size = bZ at *
  have xc0 := cell_regrown X.out.c0
  have xc1 := cell_regrown X.out.c1
  have ac0 := cell_regrown A.out.c0
  have ac1 := cell_regrown A.out.c1
  refine wp_region_quiet_below (by kernel_rfl) (by kernel_rfl) ?_
  repeat (go_big_quiet_step (first | (go_at_call 22; exact Calls.regrown_of (JP.out _))))
  refine wpQuiet_nil ?_
  intro _ hw'
  obtain ⟨⟨dq, osq⟩, hw''⟩ := hw'
  subst hw''
  have bb := below_regrown W6 dq osq
  generalize grow (redrawn W6 dq) osq = w7 at *
  replace A := hide (A.out.below bb)
  replace X := hide (X.out.below bb)
  replace Y := hide (Y.out.below bb)
  replace Z := hide (Z.out.below bb)
  replace B := hide (bthen B.out bb)
  clear bb xc0 xc1 ac0 ac1
  go_wp2
  go_ret
  exact ⟨rfl, B.out⟩

set_option maxHeartbeats 1000000 in
theorem pow_neg1 (a b n : Int) (hn : n < 0) (w : World)
    (HE : Hid (∀ w, Calls Try.prog 9 #[] w fun e w' => e = .returned (.bool true) ∧ Below w.heap.size w w'))
    (HQ : Hid (∀ w, Calls Try.prog 10 #[.agg #[.int .i64 a, .int .i64 b]] w fun e w' => e = .returned (.bool true) ∧ Below w.heap.size w w'))
    (HP : Hid (∀ w, Calls Try.prog 19 #[.agg #[.int .i64 a, .int .i64 b], .int .i64 n] w fun e w' => e = .returned (.tuple #[.agg #[.int .i64 0, .int .i64 0], .int .i64 1]) ∧ Below w.heap.size w w'))
    (HI : Hid (∀ w, Calls Try.prog 20 #[.agg #[.int .i64 a, .int .i64 b]] w fun e w' => e = .returned (.tuple #[.agg #[.int .i64 0, .int .i64 0], .int .i64 7]) ∧ Below w.heap.size w w'))
    (JI : Hid (∀ w, Calls Try.prog 21 #[.agg #[.int .i64 a, .int .i64 b]] w fun e w' => e = .returned (.tuple #[.agg #[.int .i64 0, .int .i64 0], .bool false]) ∧ Below w.heap.size w w')) :
    Calls Try.prog 4 #[.agg #[.int .i64 a, .int .i64 b], .int .i64 n] w fun e w' => e = .returned (.bool true) ∧ Below w.heap.size w w' := by
  go_enter Try.func4, Try.ntmps4
  go_wp2_with fail
  refine (HE.out _).mono ?_
  rintro e w1 ⟨rfl, bb⟩
  have A : Hid (Held w1 (w.heap.size) (a) (b)) := (Held.at _ (a) (b) _ rfl).below bb
  have B := hide (bpast (below_new (Below.refl _ w) _) bb)
  clear bb
  have ac0 := A.out.c0
  have ac1 := A.out.c1
  go_wp2_with fail
  refine (HQ.out _).mono ?_
  rintro e w2 ⟨rfl, bb⟩
  clear ac0 ac1
  replace A := hide (A.out.past bb)
  replace B := hide (bpast B.out bb)
  clear bb
  have ac0 := A.out.c0
  have ac1 := A.out.c1
  go_wp2_with fail
  refine (HP.out _).mono ?_
  rintro e w3 ⟨rfl, bb⟩
  clear ac0 ac1
  replace A := hide (A.out.past bb)
  replace B := hide (bpast B.out bb)
  clear bb
  have ac0 := fun o0 => (A.out.alloc o0).c0
  have ac1 := fun o0 => (A.out.alloc o0).c1
  go_wp2_with fail
  refine (HI.out _).mono ?_
  rintro e w4 ⟨rfl, bb⟩
  clear ac0 ac1
  replace A := hide ((A.out.alloc _).past bb)
  have X : Hid (Held w4 (w3.heap.size) (0) (0)) := (Held.at _ (0) (0) _ rfl).below bb
  replace B := hide (bpast (below_new B.out _) bb)
  clear bb
  generalize w3.heap.size = bX at *
  have ac0 := fun o0 => (A.out.alloc o0).c0
  have ac1 := fun o0 => (A.out.alloc o0).c1
  go_wp2_with fail
  refine (JI.out _).mono ?_
  rintro e w5 ⟨rfl, bb⟩
  clear ac0 ac1
  replace A := hide ((A.out.alloc _).past bb)
  replace X := hide ((X.out.alloc _).past bb)
  have Y : Hid (Held w5 (w4.heap.size) (0) (0)) := (Held.at _ (0) (0) _ rfl).below bb
  replace B := hide (bpast (below_new B.out _) bb)
  clear bb
  generalize w4.heap.size = bY at *
  have xc0 := fun o0 => (X.out.alloc o0).c0
  have xc1 := fun o0 => (X.out.alloc o0).c1
  have yc0 := fun o0 => (Y.out.alloc o0).c0
  have yc1 := fun o0 => (Y.out.alloc o0).c1
  go_wp2
  go_ret
  exact ⟨rfl, (below_new B.out _)⟩

set_option maxHeartbeats 1000000 in
theorem pow_pos1 (a b p q : Int) (k : Nat) (w : World)
    (HE : Hid (∀ w, Calls Try.prog 9 #[] w fun e w' => e = .returned (.bool true) ∧ Below w.heap.size w w'))
    (HQ : Hid (∀ w, Calls Try.prog 10 #[.agg #[.int .i64 a, .int .i64 b]] w fun e w' => e = .returned (.bool true) ∧ Below w.heap.size w w'))
    (HP : Hid (∀ w, Calls Try.prog 19 #[.agg #[.int .i64 a, .int .i64 b], .int .i64 k] w fun e w' => e = .returned (.tuple #[.agg #[.int .i64 p, .int .i64 q], .int .i64 0]) ∧ Below w.heap.size w w'))
    (HI : Hid (∀ w, Calls Try.prog 20 #[.agg #[.int .i64 a, .int .i64 b]] w fun e w' => e = .returned (.tuple #[.agg #[.int .i64 0, .int .i64 0], .int .i64 7]) ∧ Below w.heap.size w w'))
    (JI : Hid (∀ w, Calls Try.prog 21 #[.agg #[.int .i64 a, .int .i64 b]] w fun e w' => e = .returned (.tuple #[.agg #[.int .i64 0, .int .i64 0], .bool false]) ∧ Below w.heap.size w w'))
    (JP : Hid (∀ w, Calls Try.prog 22 #[.agg #[.int .i64 a, .int .i64 b], .int .i64 k] w fun e w' => e = .returned (.agg #[.int .i64 p, .int .i64 q]) ∧ Below w.heap.size w w')) :
    Calls Try.prog 4 #[.agg #[.int .i64 a, .int .i64 b], .int .i64 k] w fun e w' => e = .returned (.bool true) ∧ Below w.heap.size w w' := by
  go_enter Try.func4, Try.ntmps4
  go_wp2_with fail
  refine (HE.out _).mono ?_
  rintro e w1 ⟨rfl, bb⟩
  have A : Hid (Held w1 (w.heap.size) (a) (b)) := (Held.at _ (a) (b) _ rfl).below bb
  have B := hide (bpast (below_new (Below.refl _ w) _) bb)
  clear bb
  have ac0 := A.out.c0
  have ac1 := A.out.c1
  go_wp2_with fail
  refine (HQ.out _).mono ?_
  rintro e w2 ⟨rfl, bb⟩
  clear ac0 ac1
  replace A := hide (A.out.past bb)
  replace B := hide (bpast B.out bb)
  clear bb
  have ac0 := A.out.c0
  have ac1 := A.out.c1
  go_wp2_with fail
  refine (HP.out _).mono ?_
  rintro e w3 ⟨rfl, bb⟩
  clear ac0 ac1
  replace A := hide (A.out.past bb)
  replace B := hide (bpast B.out bb)
  clear bb
  have ac0 := fun o0 => (A.out.alloc o0).c0
  have ac1 := fun o0 => (A.out.alloc o0).c1
  go_wp2_with fail
  refine (HI.out _).mono ?_
  rintro e w4 ⟨rfl, bb⟩
  clear ac0 ac1
  replace A := hide ((A.out.alloc _).past bb)
  have X : Hid (Held w4 (w3.heap.size) (p) (q)) := (Held.at _ (p) (q) _ rfl).below bb
  replace B := hide (bpast (below_new B.out _) bb)
  clear bb
  generalize w3.heap.size = bX at *
  have ac0 := fun o0 => (A.out.alloc o0).c0
  have ac1 := fun o0 => (A.out.alloc o0).c1
  go_wp2_with fail
  refine (JI.out _).mono ?_
  rintro e w5 ⟨rfl, bb⟩
  clear ac0 ac1
  replace A := hide ((A.out.alloc _).past bb)
  replace X := hide ((X.out.alloc _).past bb)
  have Y : Hid (Held w5 (w4.heap.size) (0) (0)) := (Held.at _ (0) (0) _ rfl).below bb
  replace B := hide (bpast (below_new B.out _) bb)
  clear bb
  generalize w4.heap.size = bY at *
  have yc0 := fun o0 => (Y.out.alloc o0).c0
  have yc1 := fun o0 => (Y.out.alloc o0).c1
  go_wp2
  replace A := hide (A.out.alloc (.cells #[.int .i64 (0), .int .i64 (0)] 23))
  replace X := hide (X.out.alloc (.cells #[.int .i64 (0), .int .i64 (0)] 23))
  replace Y := hide (Y.out.alloc (.cells #[.int .i64 (0), .int .i64 (0)] 23))
  have Z : Hid (Held (w5.alloc (.cells #[.int .i64 (0), .int .i64 (0)] 23)) (w5.heap.size) (0) (0)) := Held.at _ (0) (0) _ rfl
  replace B := hide (below_new B.out (.cells #[.int .i64 (0), .int .i64 (0)] 23))
  generalize (w5.alloc (.cells #[.int .i64 (0), .int .i64 (0)] 23)) = W6 at *
  generalize w5.heap.size = bZ at *
  have xc0 := cell_regrown X.out.c0
  have xc1 := cell_regrown X.out.c1
  have ac0 := cell_regrown A.out.c0
  have ac1 := cell_regrown A.out.c1
  refine wp_region_quiet_below (by kernel_rfl) (by kernel_rfl) ?_
  repeat (go_big_quiet_step (first | (go_at_call 22; exact Calls.regrown_of (JP.out _))))
  refine wpQuiet_nil ?_
  intro _ hw'
  obtain ⟨⟨dq, osq⟩, hw''⟩ := hw'
  subst hw''
  have bb := below_regrown W6 dq osq
  generalize grow (redrawn W6 dq) osq = w7 at *
  replace A := hide (A.out.below bb)
  replace X := hide (X.out.below bb)
  replace Y := hide (Y.out.below bb)
  replace Z := hide (Z.out.below bb)
  replace B := hide (bthen B.out bb)
  clear bb xc0 xc1 ac0 ac1
  go_wp2
  go_ret
  exact ⟨rfl, B.out⟩

theorem rRight_is2 (a b : Int) (r : Bool) (h : rightB a b = r) (w : World) :
    Calls Try.prog 10 #[.agg #[.int .i64 a, .int .i64 b]] w fun e w' => e = .returned (.bool r) ∧ Below w.heap.size w w' := h ▸ rRight_any a b w
theorem pow_walk (a b n : Int) (hn : -9223372036854775808 ≤ n ∧ n ≤ 9223372036854775807) (w : World) :
    Calls Try.prog 4 #[.agg #[.int .i64 a, .int .i64 b], .int .i64 n] w fun e w' => e = .returned (.bool true) ∧ Below w.heap.size w w' := by
  cases h1 : rightB a b with
  | false => exact pow_wrong a b n w examples_any (rRight_is2 a b _ h1) (fun w => Pow_wrong1 a b n h1 w) (fun w => Inv_wrong a b h1 w)
  | true =>
    have ha := Pr.b_right h1
    by_cases h0 : (⟨a, b⟩ : Pr) = Pr.zero
    · obtain ⟨rfl, rfl⟩ : a = 0 ∧ b = 0 := ⟨congrArg Pr.re h0, congrArg Pr.im h0⟩
      by_cases hs : n < 0
      · exact pow_neg1 0 0 n hs w examples_any (rRight_is2 0 0 _ h1) (fun w => Pow_wrong2 0 0 n h1 hs w) Inv_zero rInv_zero
      · obtain ⟨k, rfl⟩ : ∃ k : Nat, n = k := ⟨n.toNat, by omega⟩
        exact pow_pos1 0 0 _ _ k w examples_any (rRight_is2 0 0 _ h1) (fun w => Pow_right ⟨0, 0⟩ k ha (by omega) w) Inv_zero rInv_zero (fun w => rPow_any ⟨0, 0⟩ k ha (by omega) w)
    · by_cases hs : n < 0
      · exact pow_neg0 a b n _ _ hs w examples_any (rRight_is2 a b _ h1) (fun w => Pow_wrong2 a b n h1 hs w) (fun w => Inv_right ⟨a, b⟩ ha h0 w) (fun w => rInv_right ⟨a, b⟩ ha h0 w)
      · obtain ⟨k, rfl⟩ : ∃ k : Nat, n = k := ⟨n.toNat, by omega⟩
        exact pow_pos0 a b _ _ _ _ k w examples_any (rRight_is2 a b _ h1) (fun w => Pow_right ⟨a, b⟩ k ha (by omega) w) (fun w => Inv_right ⟨a, b⟩ ha h0 w) (fun w => rInv_right ⟨a, b⟩ ha h0 w) (fun w => rPow_any ⟨a, b⟩ k ha (by omega) w)

end Go.Proofs.Ytjkediidbbpnjaa
