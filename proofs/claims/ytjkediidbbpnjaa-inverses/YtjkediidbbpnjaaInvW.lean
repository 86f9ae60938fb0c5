/-
  GaussInverses as it runs.
-/
import Derived.Test.YtjkediidbbpnjaaPut
namespace Go.Proofs.Ytjkediidbbpnjaa
open Go.RowKit Go.Sort

theorem quarter (n : Int) (h : n < 0) (h1 : -9223372036854775808 ≤ n) : wrap64 (-(n + 1).tdiv 4) = (-(n + 1)) / 4 := by
  have e : (n + 1).tdiv 4 = -((-(n + 1)) / 4) := by
    have h2 : (-(n + 1)).tdiv 4 = (-(n + 1)) / 4 := Int.tdiv_eq_ediv_of_nonneg (by omega)
    rw [← h2, Int.neg_tdiv, Int.neg_neg]
  rw [e, Int.neg_neg]
  exact IntWalk.wrap64_in _ (by omega)

set_option maxHeartbeats 1000000 in
theorem inv_core000 (a b n m x y p q r s u v i j : Int) (N M : Nat) (hx : ¬ x = 0) (hn : 0 ≤ n) (hm : 0 ≤ m) (_n1 : -9223372036854775808 ≤ n) (_n2 : n ≤ 9223372036854775807) (_m1 : -9223372036854775808 ≤ m) (_m2 : m ≤ 9223372036854775807) (HN : Hid ((N : Int) = n / 4)) (HK : Hid ((M : Int) = m / 4)) (w : World)
    (HE : Hid (∀ w, Calls Try.prog 9 #[] w fun e w' => e = .returned (.bool true) ∧ Below w.heap.size w w'))
    (HA : Hid (∀ w, Calls Try.prog 29 #[.agg #[.int .i64 a, .int .i64 b]] w fun e w' => e = .returned (.agg #[.int .i64 x, .int .i64 y]) ∧ Below w.heap.size w w'))
    (P1 : Hid (∀ vv : Int, vv = (N : Int) → ∀ w, Calls Try.prog 19 #[.agg #[.int .i64 x, .int .i64 y], .int .i64 vv] w fun e w' => e = .returned (.tuple #[.agg #[.int .i64 p, .int .i64 q], .int .i64 0]) ∧ Below w.heap.size w w'))
    (P2 : Hid (∀ vv : Int, vv = (M : Int) → ∀ w, Calls Try.prog 19 #[.agg #[.int .i64 x, .int .i64 y], .int .i64 vv] w fun e w' => e = .returned (.tuple #[.agg #[.int .i64 r, .int .i64 s], .int .i64 0]) ∧ Below w.heap.size w w'))
    (P3 : Hid (∀ vv : Int, vv = (N : Int) + (M : Int) → ∀ w, Calls Try.prog 19 #[.agg #[.int .i64 x, .int .i64 y], .int .i64 vv] w fun e w' => e = .returned (.tuple #[.agg #[.int .i64 u, .int .i64 v], .int .i64 0]) ∧ Below w.heap.size w w'))
    (HM : Hid (∀ w, Calls Try.prog 13 #[.agg #[.int .i64 p, .int .i64 q], .agg #[.int .i64 r, .int .i64 s]] w fun e w' => e = .returned (.tuple #[.agg #[.int .i64 u, .int .i64 v], .int .i64 0]) ∧ Below w.heap.size w w'))
    (HI : Hid (∀ w, Calls Try.prog 20 #[.agg #[.int .i64 x, .int .i64 y]] w fun e w' => e = .returned (.tuple #[.agg #[.int .i64 i, .int .i64 j], .int .i64 0]) ∧ Below w.heap.size w w'))
    (HO : Hid (∀ w, Calls Try.prog 13 #[.agg #[.int .i64 x, .int .i64 y], .agg #[.int .i64 i, .int .i64 j]] w fun e w' => e = .returned (.tuple #[.agg #[.int .i64 1, .int .i64 0], .int .i64 0]) ∧ Below w.heap.size w w')) :
    Calls Try.prog 7 #[.agg #[.int .i64 a, .int .i64 b], .int .i64 n, .int .i64 m] w fun e w' => e = .returned (.bool true) ∧ Below w.heap.size w w' := by
  go_enter Try.func7, Try.ntmps7
  go_wp2_with fail
  refine (HE.out _).mono ?_
  rintro e w1 ⟨rfl, bb⟩
  have A : Hid (Held w1 (w.heap.size) (a) (b)) := (Held.at _ (a) (b) _ rfl).below bb
  have B := hide (bpast (below_new (Below.refl _ w) _) bb)
  clear bb
  have ac0 := A.out.c0
  have ac1 := A.out.c1
  go_wp2_with fail
  refine (HA.out _).mono ?_
  rintro e w2 ⟨rfl, bb⟩
  clear ac0 ac1
  replace A := hide (A.out.past bb)
  replace B := hide (bpast B.out bb)
  clear bb
  have ac0 := A.out.c0
  have ac1 := A.out.c1
  have af0 := A.out.f0
  have af1 := A.out.f1
  go_wp2_with fail
  refine (P1.out _ (by have := HN.out; have := HK.out; omega) _).mono ?_
  rintro e w3 ⟨rfl, bb⟩
  clear ac0 ac1 af0 af1
  replace A := hide ((A.out.put (x) (y)).past bb)
  replace B := hide (bpast (below_box B.out (w.heap.size) (by omega) (.int .i64 (x)) (.int .i64 (y))) bb)
  clear bb
  have ac0 := fun o0 => (A.out.alloc o0).c0
  have ac1 := fun o0 => (A.out.alloc o0).c1
  go_wp2_with fail
  refine (P2.out _ (by have := HN.out; have := HK.out; omega) _).mono ?_
  rintro e w4 ⟨rfl, bb⟩
  clear ac0 ac1
  replace A := hide ((A.out.alloc _).past bb)
  have X : Hid (Held w4 (w3.heap.size) (p) (q)) := (Held.at _ (p) (q) _ rfl).below bb
  replace B := hide (bpast (below_new B.out _) bb)
  clear bb
  generalize w3.heap.size = bX at *
  have ac0 := fun o0 => (A.out.alloc o0).c0
  have ac1 := fun o0 => (A.out.alloc o0).c1
  go_wp2_with fail
  refine (P3.out _ (by have := HN.out; have := HK.out; first | omega | (rw [IntWalk.wrap64_in _ (by omega)]; omega)) _).mono ?_
  rintro e w5 ⟨rfl, bb⟩
  clear ac0 ac1
  replace A := hide ((A.out.alloc _).past bb)
  replace X := hide ((X.out.alloc _).past bb)
  have Y : Hid (Held w5 (w4.heap.size) (r) (s)) := (Held.at _ (r) (s) _ rfl).below bb
  replace B := hide (bpast (below_new B.out _) bb)
  clear bb
  generalize w4.heap.size = bY at *
  have xc0 := fun o0 => (X.out.alloc o0).c0
  have xc1 := fun o0 => (X.out.alloc o0).c1
  have yc0 := fun o0 => (Y.out.alloc o0).c0
  have yc1 := fun o0 => (Y.out.alloc o0).c1
  go_wp2_with fail
  refine (HM.out _).mono ?_
  rintro e w6 ⟨rfl, bb⟩
  clear xc0 xc1 yc0 yc1
  replace A := hide ((A.out.alloc _).past bb)
  replace X := hide ((X.out.alloc _).past bb)
  replace Y := hide ((Y.out.alloc _).past bb)
  have Z : Hid (Held w6 (w5.heap.size) (u) (v)) := (Held.at _ (u) (v) _ rfl).below bb
  replace B := hide (bpast (below_new B.out _) bb)
  clear bb
  generalize w5.heap.size = bZ at *
  have ac0 := fun o0 => (A.out.alloc o0).c0
  have ac1 := fun o0 => (A.out.alloc o0).c1
  go_wp2_with fail
  refine (HI.out _).mono ?_
  rintro e w7 ⟨rfl, bb⟩
  clear ac0 ac1
  replace A := hide ((A.out.alloc _).past bb)
  replace X := hide ((X.out.alloc _).past bb)
  replace Y := hide ((Y.out.alloc _).past bb)
  replace Z := hide ((Z.out.alloc _).past bb)
  have PP : Hid (Held w7 (w6.heap.size) (u) (v)) := (Held.at _ (u) (v) _ rfl).below bb
  replace B := hide (bpast (below_new B.out _) bb)
  clear bb
  generalize w6.heap.size = bPP at *
  have ac0 := fun o0 => (A.out.alloc o0).c0
  have ac1 := fun o0 => (A.out.alloc o0).c1
  go_wp2_with fail
  refine (HO.out _).mono ?_
  rintro e w8 ⟨rfl, bb⟩
  clear ac0 ac1
  replace A := hide ((A.out.alloc _).past bb)
  replace X := hide ((X.out.alloc _).past bb)
  replace Y := hide ((Y.out.alloc _).past bb)
  replace Z := hide ((Z.out.alloc _).past bb)
  replace PP := hide ((PP.out.alloc _).past bb)
  have I : Hid (Held w8 (w7.heap.size) (i) (j)) := (Held.at _ (i) (j) _ rfl).below bb
  replace B := hide (bpast (below_new B.out _) bb)
  clear bb
  generalize w7.heap.size = bI at *
  have ppc0 := fun o0 => (PP.out.alloc o0).c0
  have ppc1 := fun o0 => (PP.out.alloc o0).c1
  have zc0 := fun o0 => (Z.out.alloc o0).c0
  have zc1 := fun o0 => (Z.out.alloc o0).c1
  go_wp2
  go_ret
  exact ⟨rfl, (below_new B.out _)⟩

set_option maxHeartbeats 1000000 in
theorem inv_core001 (a b n m y p q r s u v i j : Int) (N M : Nat) (hy : ¬ y = 0) (hn : 0 ≤ n) (hm : 0 ≤ m) (_n1 : -9223372036854775808 ≤ n) (_n2 : n ≤ 9223372036854775807) (_m1 : -9223372036854775808 ≤ m) (_m2 : m ≤ 9223372036854775807) (HN : Hid ((N : Int) = n / 4)) (HK : Hid ((M : Int) = m / 4)) (w : World)
    (HE : Hid (∀ w, Calls Try.prog 9 #[] w fun e w' => e = .returned (.bool true) ∧ Below w.heap.size w w'))
    (HA : Hid (∀ w, Calls Try.prog 29 #[.agg #[.int .i64 a, .int .i64 b]] w fun e w' => e = .returned (.agg #[.int .i64 0, .int .i64 y]) ∧ Below w.heap.size w w'))
    (P1 : Hid (∀ vv : Int, vv = (N : Int) → ∀ w, Calls Try.prog 19 #[.agg #[.int .i64 0, .int .i64 y], .int .i64 vv] w fun e w' => e = .returned (.tuple #[.agg #[.int .i64 p, .int .i64 q], .int .i64 0]) ∧ Below w.heap.size w w'))
    (P2 : Hid (∀ vv : Int, vv = (M : Int) → ∀ w, Calls Try.prog 19 #[.agg #[.int .i64 0, .int .i64 y], .int .i64 vv] w fun e w' => e = .returned (.tuple #[.agg #[.int .i64 r, .int .i64 s], .int .i64 0]) ∧ Below w.heap.size w w'))
    (P3 : Hid (∀ vv : Int, vv = (N : Int) + (M : Int) → ∀ w, Calls Try.prog 19 #[.agg #[.int .i64 0, .int .i64 y], .int .i64 vv] w fun e w' => e = .returned (.tuple #[.agg #[.int .i64 u, .int .i64 v], .int .i64 0]) ∧ Below w.heap.size w w'))
    (HM : Hid (∀ w, Calls Try.prog 13 #[.agg #[.int .i64 p, .int .i64 q], .agg #[.int .i64 r, .int .i64 s]] w fun e w' => e = .returned (.tuple #[.agg #[.int .i64 u, .int .i64 v], .int .i64 0]) ∧ Below w.heap.size w w'))
    (HI : Hid (∀ w, Calls Try.prog 20 #[.agg #[.int .i64 0, .int .i64 y]] w fun e w' => e = .returned (.tuple #[.agg #[.int .i64 i, .int .i64 j], .int .i64 0]) ∧ Below w.heap.size w w'))
    (HO : Hid (∀ w, Calls Try.prog 13 #[.agg #[.int .i64 0, .int .i64 y], .agg #[.int .i64 i, .int .i64 j]] w fun e w' => e = .returned (.tuple #[.agg #[.int .i64 1, .int .i64 0], .int .i64 0]) ∧ Below w.heap.size w w')) :
    Calls Try.prog 7 #[.agg #[.int .i64 a, .int .i64 b], .int .i64 n, .int .i64 m] w fun e w' => e = .returned (.bool true) ∧ Below w.heap.size w w' := by
  go_enter Try.func7, Try.ntmps7
  go_wp2_with fail
  refine (HE.out _).mono ?_
  rintro e w1 ⟨rfl, bb⟩
  have A : Hid (Held w1 (w.heap.size) (a) (b)) := (Held.at _ (a) (b) _ rfl).below bb
  have B := hide (bpast (below_new (Below.refl _ w) _) bb)
  clear bb
  have ac0 := A.out.c0
  have ac1 := A.out.c1
  go_wp2_with fail
  refine (HA.out _).mono ?_
  rintro e w2 ⟨rfl, bb⟩
  clear ac0 ac1
  replace A := hide (A.out.past bb)
  replace B := hide (bpast B.out bb)
  clear bb
  have ac0 := A.out.c0
  have ac1 := A.out.c1
  have af0 := A.out.f0
  have af1 := A.out.f1
  go_wp2_with fail
  refine (P1.out _ (by have := HN.out; have := HK.out; omega) _).mono ?_
  rintro e w3 ⟨rfl, bb⟩
  clear ac0 ac1 af0 af1
  replace A := hide ((A.out.put (0) (y)).past bb)
  replace B := hide (bpast (below_box B.out (w.heap.size) (by omega) (.int .i64 (0)) (.int .i64 (y))) bb)
  clear bb
  have ac0 := fun o0 => (A.out.alloc o0).c0
  have ac1 := fun o0 => (A.out.alloc o0).c1
  go_wp2_with fail
  refine (P2.out _ (by have := HN.out; have := HK.out; omega) _).mono ?_
  rintro e w4 ⟨rfl, bb⟩
  clear ac0 ac1
  replace A := hide ((A.out.alloc _).past bb)
  have X : Hid (Held w4 (w3.heap.size) (p) (q)) := (Held.at _ (p) (q) _ rfl).below bb
  replace B := hide (bpast (below_new B.out _) bb)
  clear bb
  generalize w3.heap.size = bX at *
  have ac0 := fun o0 => (A.out.alloc o0).c0
  have ac1 := fun o0 => (A.out.alloc o0).c1
  go_wp2_with fail
  refine (P3.out _ (by have := HN.out; have := HK.out; first | omega | (rw [IntWalk.wrap64_in _ (by omega)]; omega)) _).mono ?_
  rintro e w5 ⟨rfl, bb⟩
  clear ac0 ac1
  replace A := hide ((A.out.alloc _).past bb)
  replace X := hide ((X.out.alloc _).past bb)
  have Y : Hid (Held w5 (w4.heap.size) (r) (s)) := (Held.at _ (r) (s) _ rfl).below bb
  replace B := hide (bpast (below_new B.out _) bb)
  clear bb
  generalize w4.heap.size = bY at *
  have xc0 := fun o0 => (X.out.alloc o0).c0
  have xc1 := fun o0 => (X.out.alloc o0).c1
  have yc0 := fun o0 => (Y.out.alloc o0).c0
  have yc1 := fun o0 => (Y.out.alloc o0).c1
  go_wp2_with fail
  refine (HM.out _).mono ?_
  rintro e w6 ⟨rfl, bb⟩
  clear xc0 xc1 yc0 yc1
  replace A := hide ((A.out.alloc _).past bb)
  replace X := hide ((X.out.alloc _).past bb)
  replace Y := hide ((Y.out.alloc _).past bb)
  have Z : Hid (Held w6 (w5.heap.size) (u) (v)) := (Held.at _ (u) (v) _ rfl).below bb
  replace B := hide (bpast (below_new B.out _) bb)
  clear bb
  generalize w5.heap.size = bZ at *
  have ac0 := fun o0 => (A.out.alloc o0).c0
  have ac1 := fun o0 => (A.out.alloc o0).c1
  go_wp2_with fail
  refine (HI.out _).mono ?_
  rintro e w7 ⟨rfl, bb⟩
  clear ac0 ac1
  replace A := hide ((A.out.alloc _).past bb)
  replace X := hide ((X.out.alloc _).past bb)
  replace Y := hide ((Y.out.alloc _).past bb)
  replace Z := hide ((Z.out.alloc _).past bb)
  have PP : Hid (Held w7 (w6.heap.size) (u) (v)) := (Held.at _ (u) (v) _ rfl).below bb
  replace B := hide (bpast (below_new B.out _) bb)
  clear bb
  generalize w6.heap.size = bPP at *
  have ac0 := fun o0 => (A.out.alloc o0).c0
  have ac1 := fun o0 => (A.out.alloc o0).c1
  go_wp2_with fail
  refine (HO.out _).mono ?_
  rintro e w8 ⟨rfl, bb⟩
  clear ac0 ac1
  replace A := hide ((A.out.alloc _).past bb)
  replace X := hide ((X.out.alloc _).past bb)
  replace Y := hide ((Y.out.alloc _).past bb)
  replace Z := hide ((Z.out.alloc _).past bb)
  replace PP := hide ((PP.out.alloc _).past bb)
  have I : Hid (Held w8 (w7.heap.size) (i) (j)) := (Held.at _ (i) (j) _ rfl).below bb
  replace B := hide (bpast (below_new B.out _) bb)
  clear bb
  generalize w7.heap.size = bI at *
  have ppc0 := fun o0 => (PP.out.alloc o0).c0
  have ppc1 := fun o0 => (PP.out.alloc o0).c1
  have zc0 := fun o0 => (Z.out.alloc o0).c0
  have zc1 := fun o0 => (Z.out.alloc o0).c1
  go_wp2
  go_ret
  exact ⟨rfl, (below_new B.out _)⟩

set_option maxHeartbeats 1000000 in
theorem inv_core002 (a b n m p q r s u v : Int) (N M : Nat) (hn : 0 ≤ n) (hm : 0 ≤ m) (_n1 : -9223372036854775808 ≤ n) (_n2 : n ≤ 9223372036854775807) (_m1 : -9223372036854775808 ≤ m) (_m2 : m ≤ 9223372036854775807) (HN : Hid ((N : Int) = n / 4)) (HK : Hid ((M : Int) = m / 4)) (w : World)
    (HE : Hid (∀ w, Calls Try.prog 9 #[] w fun e w' => e = .returned (.bool true) ∧ Below w.heap.size w w'))
    (HA : Hid (∀ w, Calls Try.prog 29 #[.agg #[.int .i64 a, .int .i64 b]] w fun e w' => e = .returned (.agg #[.int .i64 0, .int .i64 0]) ∧ Below w.heap.size w w'))
    (P1 : Hid (∀ vv : Int, vv = (N : Int) → ∀ w, Calls Try.prog 19 #[.agg #[.int .i64 0, .int .i64 0], .int .i64 vv] w fun e w' => e = .returned (.tuple #[.agg #[.int .i64 p, .int .i64 q], .int .i64 0]) ∧ Below w.heap.size w w'))
    (P2 : Hid (∀ vv : Int, vv = (M : Int) → ∀ w, Calls Try.prog 19 #[.agg #[.int .i64 0, .int .i64 0], .int .i64 vv] w fun e w' => e = .returned (.tuple #[.agg #[.int .i64 r, .int .i64 s], .int .i64 0]) ∧ Below w.heap.size w w'))
    (P3 : Hid (∀ vv : Int, vv = (N : Int) + (M : Int) → ∀ w, Calls Try.prog 19 #[.agg #[.int .i64 0, .int .i64 0], .int .i64 vv] w fun e w' => e = .returned (.tuple #[.agg #[.int .i64 u, .int .i64 v], .int .i64 0]) ∧ Below w.heap.size w w'))
    (HM : Hid (∀ w, Calls Try.prog 13 #[.agg #[.int .i64 p, .int .i64 q], .agg #[.int .i64 r, .int .i64 s]] w fun e w' => e = .returned (.tuple #[.agg #[.int .i64 u, .int .i64 v], .int .i64 0]) ∧ Below w.heap.size w w'))
    (HI : Hid (∀ w, Calls Try.prog 20 #[.agg #[.int .i64 0, .int .i64 0]] w fun e w' => e = .returned (.tuple #[.agg #[.int .i64 0, .int .i64 0], .int .i64 7]) ∧ Below w.heap.size w w')) :
    Calls Try.prog 7 #[.agg #[.int .i64 a, .int .i64 b], .int .i64 n, .int .i64 m] w fun e w' => e = .returned (.bool true) ∧ Below w.heap.size w w' := by
  go_enter Try.func7, Try.ntmps7
  go_wp2_with fail
  refine (HE.out _).mono ?_
  rintro e w1 ⟨rfl, bb⟩
  have A : Hid (Held w1 (w.heap.size) (a) (b)) := (Held.at _ (a) (b) _ rfl).below bb
  have B := hide (bpast (below_new (Below.refl _ w) _) bb)
  clear bb
  have ac0 := A.out.c0
  have ac1 := A.out.c1
  go_wp2_with fail
  refine (HA.out _).mono ?_
  rintro e w2 ⟨rfl, bb⟩
  clear ac0 ac1
  replace A := hide (A.out.past bb)
  replace B := hide (bpast B.out bb)
  clear bb
  have ac0 := A.out.c0
  have ac1 := A.out.c1
  have af0 := A.out.f0
  have af1 := A.out.f1
  go_wp2_with fail
  refine (P1.out _ (by have := HN.out; have := HK.out; omega) _).mono ?_
  rintro e w3 ⟨rfl, bb⟩
  clear ac0 ac1 af0 af1
  replace A := hide ((A.out.put (0) (0)).past bb)
  replace B := hide (bpast (below_box B.out (w.heap.size) (by omega) (.int .i64 (0)) (.int .i64 (0))) bb)
  clear bb
  have ac0 := fun o0 => (A.out.alloc o0).c0
  have ac1 := fun o0 => (A.out.alloc o0).c1
  go_wp2_with fail
  refine (P2.out _ (by have := HN.out; have := HK.out; omega) _).mono ?_
  rintro e w4 ⟨rfl, bb⟩
  clear ac0 ac1
  replace A := hide ((A.out.alloc _).past bb)
  have X : Hid (Held w4 (w3.heap.size) (p) (q)) := (Held.at _ (p) (q) _ rfl).below bb
  replace B := hide (bpast (below_new B.out _) bb)
  clear bb
  generalize w3.heap.size = bX at *
  have ac0 := fun o0 => (A.out.alloc o0).c0
  have ac1 := fun o0 => (A.out.alloc o0).c1
  go_wp2_with fail
  refine (P3.out _ (by have := HN.out; have := HK.out; first | omega | (rw [IntWalk.wrap64_in _ (by omega)]; omega)) _).mono ?_
  rintro e w5 ⟨rfl, bb⟩
  clear ac0 ac1
  replace A := hide ((A.out.alloc _).past bb)
  replace X := hide ((X.out.alloc _).past bb)
  have Y : Hid (Held w5 (w4.heap.size) (r) (s)) := (Held.at _ (r) (s) _ rfl).below bb
  replace B := hide (bpast (below_new B.out _) bb)
  clear bb
  generalize w4.heap.size = bY at *
  have xc0 := fun o0 => (X.out.alloc o0).c0
  have xc1 := fun o0 => (X.out.alloc o0).c1
  have yc0 := fun o0 => (Y.out.alloc o0).c0
  have yc1 := fun o0 => (Y.out.alloc o0).c1
  go_wp2_with fail
  refine (HM.out _).mono ?_
  rintro e w6 ⟨rfl, bb⟩
  clear xc0 xc1 yc0 yc1
  replace A := hide ((A.out.alloc _).past bb)
  replace X := hide ((X.out.alloc _).past bb)
  replace Y := hide ((Y.out.alloc _).past bb)
  have Z : Hid (Held w6 (w5.heap.size) (u) (v)) := (Held.at _ (u) (v) _ rfl).below bb
  replace B := hide (bpast (below_new B.out _) bb)
  clear bb
  generalize w5.heap.size = bZ at *
  have ac0 := fun o0 => (A.out.alloc o0).c0
  have ac1 := fun o0 => (A.out.alloc o0).c1
  go_wp2_with fail
  refine (HI.out _).mono ?_
  rintro e w7 ⟨rfl, bb⟩
  clear ac0 ac1
  replace A := hide ((A.out.alloc _).past bb)
  replace X := hide ((X.out.alloc _).past bb)
  replace Y := hide ((Y.out.alloc _).past bb)
  replace Z := hide ((Z.out.alloc _).past bb)
  have PP : Hid (Held w7 (w6.heap.size) (u) (v)) := (Held.at _ (u) (v) _ rfl).below bb
  replace B := hide (bpast (below_new B.out _) bb)
  clear bb
  generalize w6.heap.size = bPP at *
  have ac0 := fun o0 => (A.out.alloc o0).c0
  have ac1 := fun o0 => (A.out.alloc o0).c1
  have ppc0 := fun o0 => (PP.out.alloc o0).c0
  have ppc1 := fun o0 => (PP.out.alloc o0).c1
  have zc0 := fun o0 => (Z.out.alloc o0).c0
  have zc1 := fun o0 => (Z.out.alloc o0).c1
  go_wp2
  go_ret
  exact ⟨rfl, (below_new B.out _)⟩

set_option maxHeartbeats 1000000 in
theorem inv_core010 (a b n m x y p q r s u v i j : Int) (N M : Nat) (hx : ¬ x = 0) (hn : 0 ≤ n) (hm : m < 0) (_n1 : -9223372036854775808 ≤ n) (_n2 : n ≤ 9223372036854775807) (_m1 : -9223372036854775808 ≤ m) (_m2 : m ≤ 9223372036854775807) (HN : Hid ((N : Int) = n / 4)) (HK : Hid ((M : Int) = (-(m + 1)) / 4)) (w : World)
    (HE : Hid (∀ w, Calls Try.prog 9 #[] w fun e w' => e = .returned (.bool true) ∧ Below w.heap.size w w'))
    (HA : Hid (∀ w, Calls Try.prog 29 #[.agg #[.int .i64 a, .int .i64 b]] w fun e w' => e = .returned (.agg #[.int .i64 x, .int .i64 y]) ∧ Below w.heap.size w w'))
    (P1 : Hid (∀ vv : Int, vv = (N : Int) → ∀ w, Calls Try.prog 19 #[.agg #[.int .i64 x, .int .i64 y], .int .i64 vv] w fun e w' => e = .returned (.tuple #[.agg #[.int .i64 p, .int .i64 q], .int .i64 0]) ∧ Below w.heap.size w w'))
    (P2 : Hid (∀ vv : Int, vv = (M : Int) → ∀ w, Calls Try.prog 19 #[.agg #[.int .i64 x, .int .i64 y], .int .i64 vv] w fun e w' => e = .returned (.tuple #[.agg #[.int .i64 r, .int .i64 s], .int .i64 0]) ∧ Below w.heap.size w w'))
    (P3 : Hid (∀ vv : Int, vv = (N : Int) + (M : Int) → ∀ w, Calls Try.prog 19 #[.agg #[.int .i64 x, .int .i64 y], .int .i64 vv] w fun e w' => e = .returned (.tuple #[.agg #[.int .i64 u, .int .i64 v], .int .i64 0]) ∧ Below w.heap.size w w'))
    (HM : Hid (∀ w, Calls Try.prog 13 #[.agg #[.int .i64 p, .int .i64 q], .agg #[.int .i64 r, .int .i64 s]] w fun e w' => e = .returned (.tuple #[.agg #[.int .i64 u, .int .i64 v], .int .i64 0]) ∧ Below w.heap.size w w'))
    (HI : Hid (∀ w, Calls Try.prog 20 #[.agg #[.int .i64 x, .int .i64 y]] w fun e w' => e = .returned (.tuple #[.agg #[.int .i64 i, .int .i64 j], .int .i64 0]) ∧ Below w.heap.size w w'))
    (HO : Hid (∀ w, Calls Try.prog 13 #[.agg #[.int .i64 x, .int .i64 y], .agg #[.int .i64 i, .int .i64 j]] w fun e w' => e = .returned (.tuple #[.agg #[.int .i64 1, .int .i64 0], .int .i64 0]) ∧ Below w.heap.size w w')) :
    Calls Try.prog 7 #[.agg #[.int .i64 a, .int .i64 b], .int .i64 n, .int .i64 m] w fun e w' => e = .returned (.bool true) ∧ Below w.heap.size w w' := by
  have QM := hide (quarter m hm _m1)
  go_enter Try.func7, Try.ntmps7
  go_wp2_with fail
  refine (HE.out _).mono ?_
  rintro e w1 ⟨rfl, bb⟩
  have A : Hid (Held w1 (w.heap.size) (a) (b)) := (Held.at _ (a) (b) _ rfl).below bb
  have B := hide (bpast (below_new (Below.refl _ w) _) bb)
  clear bb
  have ac0 := A.out.c0
  have ac1 := A.out.c1
  go_wp2_with fail
  refine (HA.out _).mono ?_
  rintro e w2 ⟨rfl, bb⟩
  clear ac0 ac1
  replace A := hide (A.out.past bb)
  replace B := hide (bpast B.out bb)
  clear bb
  have ac0 := A.out.c0
  have ac1 := A.out.c1
  have af0 := A.out.f0
  have af1 := A.out.f1
  go_wp2_with fail
  refine (P1.out _ (by have := HN.out; have := HK.out; have := QM.out; omega) _).mono ?_
  rintro e w3 ⟨rfl, bb⟩
  clear ac0 ac1 af0 af1
  replace A := hide ((A.out.put (x) (y)).past bb)
  replace B := hide (bpast (below_box B.out (w.heap.size) (by omega) (.int .i64 (x)) (.int .i64 (y))) bb)
  clear bb
  have ac0 := fun o0 => (A.out.alloc o0).c0
  have ac1 := fun o0 => (A.out.alloc o0).c1
  go_wp2_with fail
  refine (P2.out _ (by have := HN.out; have := HK.out; have := QM.out; omega) _).mono ?_
  rintro e w4 ⟨rfl, bb⟩
  clear ac0 ac1
  replace A := hide ((A.out.alloc _).past bb)
  have X : Hid (Held w4 (w3.heap.size) (p) (q)) := (Held.at _ (p) (q) _ rfl).below bb
  replace B := hide (bpast (below_new B.out _) bb)
  clear bb
  generalize w3.heap.size = bX at *
  have ac0 := fun o0 => (A.out.alloc o0).c0
  have ac1 := fun o0 => (A.out.alloc o0).c1
  go_wp2_with fail
  refine (P3.out _ (by have := HN.out; have := HK.out; rw [QM.out]; first | omega | (rw [IntWalk.wrap64_in _ (by omega)]; omega)) _).mono ?_
  rintro e w5 ⟨rfl, bb⟩
  clear ac0 ac1
  replace A := hide ((A.out.alloc _).past bb)
  replace X := hide ((X.out.alloc _).past bb)
  have Y : Hid (Held w5 (w4.heap.size) (r) (s)) := (Held.at _ (r) (s) _ rfl).below bb
  replace B := hide (bpast (below_new B.out _) bb)
  clear bb
  generalize w4.heap.size = bY at *
  have xc0 := fun o0 => (X.out.alloc o0).c0
  have xc1 := fun o0 => (X.out.alloc o0).c1
  have yc0 := fun o0 => (Y.out.alloc o0).c0
  have yc1 := fun o0 => (Y.out.alloc o0).c1
  go_wp2_with fail
  refine (HM.out _).mono ?_
  rintro e w6 ⟨rfl, bb⟩
  clear xc0 xc1 yc0 yc1
  replace A := hide ((A.out.alloc _).past bb)
  replace X := hide ((X.out.alloc _).past bb)
  replace Y := hide ((Y.out.alloc _).past bb)
  have Z : Hid (Held w6 (w5.heap.size) (u) (v)) := (Held.at _ (u) (v) _ rfl).below bb
  replace B := hide (bpast (below_new B.out _) bb)
  clear bb
  generalize w5.heap.size = bZ at *
  have ac0 := fun o0 => (A.out.alloc o0).c0
  have ac1 := fun o0 => (A.out.alloc o0).c1
  go_wp2_with fail
  refine (HI.out _).mono ?_
  rintro e w7 ⟨rfl, bb⟩
  clear ac0 ac1
  replace A := hide ((A.out.alloc _).past bb)
  replace X := hide ((X.out.alloc _).past bb)
  replace Y := hide ((Y.out.alloc _).past bb)
  replace Z := hide ((Z.out.alloc _).past bb)
  have PP : Hid (Held w7 (w6.heap.size) (u) (v)) := (Held.at _ (u) (v) _ rfl).below bb
  replace B := hide (bpast (below_new B.out _) bb)
  clear bb
  generalize w6.heap.size = bPP at *
  have ac0 := fun o0 => (A.out.alloc o0).c0
  have ac1 := fun o0 => (A.out.alloc o0).c1
  go_wp2_with fail
  refine (HO.out _).mono ?_
  rintro e w8 ⟨rfl, bb⟩
  clear ac0 ac1
  replace A := hide ((A.out.alloc _).past bb)
  replace X := hide ((X.out.alloc _).past bb)
  replace Y := hide ((Y.out.alloc _).past bb)
  replace Z := hide ((Z.out.alloc _).past bb)
  replace PP := hide ((PP.out.alloc _).past bb)
  have I : Hid (Held w8 (w7.heap.size) (i) (j)) := (Held.at _ (i) (j) _ rfl).below bb
  replace B := hide (bpast (below_new B.out _) bb)
  clear bb
  generalize w7.heap.size = bI at *
  have ppc0 := fun o0 => (PP.out.alloc o0).c0
  have ppc1 := fun o0 => (PP.out.alloc o0).c1
  have zc0 := fun o0 => (Z.out.alloc o0).c0
  have zc1 := fun o0 => (Z.out.alloc o0).c1
  go_wp2
  go_ret
  exact ⟨rfl, (below_new B.out _)⟩

set_option maxHeartbeats 1000000 in
theorem inv_core011 (a b n m y p q r s u v i j : Int) (N M : Nat) (hy : ¬ y = 0) (hn : 0 ≤ n) (hm : m < 0) (_n1 : -9223372036854775808 ≤ n) (_n2 : n ≤ 9223372036854775807) (_m1 : -9223372036854775808 ≤ m) (_m2 : m ≤ 9223372036854775807) (HN : Hid ((N : Int) = n / 4)) (HK : Hid ((M : Int) = (-(m + 1)) / 4)) (w : World)
    (HE : Hid (∀ w, Calls Try.prog 9 #[] w fun e w' => e = .returned (.bool true) ∧ Below w.heap.size w w'))
    (HA : Hid (∀ w, Calls Try.prog 29 #[.agg #[.int .i64 a, .int .i64 b]] w fun e w' => e = .returned (.agg #[.int .i64 0, .int .i64 y]) ∧ Below w.heap.size w w'))
    (P1 : Hid (∀ vv : Int, vv = (N : Int) → ∀ w, Calls Try.prog 19 #[.agg #[.int .i64 0, .int .i64 y], .int .i64 vv] w fun e w' => e = .returned (.tuple #[.agg #[.int .i64 p, .int .i64 q], .int .i64 0]) ∧ Below w.heap.size w w'))
    (P2 : Hid (∀ vv : Int, vv = (M : Int) → ∀ w, Calls Try.prog 19 #[.agg #[.int .i64 0, .int .i64 y], .int .i64 vv] w fun e w' => e = .returned (.tuple #[.agg #[.int .i64 r, .int .i64 s], .int .i64 0]) ∧ Below w.heap.size w w'))
    (P3 : Hid (∀ vv : Int, vv = (N : Int) + (M : Int) → ∀ w, Calls Try.prog 19 #[.agg #[.int .i64 0, .int .i64 y], .int .i64 vv] w fun e w' => e = .returned (.tuple #[.agg #[.int .i64 u, .int .i64 v], .int .i64 0]) ∧ Below w.heap.size w w'))
    (HM : Hid (∀ w, Calls Try.prog 13 #[.agg #[.int .i64 p, .int .i64 q], .agg #[.int .i64 r, .int .i64 s]] w fun e w' => e = .returned (.tuple #[.agg #[.int .i64 u, .int .i64 v], .int .i64 0]) ∧ Below w.heap.size w w'))
    (HI : Hid (∀ w, Calls Try.prog 20 #[.agg #[.int .i64 0, .int .i64 y]] w fun e w' => e = .returned (.tuple #[.agg #[.int .i64 i, .int .i64 j], .int .i64 0]) ∧ Below w.heap.size w w'))
    (HO : Hid (∀ w, Calls Try.prog 13 #[.agg #[.int .i64 0, .int .i64 y], .agg #[.int .i64 i, .int .i64 j]] w fun e w' => e = .returned (.tuple #[.agg #[.int .i64 1, .int .i64 0], .int .i64 0]) ∧ Below w.heap.size w w')) :
    Calls Try.prog 7 #[.agg #[.int .i64 a, .int .i64 b], .int .i64 n, .int .i64 m] w fun e w' => e = .returned (.bool true) ∧ Below w.heap.size w w' := by
  have QM := hide (quarter m hm _m1)
  go_enter Try.func7, Try.ntmps7
  go_wp2_with fail
  refine (HE.out _).mono ?_
  rintro e w1 ⟨rfl, bb⟩
  have A : Hid (Held w1 (w.heap.size) (a) (b)) := (Held.at _ (a) (b) _ rfl).below bb
  have B := hide (bpast (below_new (Below.refl _ w) _) bb)
  clear bb
  have ac0 := A.out.c0
  have ac1 := A.out.c1
  go_wp2_with fail
  refine (HA.out _).mono ?_
  rintro e w2 ⟨rfl, bb⟩
  clear ac0 ac1
  replace A := hide (A.out.past bb)
  replace B := hide (bpast B.out bb)
  clear bb
  have ac0 := A.out.c0
  have ac1 := A.out.c1
  have af0 := A.out.f0
  have af1 := A.out.f1
  go_wp2_with fail
  refine (P1.out _ (by have := HN.out; have := HK.out; have := QM.out; omega) _).mono ?_
  rintro e w3 ⟨rfl, bb⟩
  clear ac0 ac1 af0 af1
  replace A := hide ((A.out.put (0) (y)).past bb)
  replace B := hide (bpast (below_box B.out (w.heap.size) (by omega) (.int .i64 (0)) (.int .i64 (y))) bb)
  clear bb
  have ac0 := fun o0 => (A.out.alloc o0).c0
  have ac1 := fun o0 => (A.out.alloc o0).c1
  go_wp2_with fail
  refine (P2.out _ (by have := HN.out; have := HK.out; have := QM.out; omega) _).mono ?_
  rintro e w4 ⟨rfl, bb⟩
  clear ac0 ac1
  replace A := hide ((A.out.alloc _).past bb)
  have X : Hid (Held w4 (w3.heap.size) (p) (q)) := (Held.at _ (p) (q) _ rfl).below bb
  replace B := hide (bpast (below_new B.out _) bb)
  clear bb
  generalize w3.heap.size = bX at *
  have ac0 := fun o0 => (A.out.alloc o0).c0
  have ac1 := fun o0 => (A.out.alloc o0).c1
  go_wp2_with fail
  refine (P3.out _ (by have := HN.out; have := HK.out; rw [QM.out]; first | omega | (rw [IntWalk.wrap64_in _ (by omega)]; omega)) _).mono ?_
  rintro e w5 ⟨rfl, bb⟩
  clear ac0 ac1
  replace A := hide ((A.out.alloc _).past bb)
  replace X := hide ((X.out.alloc _).past bb)
  have Y : Hid (Held w5 (w4.heap.size) (r) (s)) := (Held.at _ (r) (s) _ rfl).below bb
  replace B := hide (bpast (below_new B.out _) bb)
  clear bb
  generalize w4.heap.size = bY at *
  have xc0 := fun o0 => (X.out.alloc o0).c0
  have xc1 := fun o0 => (X.out.alloc o0).c1
  have yc0 := fun o0 => (Y.out.alloc o0).c0
  have yc1 := fun o0 => (Y.out.alloc o0).c1
  go_wp2_with fail
  refine (HM.out _).mono ?_
  rintro e w6 ⟨rfl, bb⟩
  clear xc0 xc1 yc0 yc1
  replace A := hide ((A.out.alloc _).past bb)
  replace X := hide ((X.out.alloc _).past bb)
  replace Y := hide ((Y.out.alloc _).past bb)
  have Z : Hid (Held w6 (w5.heap.size) (u) (v)) := (Held.at _ (u) (v) _ rfl).below bb
  replace B := hide (bpast (below_new B.out _) bb)
  clear bb
  generalize w5.heap.size = bZ at *
  have ac0 := fun o0 => (A.out.alloc o0).c0
  have ac1 := fun o0 => (A.out.alloc o0).c1
  go_wp2_with fail
  refine (HI.out _).mono ?_
  rintro e w7 ⟨rfl, bb⟩
  clear ac0 ac1
  replace A := hide ((A.out.alloc _).past bb)
  replace X := hide ((X.out.alloc _).past bb)
  replace Y := hide ((Y.out.alloc _).past bb)
  replace Z := hide ((Z.out.alloc _).past bb)
  have PP : Hid (Held w7 (w6.heap.size) (u) (v)) := (Held.at _ (u) (v) _ rfl).below bb
  replace B := hide (bpast (below_new B.out _) bb)
  clear bb
  generalize w6.heap.size = bPP at *
  have ac0 := fun o0 => (A.out.alloc o0).c0
  have ac1 := fun o0 => (A.out.alloc o0).c1
  go_wp2_with fail
  refine (HO.out _).mono ?_
  rintro e w8 ⟨rfl, bb⟩
  clear ac0 ac1
  replace A := hide ((A.out.alloc _).past bb)
  replace X := hide ((X.out.alloc _).past bb)
  replace Y := hide ((Y.out.alloc _).past bb)
  replace Z := hide ((Z.out.alloc _).past bb)
  replace PP := hide ((PP.out.alloc _).past bb)
  have I : Hid (Held w8 (w7.heap.size) (i) (j)) := (Held.at _ (i) (j) _ rfl).below bb
  replace B := hide (bpast (below_new B.out _) bb)
  clear bb
  generalize w7.heap.size = bI at *
  have ppc0 := fun o0 => (PP.out.alloc o0).c0
  have ppc1 := fun o0 => (PP.out.alloc o0).c1
  have zc0 := fun o0 => (Z.out.alloc o0).c0
  have zc1 := fun o0 => (Z.out.alloc o0).c1
  go_wp2
  go_ret
  exact ⟨rfl, (below_new B.out _)⟩

set_option maxHeartbeats 1000000 in
theorem inv_core012 (a b n m p q r s u v : Int) (N M : Nat) (hn : 0 ≤ n) (hm : m < 0) (_n1 : -9223372036854775808 ≤ n) (_n2 : n ≤ 9223372036854775807) (_m1 : -9223372036854775808 ≤ m) (_m2 : m ≤ 9223372036854775807) (HN : Hid ((N : Int) = n / 4)) (HK : Hid ((M : Int) = (-(m + 1)) / 4)) (w : World)
    (HE : Hid (∀ w, Calls Try.prog 9 #[] w fun e w' => e = .returned (.bool true) ∧ Below w.heap.size w w'))
    (HA : Hid (∀ w, Calls Try.prog 29 #[.agg #[.int .i64 a, .int .i64 b]] w fun e w' => e = .returned (.agg #[.int .i64 0, .int .i64 0]) ∧ Below w.heap.size w w'))
    (P1 : Hid (∀ vv : Int, vv = (N : Int) → ∀ w, Calls Try.prog 19 #[.agg #[.int .i64 0, .int .i64 0], .int .i64 vv] w fun e w' => e = .returned (.tuple #[.agg #[.int .i64 p, .int .i64 q], .int .i64 0]) ∧ Below w.heap.size w w'))
    (P2 : Hid (∀ vv : Int, vv = (M : Int) → ∀ w, Calls Try.prog 19 #[.agg #[.int .i64 0, .int .i64 0], .int .i64 vv] w fun e w' => e = .returned (.tuple #[.agg #[.int .i64 r, .int .i64 s], .int .i64 0]) ∧ Below w.heap.size w w'))
    (P3 : Hid (∀ vv : Int, vv = (N : Int) + (M : Int) → ∀ w, Calls Try.prog 19 #[.agg #[.int .i64 0, .int .i64 0], .int .i64 vv] w fun e w' => e = .returned (.tuple #[.agg #[.int .i64 u, .int .i64 v], .int .i64 0]) ∧ Below w.heap.size w w'))
    (HM : Hid (∀ w, Calls Try.prog 13 #[.agg #[.int .i64 p, .int .i64 q], .agg #[.int .i64 r, .int .i64 s]] w fun e w' => e = .returned (.tuple #[.agg #[.int .i64 u, .int .i64 v], .int .i64 0]) ∧ Below w.heap.size w w'))
    (HI : Hid (∀ w, Calls Try.prog 20 #[.agg #[.int .i64 0, .int .i64 0]] w fun e w' => e = .returned (.tuple #[.agg #[.int .i64 0, .int .i64 0], .int .i64 7]) ∧ Below w.heap.size w w')) :
    Calls Try.prog 7 #[.agg #[.int .i64 a, .int .i64 b], .int .i64 n, .int .i64 m] w fun e w' => e = .returned (.bool true) ∧ Below w.heap.size w w' := by
  have QM := hide (quarter m hm _m1)
  go_enter Try.func7, Try.ntmps7
  go_wp2_with fail
  refine (HE.out _).mono ?_
  rintro e w1 ⟨rfl, bb⟩
  have A : Hid (Held w1 (w.heap.size) (a) (b)) := (Held.at _ (a) (b) _ rfl).below bb
  have B := hide (bpast (below_new (Below.refl _ w) _) bb)
  clear bb
  have ac0 := A.out.c0
  have ac1 := A.out.c1
  go_wp2_with fail
  refine (HA.out _).mono ?_
  rintro e w2 ⟨rfl, bb⟩
  clear ac0 ac1
  replace A := hide (A.out.past bb)
  replace B := hide (bpast B.out bb)
  clear bb
  have ac0 := A.out.c0
  have ac1 := A.out.c1
  have af0 := A.out.f0
  have af1 := A.out.f1
  go_wp2_with fail
  refine (P1.out _ (by have := HN.out; have := HK.out; have := QM.out; omega) _).mono ?_
  rintro e w3 ⟨rfl, bb⟩
  clear ac0 ac1 af0 af1
  replace A := hide ((A.out.put (0) (0)).past bb)
  replace B := hide (bpast (below_box B.out (w.heap.size) (by omega) (.int .i64 (0)) (.int .i64 (0))) bb)
  clear bb
  have ac0 := fun o0 => (A.out.alloc o0).c0
  have ac1 := fun o0 => (A.out.alloc o0).c1
  go_wp2_with fail
  refine (P2.out _ (by have := HN.out; have := HK.out; have := QM.out; omega) _).mono ?_
  rintro e w4 ⟨rfl, bb⟩
  clear ac0 ac1
  replace A := hide ((A.out.alloc _).past bb)
  have X : Hid (Held w4 (w3.heap.size) (p) (q)) := (Held.at _ (p) (q) _ rfl).below bb
  replace B := hide (bpast (below_new B.out _) bb)
  clear bb
  generalize w3.heap.size = bX at *
  have ac0 := fun o0 => (A.out.alloc o0).c0
  have ac1 := fun o0 => (A.out.alloc o0).c1
  go_wp2_with fail
  refine (P3.out _ (by have := HN.out; have := HK.out; rw [QM.out]; first | omega | (rw [IntWalk.wrap64_in _ (by omega)]; omega)) _).mono ?_
  rintro e w5 ⟨rfl, bb⟩
  clear ac0 ac1
  replace A := hide ((A.out.alloc _).past bb)
  replace X := hide ((X.out.alloc _).past bb)
  have Y : Hid (Held w5 (w4.heap.size) (r) (s)) := (Held.at _ (r) (s) _ rfl).below bb
  replace B := hide (bpast (below_new B.out _) bb)
  clear bb
  generalize w4.heap.size = bY at *
  have xc0 := fun o0 => (X.out.alloc o0).c0
  have xc1 := fun o0 => (X.out.alloc o0).c1
  have yc0 := fun o0 => (Y.out.alloc o0).c0
  have yc1 := fun o0 => (Y.out.alloc o0).c1
  go_wp2_with fail
  refine (HM.out _).mono ?_
  rintro e w6 ⟨rfl, bb⟩
  clear xc0 xc1 yc0 yc1
  replace A := hide ((A.out.alloc _).past bb)
  replace X := hide ((X.out.alloc _).past bb)
  replace Y := hide ((Y.out.alloc _).past bb)
  have Z : Hid (Held w6 (w5.heap.size) (u) (v)) := (Held.at _ (u) (v) _ rfl).below bb
  replace B := hide (bpast (below_new B.out _) bb)
  clear bb
  generalize w5.heap.size = bZ at *
  have ac0 := fun o0 => (A.out.alloc o0).c0
  have ac1 := fun o0 => (A.out.alloc o0).c1
  go_wp2_with fail
  refine (HI.out _).mono ?_
  rintro e w7 ⟨rfl, bb⟩
  clear ac0 ac1
  replace A := hide ((A.out.alloc _).past bb)
  replace X := hide ((X.out.alloc _).past bb)
  replace Y := hide ((Y.out.alloc _).past bb)
  replace Z := hide ((Z.out.alloc _).past bb)
  have PP : Hid (Held w7 (w6.heap.size) (u) (v)) := (Held.at _ (u) (v) _ rfl).below bb
  replace B := hide (bpast (below_new B.out _) bb)
  clear bb
  generalize w6.heap.size = bPP at *
  have ac0 := fun o0 => (A.out.alloc o0).c0
  have ac1 := fun o0 => (A.out.alloc o0).c1
  have ppc0 := fun o0 => (PP.out.alloc o0).c0
  have ppc1 := fun o0 => (PP.out.alloc o0).c1
  have zc0 := fun o0 => (Z.out.alloc o0).c0
  have zc1 := fun o0 => (Z.out.alloc o0).c1
  go_wp2
  go_ret
  exact ⟨rfl, (below_new B.out _)⟩

set_option maxHeartbeats 1000000 in
theorem inv_core100 (a b n m x y p q r s u v i j : Int) (N M : Nat) (hx : ¬ x = 0) (hn : n < 0) (hm : 0 ≤ m) (_n1 : -9223372036854775808 ≤ n) (_n2 : n ≤ 9223372036854775807) (_m1 : -9223372036854775808 ≤ m) (_m2 : m ≤ 9223372036854775807) (HN : Hid ((N : Int) = (-(n + 1)) / 4)) (HK : Hid ((M : Int) = m / 4)) (w : World)
    (HE : Hid (∀ w, Calls Try.prog 9 #[] w fun e w' => e = .returned (.bool true) ∧ Below w.heap.size w w'))
    (HA : Hid (∀ w, Calls Try.prog 29 #[.agg #[.int .i64 a, .int .i64 b]] w fun e w' => e = .returned (.agg #[.int .i64 x, .int .i64 y]) ∧ Below w.heap.size w w'))
    (P1 : Hid (∀ vv : Int, vv = (N : Int) → ∀ w, Calls Try.prog 19 #[.agg #[.int .i64 x, .int .i64 y], .int .i64 vv] w fun e w' => e = .returned (.tuple #[.agg #[.int .i64 p, .int .i64 q], .int .i64 0]) ∧ Below w.heap.size w w'))
    (P2 : Hid (∀ vv : Int, vv = (M : Int) → ∀ w, Calls Try.prog 19 #[.agg #[.int .i64 x, .int .i64 y], .int .i64 vv] w fun e w' => e = .returned (.tuple #[.agg #[.int .i64 r, .int .i64 s], .int .i64 0]) ∧ Below w.heap.size w w'))
    (P3 : Hid (∀ vv : Int, vv = (N : Int) + (M : Int) → ∀ w, Calls Try.prog 19 #[.agg #[.int .i64 x, .int .i64 y], .int .i64 vv] w fun e w' => e = .returned (.tuple #[.agg #[.int .i64 u, .int .i64 v], .int .i64 0]) ∧ Below w.heap.size w w'))
    (HM : Hid (∀ w, Calls Try.prog 13 #[.agg #[.int .i64 p, .int .i64 q], .agg #[.int .i64 r, .int .i64 s]] w fun e w' => e = .returned (.tuple #[.agg #[.int .i64 u, .int .i64 v], .int .i64 0]) ∧ Below w.heap.size w w'))
    (HI : Hid (∀ w, Calls Try.prog 20 #[.agg #[.int .i64 x, .int .i64 y]] w fun e w' => e = .returned (.tuple #[.agg #[.int .i64 i, .int .i64 j], .int .i64 0]) ∧ Below w.heap.size w w'))
    (HO : Hid (∀ w, Calls Try.prog 13 #[.agg #[.int .i64 x, .int .i64 y], .agg #[.int .i64 i, .int .i64 j]] w fun e w' => e = .returned (.tuple #[.agg #[.int .i64 1, .int .i64 0], .int .i64 0]) ∧ Below w.heap.size w w')) :
    Calls Try.prog 7 #[.agg #[.int .i64 a, .int .i64 b], .int .i64 n, .int .i64 m] w fun e w' => e = .returned (.bool true) ∧ Below w.heap.size w w' := by
  have QN := hide (quarter n hn _n1)
  go_enter Try.func7, Try.ntmps7
  go_wp2_with fail
  refine (HE.out _).mono ?_
  rintro e w1 ⟨rfl, bb⟩
  have A : Hid (Held w1 (w.heap.size) (a) (b)) := (Held.at _ (a) (b) _ rfl).below bb
  have B := hide (bpast (below_new (Below.refl _ w) _) bb)
  clear bb
  have ac0 := A.out.c0
  have ac1 := A.out.c1
  go_wp2_with fail
  refine (HA.out _).mono ?_
  rintro e w2 ⟨rfl, bb⟩
  clear ac0 ac1
  replace A := hide (A.out.past bb)
  replace B := hide (bpast B.out bb)
  clear bb
  have ac0 := A.out.c0
  have ac1 := A.out.c1
  have af0 := A.out.f0
  have af1 := A.out.f1
  go_wp2_with fail
  refine (P1.out _ (by have := HN.out; have := HK.out; have := QN.out; omega) _).mono ?_
  rintro e w3 ⟨rfl, bb⟩
  clear ac0 ac1 af0 af1
  replace A := hide ((A.out.put (x) (y)).past bb)
  replace B := hide (bpast (below_box B.out (w.heap.size) (by omega) (.int .i64 (x)) (.int .i64 (y))) bb)
  clear bb
  have ac0 := fun o0 => (A.out.alloc o0).c0
  have ac1 := fun o0 => (A.out.alloc o0).c1
  go_wp2_with fail
  refine (P2.out _ (by have := HN.out; have := HK.out; have := QN.out; omega) _).mono ?_
  rintro e w4 ⟨rfl, bb⟩
  clear ac0 ac1
  replace A := hide ((A.out.alloc _).past bb)
  have X : Hid (Held w4 (w3.heap.size) (p) (q)) := (Held.at _ (p) (q) _ rfl).below bb
  replace B := hide (bpast (below_new B.out _) bb)
  clear bb
  generalize w3.heap.size = bX at *
  have ac0 := fun o0 => (A.out.alloc o0).c0
  have ac1 := fun o0 => (A.out.alloc o0).c1
  go_wp2_with fail
  refine (P3.out _ (by have := HN.out; have := HK.out; rw [QN.out]; first | omega | (rw [IntWalk.wrap64_in _ (by omega)]; omega)) _).mono ?_
  rintro e w5 ⟨rfl, bb⟩
  clear ac0 ac1
  replace A := hide ((A.out.alloc _).past bb)
  replace X := hide ((X.out.alloc _).past bb)
  have Y : Hid (Held w5 (w4.heap.size) (r) (s)) := (Held.at _ (r) (s) _ rfl).below bb
  replace B := hide (bpast (below_new B.out _) bb)
  clear bb
  generalize w4.heap.size = bY at *
  have xc0 := fun o0 => (X.out.alloc o0).c0
  have xc1 := fun o0 => (X.out.alloc o0).c1
  have yc0 := fun o0 => (Y.out.alloc o0).c0
  have yc1 := fun o0 => (Y.out.alloc o0).c1
  go_wp2_with fail
  refine (HM.out _).mono ?_
  rintro e w6 ⟨rfl, bb⟩
  clear xc0 xc1 yc0 yc1
  replace A := hide ((A.out.alloc _).past bb)
  replace X := hide ((X.out.alloc _).past bb)
  replace Y := hide ((Y.out.alloc _).past bb)
  have Z : Hid (Held w6 (w5.heap.size) (u) (v)) := (Held.at _ (u) (v) _ rfl).below bb
  replace B := hide (bpast (below_new B.out _) bb)
  clear bb
  generalize w5.heap.size = bZ at *
  have ac0 := fun o0 => (A.out.alloc o0).c0
  have ac1 := fun o0 => (A.out.alloc o0).c1
  go_wp2_with fail
  refine (HI.out _).mono ?_
  rintro e w7 ⟨rfl, bb⟩
  clear ac0 ac1
  replace A := hide ((A.out.alloc _).past bb)
  replace X := hide ((X.out.alloc _).past bb)
  replace Y := hide ((Y.out.alloc _).past bb)
  replace Z := hide ((Z.out.alloc _).past bb)
  have PP : Hid (Held w7 (w6.heap.size) (u) (v)) := (Held.at _ (u) (v) _ rfl).below bb
  replace B := hide (bpast (below_new B.out _) bb)
  clear bb
  generalize w6.heap.size = bPP at *
  have ac0 := fun o0 => (A.out.alloc o0).c0
  have ac1 := fun o0 => (A.out.alloc o0).c1
  go_wp2_with fail
  refine (HO.out _).mono ?_
  rintro e w8 ⟨rfl, bb⟩
  clear ac0 ac1
  replace A := hide ((A.out.alloc _).past bb)
  replace X := hide ((X.out.alloc _).past bb)
  replace Y := hide ((Y.out.alloc _).past bb)
  replace Z := hide ((Z.out.alloc _).past bb)
  replace PP := hide ((PP.out.alloc _).past bb)
  have I : Hid (Held w8 (w7.heap.size) (i) (j)) := (Held.at _ (i) (j) _ rfl).below bb
  replace B := hide (bpast (below_new B.out _) bb)
  clear bb
  generalize w7.heap.size = bI at *
  have ppc0 := fun o0 => (PP.out.alloc o0).c0
  have ppc1 := fun o0 => (PP.out.alloc o0).c1
  have zc0 := fun o0 => (Z.out.alloc o0).c0
  have zc1 := fun o0 => (Z.out.alloc o0).c1
  go_wp2
  go_ret
  exact ⟨rfl, (below_new B.out _)⟩

set_option maxHeartbeats 1000000 in
theorem inv_core101 (a b n m y p q r s u v i j : Int) (N M : Nat) (hy : ¬ y = 0) (hn : n < 0) (hm : 0 ≤ m) (_n1 : -9223372036854775808 ≤ n) (_n2 : n ≤ 9223372036854775807) (_m1 : -9223372036854775808 ≤ m) (_m2 : m ≤ 9223372036854775807) (HN : Hid ((N : Int) = (-(n + 1)) / 4)) (HK : Hid ((M : Int) = m / 4)) (w : World)
    (HE : Hid (∀ w, Calls Try.prog 9 #[] w fun e w' => e = .returned (.bool true) ∧ Below w.heap.size w w'))
    (HA : Hid (∀ w, Calls Try.prog 29 #[.agg #[.int .i64 a, .int .i64 b]] w fun e w' => e = .returned (.agg #[.int .i64 0, .int .i64 y]) ∧ Below w.heap.size w w'))
    (P1 : Hid (∀ vv : Int, vv = (N : Int) → ∀ w, Calls Try.prog 19 #[.agg #[.int .i64 0, .int .i64 y], .int .i64 vv] w fun e w' => e = .returned (.tuple #[.agg #[.int .i64 p, .int .i64 q], .int .i64 0]) ∧ Below w.heap.size w w'))
    (P2 : Hid (∀ vv : Int, vv = (M : Int) → ∀ w, Calls Try.prog 19 #[.agg #[.int .i64 0, .int .i64 y], .int .i64 vv] w fun e w' => e = .returned (.tuple #[.agg #[.int .i64 r, .int .i64 s], .int .i64 0]) ∧ Below w.heap.size w w'))
    (P3 : Hid (∀ vv : Int, vv = (N : Int) + (M : Int) → ∀ w, Calls Try.prog 19 #[.agg #[.int .i64 0, .int .i64 y], .int .i64 vv] w fun e w' => e = .returned (.tuple #[.agg #[.int .i64 u, .int .i64 v], .int .i64 0]) ∧ Below w.heap.size w w'))
    (HM : Hid (∀ w, Calls Try.prog 13 #[.agg #[.int .i64 p, .int .i64 q], .agg #[.int .i64 r, .int .i64 s]] w fun e w' => e = .returned (.tuple #[.agg #[.int .i64 u, .int .i64 v], .int .i64 0]) ∧ Below w.heap.size w w'))
    (HI : Hid (∀ w, Calls Try.prog 20 #[.agg #[.int .i64 0, .int .i64 y]] w fun e w' => e = .returned (.tuple #[.agg #[.int .i64 i, .int .i64 j], .int .i64 0]) ∧ Below w.heap.size w w'))
    (HO : Hid (∀ w, Calls Try.prog 13 #[.agg #[.int .i64 0, .int .i64 y], .agg #[.int .i64 i, .int .i64 j]] w fun e w' => e = .returned (.tuple #[.agg #[.int .i64 1, .int .i64 0], .int .i64 0]) ∧ Below w.heap.size w w')) :
    Calls Try.prog 7 #[.agg #[.int .i64 a, .int .i64 b], .int .i64 n, .int .i64 m] w fun e w' => e = .returned (.bool true) ∧ Below w.heap.size w w' := by
  have QN := hide (quarter n hn _n1)
  go_enter Try.func7, Try.ntmps7
  go_wp2_with fail
  refine (HE.out _).mono ?_
  rintro e w1 ⟨rfl, bb⟩
  have A : Hid (Held w1 (w.heap.size) (a) (b)) := (Held.at _ (a) (b) _ rfl).below bb
  have B := hide (bpast (below_new (Below.refl _ w) _) bb)
  clear bb
  have ac0 := A.out.c0
  have ac1 := A.out.c1
  go_wp2_with fail
  refine (HA.out _).mono ?_
  rintro e w2 ⟨rfl, bb⟩
  clear ac0 ac1
  replace A := hide (A.out.past bb)
  replace B := hide (bpast B.out bb)
  clear bb
  have ac0 := A.out.c0
  have ac1 := A.out.c1
  have af0 := A.out.f0
  have af1 := A.out.f1
  go_wp2_with fail
  refine (P1.out _ (by have := HN.out; have := HK.out; have := QN.out; omega) _).mono ?_
  rintro e w3 ⟨rfl, bb⟩
  clear ac0 ac1 af0 af1
  replace A := hide ((A.out.put (0) (y)).past bb)
  replace B := hide (bpast (below_box B.out (w.heap.size) (by omega) (.int .i64 (0)) (.int .i64 (y))) bb)
  clear bb
  have ac0 := fun o0 => (A.out.alloc o0).c0
  have ac1 := fun o0 => (A.out.alloc o0).c1
  go_wp2_with fail
  refine (P2.out _ (by have := HN.out; have := HK.out; have := QN.out; omega) _).mono ?_
  rintro e w4 ⟨rfl, bb⟩
  clear ac0 ac1
  replace A := hide ((A.out.alloc _).past bb)
  have X : Hid (Held w4 (w3.heap.size) (p) (q)) := (Held.at _ (p) (q) _ rfl).below bb
  replace B := hide (bpast (below_new B.out _) bb)
  clear bb
  generalize w3.heap.size = bX at *
  have ac0 := fun o0 => (A.out.alloc o0).c0
  have ac1 := fun o0 => (A.out.alloc o0).c1
  go_wp2_with fail
  refine (P3.out _ (by have := HN.out; have := HK.out; rw [QN.out]; first | omega | (rw [IntWalk.wrap64_in _ (by omega)]; omega)) _).mono ?_
  rintro e w5 ⟨rfl, bb⟩
  clear ac0 ac1
  replace A := hide ((A.out.alloc _).past bb)
  replace X := hide ((X.out.alloc _).past bb)
  have Y : Hid (Held w5 (w4.heap.size) (r) (s)) := (Held.at _ (r) (s) _ rfl).below bb
  replace B := hide (bpast (below_new B.out _) bb)
  clear bb
  generalize w4.heap.size = bY at *
  have xc0 := fun o0 => (X.out.alloc o0).c0
  have xc1 := fun o0 => (X.out.alloc o0).c1
  have yc0 := fun o0 => (Y.out.alloc o0).c0
  have yc1 := fun o0 => (Y.out.alloc o0).c1
  go_wp2_with fail
  refine (HM.out _).mono ?_
  rintro e w6 ⟨rfl, bb⟩
  clear xc0 xc1 yc0 yc1
  replace A := hide ((A.out.alloc _).past bb)
  replace X := hide ((X.out.alloc _).past bb)
  replace Y := hide ((Y.out.alloc _).past bb)
  have Z : Hid (Held w6 (w5.heap.size) (u) (v)) := (Held.at _ (u) (v) _ rfl).below bb
  replace B := hide (bpast (below_new B.out _) bb)
  clear bb
  generalize w5.heap.size = bZ at *
  have ac0 := fun o0 => (A.out.alloc o0).c0
  have ac1 := fun o0 => (A.out.alloc o0).c1
  go_wp2_with fail
  refine (HI.out _).mono ?_
  rintro e w7 ⟨rfl, bb⟩
  clear ac0 ac1
  replace A := hide ((A.out.alloc _).past bb)
  replace X := hide ((X.out.alloc _).past bb)
  replace Y := hide ((Y.out.alloc _).past bb)
  replace Z := hide ((Z.out.alloc _).past bb)
  have PP : Hid (Held w7 (w6.heap.size) (u) (v)) := (Held.at _ (u) (v) _ rfl).below bb
  replace B := hide (bpast (below_new B.out _) bb)
  clear bb
  generalize w6.heap.size = bPP at *
  have ac0 := fun o0 => (A.out.alloc o0).c0
  have ac1 := fun o0 => (A.out.alloc o0).c1
  go_wp2_with fail
  refine (HO.out _).mono ?_
  rintro e w8 ⟨rfl, bb⟩
  clear ac0 ac1
  replace A := hide ((A.out.alloc _).past bb)
  replace X := hide ((X.out.alloc _).past bb)
  replace Y := hide ((Y.out.alloc _).past bb)
  replace Z := hide ((Z.out.alloc _).past bb)
  replace PP := hide ((PP.out.alloc _).past bb)
  have I : Hid (Held w8 (w7.heap.size) (i) (j)) := (Held.at _ (i) (j) _ rfl).below bb
  replace B := hide (bpast (below_new B.out _) bb)
  clear bb
  generalize w7.heap.size = bI at *
  have ppc0 := fun o0 => (PP.out.alloc o0).c0
  have ppc1 := fun o0 => (PP.out.alloc o0).c1
  have zc0 := fun o0 => (Z.out.alloc o0).c0
  have zc1 := fun o0 => (Z.out.alloc o0).c1
  go_wp2
  go_ret
  exact ⟨rfl, (below_new B.out _)⟩

set_option maxHeartbeats 1000000 in
theorem inv_core102 (a b n m p q r s u v : Int) (N M : Nat) (hn : n < 0) (hm : 0 ≤ m) (_n1 : -9223372036854775808 ≤ n) (_n2 : n ≤ 9223372036854775807) (_m1 : -9223372036854775808 ≤ m) (_m2 : m ≤ 9223372036854775807) (HN : Hid ((N : Int) = (-(n + 1)) / 4)) (HK : Hid ((M : Int) = m / 4)) (w : World)
    (HE : Hid (∀ w, Calls Try.prog 9 #[] w fun e w' => e = .returned (.bool true) ∧ Below w.heap.size w w'))
    (HA : Hid (∀ w, Calls Try.prog 29 #[.agg #[.int .i64 a, .int .i64 b]] w fun e w' => e = .returned (.agg #[.int .i64 0, .int .i64 0]) ∧ Below w.heap.size w w'))
    (P1 : Hid (∀ vv : Int, vv = (N : Int) → ∀ w, Calls Try.prog 19 #[.agg #[.int .i64 0, .int .i64 0], .int .i64 vv] w fun e w' => e = .returned (.tuple #[.agg #[.int .i64 p, .int .i64 q], .int .i64 0]) ∧ Below w.heap.size w w'))
    (P2 : Hid (∀ vv : Int, vv = (M : Int) → ∀ w, Calls Try.prog 19 #[.agg #[.int .i64 0, .int .i64 0], .int .i64 vv] w fun e w' => e = .returned (.tuple #[.agg #[.int .i64 r, .int .i64 s], .int .i64 0]) ∧ Below w.heap.size w w'))
    (P3 : Hid (∀ vv : Int, vv = (N : Int) + (M : Int) → ∀ w, Calls Try.prog 19 #[.agg #[.int .i64 0, .int .i64 0], .int .i64 vv] w fun e w' => e = .returned (.tuple #[.agg #[.int .i64 u, .int .i64 v], .int .i64 0]) ∧ Below w.heap.size w w'))
    (HM : Hid (∀ w, Calls Try.prog 13 #[.agg #[.int .i64 p, .int .i64 q], .agg #[.int .i64 r, .int .i64 s]] w fun e w' => e = .returned (.tuple #[.agg #[.int .i64 u, .int .i64 v], .int .i64 0]) ∧ Below w.heap.size w w'))
    (HI : Hid (∀ w, Calls Try.prog 20 #[.agg #[.int .i64 0, .int .i64 0]] w fun e w' => e = .returned (.tuple #[.agg #[.int .i64 0, .int .i64 0], .int .i64 7]) ∧ Below w.heap.size w w')) :
    Calls Try.prog 7 #[.agg #[.int .i64 a, .int .i64 b], .int .i64 n, .int .i64 m] w fun e w' => e = .returned (.bool true) ∧ Below w.heap.size w w' := by
  have QN := hide (quarter n hn _n1)
  go_enter Try.func7, Try.ntmps7
  go_wp2_with fail
  refine (HE.out _).mono ?_
  rintro e w1 ⟨rfl, bb⟩
  have A : Hid (Held w1 (w.heap.size) (a) (b)) := (Held.at _ (a) (b) _ rfl).below bb
  have B := hide (bpast (below_new (Below.refl _ w) _) bb)
  clear bb
  have ac0 := A.out.c0
  have ac1 := A.out.c1
  go_wp2_with fail
  refine (HA.out _).mono ?_
  rintro e w2 ⟨rfl, bb⟩
  clear ac0 ac1
  replace A := hide (A.out.past bb)
  replace B := hide (bpast B.out bb)
  clear bb
  have ac0 := A.out.c0
  have ac1 := A.out.c1
  have af0 := A.out.f0
  have af1 := A.out.f1
  go_wp2_with fail
  refine (P1.out _ (by have := HN.out; have := HK.out; have := QN.out; omega) _).mono ?_
  rintro e w3 ⟨rfl, bb⟩
  clear ac0 ac1 af0 af1
  replace A := hide ((A.out.put (0) (0)).past bb)
  replace B := hide (bpast (below_box B.out (w.heap.size) (by omega) (.int .i64 (0)) (.int .i64 (0))) bb)
  clear bb
  have ac0 := fun o0 => (A.out.alloc o0).c0
  have ac1 := fun o0 => (A.out.alloc o0).c1
  go_wp2_with fail
  refine (P2.out _ (by have := HN.out; have := HK.out; have := QN.out; omega) _).mono ?_
  rintro e w4 ⟨rfl, bb⟩
  clear ac0 ac1
  replace A := hide ((A.out.alloc _).past bb)
  have X : Hid (Held w4 (w3.heap.size) (p) (q)) := (Held.at _ (p) (q) _ rfl).below bb
  replace B := hide (bpast (below_new B.out _) bb)
  clear bb
  generalize w3.heap.size = bX at *
  have ac0 := fun o0 => (A.out.alloc o0).c0
  have ac1 := fun o0 => (A.out.alloc o0).c1
  go_wp2_with fail
  refine (P3.out _ (by have := HN.out; have := HK.out; rw [QN.out]; first | omega | (rw [IntWalk.wrap64_in _ (by omega)]; omega)) _).mono ?_
  rintro e w5 ⟨rfl, bb⟩
  clear ac0 ac1
  replace A := hide ((A.out.alloc _).past bb)
  replace X := hide ((X.out.alloc _).past bb)
  have Y : Hid (Held w5 (w4.heap.size) (r) (s)) := (Held.at _ (r) (s) _ rfl).below bb
  replace B := hide (bpast (below_new B.out _) bb)
  clear bb
  generalize w4.heap.size = bY at *
  have xc0 := fun o0 => (X.out.alloc o0).c0
  have xc1 := fun o0 => (X.out.alloc o0).c1
  have yc0 := fun o0 => (Y.out.alloc o0).c0
  have yc1 := fun o0 => (Y.out.alloc o0).c1
  go_wp2_with fail
  refine (HM.out _).mono ?_
  rintro e w6 ⟨rfl, bb⟩
  clear xc0 xc1 yc0 yc1
  replace A := hide ((A.out.alloc _).past bb)
  replace X := hide ((X.out.alloc _).past bb)
  replace Y := hide ((Y.out.alloc _).past bb)
  have Z : Hid (Held w6 (w5.heap.size) (u) (v)) := (Held.at _ (u) (v) _ rfl).below bb
  replace B := hide (bpast (below_new B.out _) bb)
  clear bb
  generalize w5.heap.size = bZ at *
  have ac0 := fun o0 => (A.out.alloc o0).c0
  have ac1 := fun o0 => (A.out.alloc o0).c1
  go_wp2_with fail
  refine (HI.out _).mono ?_
  rintro e w7 ⟨rfl, bb⟩
  clear ac0 ac1
  replace A := hide ((A.out.alloc _).past bb)
  replace X := hide ((X.out.alloc _).past bb)
  replace Y := hide ((Y.out.alloc _).past bb)
  replace Z := hide ((Z.out.alloc _).past bb)
  have PP : Hid (Held w7 (w6.heap.size) (u) (v)) := (Held.at _ (u) (v) _ rfl).below bb
  replace B := hide (bpast (below_new B.out _) bb)
  clear bb
  generalize w6.heap.size = bPP at *
  have ac0 := fun o0 => (A.out.alloc o0).c0
  have ac1 := fun o0 => (A.out.alloc o0).c1
  have ppc0 := fun o0 => (PP.out.alloc o0).c0
  have ppc1 := fun o0 => (PP.out.alloc o0).c1
  have zc0 := fun o0 => (Z.out.alloc o0).c0
  have zc1 := fun o0 => (Z.out.alloc o0).c1
  go_wp2
  go_ret
  exact ⟨rfl, (below_new B.out _)⟩

set_option maxHeartbeats 1000000 in
theorem inv_core110 (a b n m x y p q r s u v i j : Int) (N M : Nat) (hx : ¬ x = 0) (hn : n < 0) (hm : m < 0) (_n1 : -9223372036854775808 ≤ n) (_n2 : n ≤ 9223372036854775807) (_m1 : -9223372036854775808 ≤ m) (_m2 : m ≤ 9223372036854775807) (HN : Hid ((N : Int) = (-(n + 1)) / 4)) (HK : Hid ((M : Int) = (-(m + 1)) / 4)) (w : World)
    (HE : Hid (∀ w, Calls Try.prog 9 #[] w fun e w' => e = .returned (.bool true) ∧ Below w.heap.size w w'))
    (HA : Hid (∀ w, Calls Try.prog 29 #[.agg #[.int .i64 a, .int .i64 b]] w fun e w' => e = .returned (.agg #[.int .i64 x, .int .i64 y]) ∧ Below w.heap.size w w'))
    (P1 : Hid (∀ vv : Int, vv = (N : Int) → ∀ w, Calls Try.prog 19 #[.agg #[.int .i64 x, .int .i64 y], .int .i64 vv] w fun e w' => e = .returned (.tuple #[.agg #[.int .i64 p, .int .i64 q], .int .i64 0]) ∧ Below w.heap.size w w'))
    (P2 : Hid (∀ vv : Int, vv = (M : Int) → ∀ w, Calls Try.prog 19 #[.agg #[.int .i64 x, .int .i64 y], .int .i64 vv] w fun e w' => e = .returned (.tuple #[.agg #[.int .i64 r, .int .i64 s], .int .i64 0]) ∧ Below w.heap.size w w'))
    (P3 : Hid (∀ vv : Int, vv = (N : Int) + (M : Int) → ∀ w, Calls Try.prog 19 #[.agg #[.int .i64 x, .int .i64 y], .int .i64 vv] w fun e w' => e = .returned (.tuple #[.agg #[.int .i64 u, .int .i64 v], .int .i64 0]) ∧ Below w.heap.size w w'))
    (HM : Hid (∀ w, Calls Try.prog 13 #[.agg #[.int .i64 p, .int .i64 q], .agg #[.int .i64 r, .int .i64 s]] w fun e w' => e = .returned (.tuple #[.agg #[.int .i64 u, .int .i64 v], .int .i64 0]) ∧ Below w.heap.size w w'))
    (HI : Hid (∀ w, Calls Try.prog 20 #[.agg #[.int .i64 x, .int .i64 y]] w fun e w' => e = .returned (.tuple #[.agg #[.int .i64 i, .int .i64 j], .int .i64 0]) ∧ Below w.heap.size w w'))
    (HO : Hid (∀ w, Calls Try.prog 13 #[.agg #[.int .i64 x, .int .i64 y], .agg #[.int .i64 i, .int .i64 j]] w fun e w' => e = .returned (.tuple #[.agg #[.int .i64 1, .int .i64 0], .int .i64 0]) ∧ Below w.heap.size w w')) :
    Calls Try.prog 7 #[.agg #[.int .i64 a, .int .i64 b], .int .i64 n, .int .i64 m] w fun e w' => e = .returned (.bool true) ∧ Below w.heap.size w w' := by
  have QN := hide (quarter n hn _n1)
  have QM := hide (quarter m hm _m1)
  go_enter Try.func7, Try.ntmps7
  go_wp2_with fail
  refine (HE.out _).mono ?_
  rintro e w1 ⟨rfl, bb⟩
  have A : Hid (Held w1 (w.heap.size) (a) (b)) := (Held.at _ (a) (b) _ rfl).below bb
  have B := hide (bpast (below_new (Below.refl _ w) _) bb)
  clear bb
  have ac0 := A.out.c0
  have ac1 := A.out.c1
  go_wp2_with fail
  refine (HA.out _).mono ?_
  rintro e w2 ⟨rfl, bb⟩
  clear ac0 ac1
  replace A := hide (A.out.past bb)
  replace B := hide (bpast B.out bb)
  clear bb
  have ac0 := A.out.c0
  have ac1 := A.out.c1
  have af0 := A.out.f0
  have af1 := A.out.f1
  go_wp2_with fail
  refine (P1.out _ (by have := HN.out; have := HK.out; have := QN.out; have := QM.out; omega) _).mono ?_
  rintro e w3 ⟨rfl, bb⟩
  clear ac0 ac1 af0 af1
  replace A := hide ((A.out.put (x) (y)).past bb)
  replace B := hide (bpast (below_box B.out (w.heap.size) (by omega) (.int .i64 (x)) (.int .i64 (y))) bb)
  clear bb
  have ac0 := fun o0 => (A.out.alloc o0).c0
  have ac1 := fun o0 => (A.out.alloc o0).c1
  go_wp2_with fail
  refine (P2.out _ (by have := HN.out; have := HK.out; have := QN.out; have := QM.out; omega) _).mono ?_
  rintro e w4 ⟨rfl, bb⟩
  clear ac0 ac1
  replace A := hide ((A.out.alloc _).past bb)
  have X : Hid (Held w4 (w3.heap.size) (p) (q)) := (Held.at _ (p) (q) _ rfl).below bb
  replace B := hide (bpast (below_new B.out _) bb)
  clear bb
  generalize w3.heap.size = bX at *
  have ac0 := fun o0 => (A.out.alloc o0).c0
  have ac1 := fun o0 => (A.out.alloc o0).c1
  go_wp2_with fail
  refine (P3.out _ (by have := HN.out; have := HK.out; rw [QN.out]; rw [QM.out]; first | omega | (rw [IntWalk.wrap64_in _ (by omega)]; omega)) _).mono ?_
  rintro e w5 ⟨rfl, bb⟩
  clear ac0 ac1
  replace A := hide ((A.out.alloc _).past bb)
  replace X := hide ((X.out.alloc _).past bb)
  have Y : Hid (Held w5 (w4.heap.size) (r) (s)) := (Held.at _ (r) (s) _ rfl).below bb
  replace B := hide (bpast (below_new B.out _) bb)
  clear bb
  generalize w4.heap.size = bY at *
  have xc0 := fun o0 => (X.out.alloc o0).c0
  have xc1 := fun o0 => (X.out.alloc o0).c1
  have yc0 := fun o0 => (Y.out.alloc o0).c0
  have yc1 := fun o0 => (Y.out.alloc o0).c1
  go_wp2_with fail
  refine (HM.out _).mono ?_
  rintro e w6 ⟨rfl, bb⟩
  clear xc0 xc1 yc0 yc1
  replace A := hide ((A.out.alloc _).past bb)
  replace X := hide ((X.out.alloc _).past bb)
  replace Y := hide ((Y.out.alloc _).past bb)
  have Z : Hid (Held w6 (w5.heap.size) (u) (v)) := (Held.at _ (u) (v) _ rfl).below bb
  replace B := hide (bpast (below_new B.out _) bb)
  clear bb
  generalize w5.heap.size = bZ at *
  have ac0 := fun o0 => (A.out.alloc o0).c0
  have ac1 := fun o0 => (A.out.alloc o0).c1
  go_wp2_with fail
  refine (HI.out _).mono ?_
  rintro e w7 ⟨rfl, bb⟩
  clear ac0 ac1
  replace A := hide ((A.out.alloc _).past bb)
  replace X := hide ((X.out.alloc _).past bb)
  replace Y := hide ((Y.out.alloc _).past bb)
  replace Z := hide ((Z.out.alloc _).past bb)
  have PP : Hid (Held w7 (w6.heap.size) (u) (v)) := (Held.at _ (u) (v) _ rfl).below bb
  replace B := hide (bpast (below_new B.out _) bb)
  clear bb
  generalize w6.heap.size = bPP at *
  have ac0 := fun o0 => (A.out.alloc o0).c0
  have ac1 := fun o0 => (A.out.alloc o0).c1
  go_wp2_with fail
  refine (HO.out _).mono ?_
  rintro e w8 ⟨rfl, bb⟩
  clear ac0 ac1
  replace A := hide ((A.out.alloc _).past bb)
  replace X := hide ((X.out.alloc _).past bb)
  replace Y := hide ((Y.out.alloc _).past bb)
  replace Z := hide ((Z.out.alloc _).past bb)
  replace PP := hide ((PP.out.alloc _).past bb)
  have I : Hid (Held w8 (w7.heap.size) (i) (j)) := (Held.at _ (i) (j) _ rfl).below bb
  replace B := hide (bpast (below_new B.out _) bb)
  clear bb
  generalize w7.heap.size = bI at *
  have ppc0 := fun o0 => (PP.out.alloc o0).c0
  have ppc1 := fun o0 => (PP.out.alloc o0).c1
  have zc0 := fun o0 => (Z.out.alloc o0).c0
  have zc1 := fun o0 => (Z.out.alloc o0).c1
  go_wp2
  go_ret
  exact ⟨rfl, (below_new B.out _)⟩

set_option maxHeartbeats 1000000 in
theorem inv_core111 (a b n m y p q r s u v i j : Int) (N M : Nat) (hy : ¬ y = 0) (hn : n < 0) (hm : m < 0) (_n1 : -9223372036854775808 ≤ n) (_n2 : n ≤ 9223372036854775807) (_m1 : -9223372036854775808 ≤ m) (_m2 : m ≤ 9223372036854775807) (HN : Hid ((N : Int) = (-(n + 1)) / 4)) (HK : Hid ((M : Int) = (-(m + 1)) / 4)) (w : World)
    (HE : Hid (∀ w, Calls Try.prog 9 #[] w fun e w' => e = .returned (.bool true) ∧ Below w.heap.size w w'))
    (HA : Hid (∀ w, Calls Try.prog 29 #[.agg #[.int .i64 a, .int .i64 b]] w fun e w' => e = .returned (.agg #[.int .i64 0, .int .i64 y]) ∧ Below w.heap.size w w'))
    (P1 : Hid (∀ vv : Int, vv = (N : Int) → ∀ w, Calls Try.prog 19 #[.agg #[.int .i64 0, .int .i64 y], .int .i64 vv] w fun e w' => e = .returned (.tuple #[.agg #[.int .i64 p, .int .i64 q], .int .i64 0]) ∧ Below w.heap.size w w'))
    (P2 : Hid (∀ vv : Int, vv = (M : Int) → ∀ w, Calls Try.prog 19 #[.agg #[.int .i64 0, .int .i64 y], .int .i64 vv] w fun e w' => e = .returned (.tuple #[.agg #[.int .i64 r, .int .i64 s], .int .i64 0]) ∧ Below w.heap.size w w'))
    (P3 : Hid (∀ vv : Int, vv = (N : Int) + (M : Int) → ∀ w, Calls Try.prog 19 #[.agg #[.int .i64 0, .int .i64 y], .int .i64 vv] w fun e w' => e = .returned (.tuple #[.agg #[.int .i64 u, .int .i64 v], .int .i64 0]) ∧ Below w.heap.size w w'))
    (HM : Hid (∀ w, Calls Try.prog 13 #[.agg #[.int .i64 p, .int .i64 q], .agg #[.int .i64 r, .int .i64 s]] w fun e w' => e = .returned (.tuple #[.agg #[.int .i64 u, .int .i64 v], .int .i64 0]) ∧ Below w.heap.size w w'))
    (HI : Hid (∀ w, Calls Try.prog 20 #[.agg #[.int .i64 0, .int .i64 y]] w fun e w' => e = .returned (.tuple #[.agg #[.int .i64 i, .int .i64 j], .int .i64 0]) ∧ Below w.heap.size w w'))
    (HO : Hid (∀ w, Calls Try.prog 13 #[.agg #[.int .i64 0, .int .i64 y], .agg #[.int .i64 i, .int .i64 j]] w fun e w' => e = .returned (.tuple #[.agg #[.int .i64 1, .int .i64 0], .int .i64 0]) ∧ Below w.heap.size w w')) :
    Calls Try.prog 7 #[.agg #[.int .i64 a, .int .i64 b], .int .i64 n, .int .i64 m] w fun e w' => e = .returned (.bool true) ∧ Below w.heap.size w w' := by
  have QN := hide (quarter n hn _n1)
  have QM := hide (quarter m hm _m1)
  go_enter Try.func7, Try.ntmps7
  go_wp2_with fail
  refine (HE.out _).mono ?_
  rintro e w1 ⟨rfl, bb⟩
  have A : Hid (Held w1 (w.heap.size) (a) (b)) := (Held.at _ (a) (b) _ rfl).below bb
  have B := hide (bpast (below_new (Below.refl _ w) _) bb)
  clear bb
  have ac0 := A.out.c0
  have ac1 := A.out.c1
  go_wp2_with fail
  refine (HA.out _).mono ?_
  rintro e w2 ⟨rfl, bb⟩
  clear ac0 ac1
  replace A := hide (A.out.past bb)
  replace B := hide (bpast B.out bb)
  clear bb
  have ac0 := A.out.c0
  have ac1 := A.out.c1
  have af0 := A.out.f0
  have af1 := A.out.f1
  go_wp2_with fail
  refine (P1.out _ (by have := HN.out; have := HK.out; have := QN.out; have := QM.out; omega) _).mono ?_
  rintro e w3 ⟨rfl, bb⟩
  clear ac0 ac1 af0 af1
  replace A := hide ((A.out.put (0) (y)).past bb)
  replace B := hide (bpast (below_box B.out (w.heap.size) (by omega) (.int .i64 (0)) (.int .i64 (y))) bb)
  clear bb
  have ac0 := fun o0 => (A.out.alloc o0).c0
  have ac1 := fun o0 => (A.out.alloc o0).c1
  go_wp2_with fail
  refine (P2.out _ (by have := HN.out; have := HK.out; have := QN.out; have := QM.out; omega) _).mono ?_
  rintro e w4 ⟨rfl, bb⟩
  clear ac0 ac1
  replace A := hide ((A.out.alloc _).past bb)
  have X : Hid (Held w4 (w3.heap.size) (p) (q)) := (Held.at _ (p) (q) _ rfl).below bb
  replace B := hide (bpast (below_new B.out _) bb)
  clear bb
  generalize w3.heap.size = bX at *
  have ac0 := fun o0 => (A.out.alloc o0).c0
  have ac1 := fun o0 => (A.out.alloc o0).c1
  go_wp2_with fail
  refine (P3.out _ (by have := HN.out; have := HK.out; rw [QN.out]; rw [QM.out]; first | omega | (rw [IntWalk.wrap64_in _ (by omega)]; omega)) _).mono ?_
  rintro e w5 ⟨rfl, bb⟩
  clear ac0 ac1
  replace A := hide ((A.out.alloc _).past bb)
  replace X := hide ((X.out.alloc _).past bb)
  have Y : Hid (Held w5 (w4.heap.size) (r) (s)) := (Held.at _ (r) (s) _ rfl).below bb
  replace B := hide (bpast (below_new B.out _) bb)
  clear bb
  generalize w4.heap.size = bY at *
  have xc0 := fun o0 => (X.out.alloc o0).c0
  have xc1 := fun o0 => (X.out.alloc o0).c1
  have yc0 := fun o0 => (Y.out.alloc o0).c0
  have yc1 := fun o0 => (Y.out.alloc o0).c1
  go_wp2_with fail
  refine (HM.out _).mono ?_
  rintro e w6 ⟨rfl, bb⟩
  clear xc0 xc1 yc0 yc1
  replace A := hide ((A.out.alloc _).past bb)
  replace X := hide ((X.out.alloc _).past bb)
  replace Y := hide ((Y.out.alloc _).past bb)
  have Z : Hid (Held w6 (w5.heap.size) (u) (v)) := (Held.at _ (u) (v) _ rfl).below bb
  replace B := hide (bpast (below_new B.out _) bb)
  clear bb
  generalize w5.heap.size = bZ at *
  have ac0 := fun o0 => (A.out.alloc o0).c0
  have ac1 := fun o0 => (A.out.alloc o0).c1
  go_wp2_with fail
  refine (HI.out _).mono ?_
  rintro e w7 ⟨rfl, bb⟩
  clear ac0 ac1
  replace A := hide ((A.out.alloc _).past bb)
  replace X := hide ((X.out.alloc _).past bb)
  replace Y := hide ((Y.out.alloc _).past bb)
  replace Z := hide ((Z.out.alloc _).past bb)
  have PP : Hid (Held w7 (w6.heap.size) (u) (v)) := (Held.at _ (u) (v) _ rfl).below bb
  replace B := hide (bpast (below_new B.out _) bb)
  clear bb
  generalize w6.heap.size = bPP at *
  have ac0 := fun o0 => (A.out.alloc o0).c0
  have ac1 := fun o0 => (A.out.alloc o0).c1
  go_wp2_with fail
  refine (HO.out _).mono ?_
  rintro e w8 ⟨rfl, bb⟩
  clear ac0 ac1
  replace A := hide ((A.out.alloc _).past bb)
  replace X := hide ((X.out.alloc _).past bb)
  replace Y := hide ((Y.out.alloc _).past bb)
  replace Z := hide ((Z.out.alloc _).past bb)
  replace PP := hide ((PP.out.alloc _).past bb)
  have I : Hid (Held w8 (w7.heap.size) (i) (j)) := (Held.at _ (i) (j) _ rfl).below bb
  replace B := hide (bpast (below_new B.out _) bb)
  clear bb
  generalize w7.heap.size = bI at *
  have ppc0 := fun o0 => (PP.out.alloc o0).c0
  have ppc1 := fun o0 => (PP.out.alloc o0).c1
  have zc0 := fun o0 => (Z.out.alloc o0).c0
  have zc1 := fun o0 => (Z.out.alloc o0).c1
  go_wp2
  go_ret
  exact ⟨rfl, (below_new B.out _)⟩

set_option maxHeartbeats 1000000 in
theorem inv_core112 (a b n m p q r s u v : Int) (N M : Nat) (hn : n < 0) (hm : m < 0) (_n1 : -9223372036854775808 ≤ n) (_n2 : n ≤ 9223372036854775807) (_m1 : -9223372036854775808 ≤ m) (_m2 : m ≤ 9223372036854775807) (HN : Hid ((N : Int) = (-(n + 1)) / 4)) (HK : Hid ((M : Int) = (-(m + 1)) / 4)) (w : World)
    (HE : Hid (∀ w, Calls Try.prog 9 #[] w fun e w' => e = .returned (.bool true) ∧ Below w.heap.size w w'))
    (HA : Hid (∀ w, Calls Try.prog 29 #[.agg #[.int .i64 a, .int .i64 b]] w fun e w' => e = .returned (.agg #[.int .i64 0, .int .i64 0]) ∧ Below w.heap.size w w'))
    (P1 : Hid (∀ vv : Int, vv = (N : Int) → ∀ w, Calls Try.prog 19 #[.agg #[.int .i64 0, .int .i64 0], .int .i64 vv] w fun e w' => e = .returned (.tuple #[.agg #[.int .i64 p, .int .i64 q], .int .i64 0]) ∧ Below w.heap.size w w'))
    (P2 : Hid (∀ vv : Int, vv = (M : Int) → ∀ w, Calls Try.prog 19 #[.agg #[.int .i64 0, .int .i64 0], .int .i64 vv] w fun e w' => e = .returned (.tuple #[.agg #[.int .i64 r, .int .i64 s], .int .i64 0]) ∧ Below w.heap.size w w'))
    (P3 : Hid (∀ vv : Int, vv = (N : Int) + (M : Int) → ∀ w, Calls Try.prog 19 #[.agg #[.int .i64 0, .int .i64 0], .int .i64 vv] w fun e w' => e = .returned (.tuple #[.agg #[.int .i64 u, .int .i64 v], .int .i64 0]) ∧ Below w.heap.size w w'))
    (HM : Hid (∀ w, Calls Try.prog 13 #[.agg #[.int .i64 p, .int .i64 q], .agg #[.int .i64 r, .int .i64 s]] w fun e w' => e = .returned (.tuple #[.agg #[.int .i64 u, .int .i64 v], .int .i64 0]) ∧ Below w.heap.size w w'))
    (HI : Hid (∀ w, Calls Try.prog 20 #[.agg #[.int .i64 0, .int .i64 0]] w fun e w' => e = .returned (.tuple #[.agg #[.int .i64 0, .int .i64 0], .int .i64 7]) ∧ Below w.heap.size w w')) :
    Calls Try.prog 7 #[.agg #[.int .i64 a, .int .i64 b], .int .i64 n, .int .i64 m] w fun e w' => e = .returned (.bool true) ∧ Below w.heap.size w w' := by
  have QN := hide (quarter n hn _n1)
  have QM := hide (quarter m hm _m1)
  go_enter Try.func7, Try.ntmps7
  go_wp2_with fail
  refine (HE.out _).mono ?_
  rintro e w1 ⟨rfl, bb⟩
  have A : Hid (Held w1 (w.heap.size) (a) (b)) := (Held.at _ (a) (b) _ rfl).below bb
  have B := hide (bpast (below_new (Below.refl _ w) _) bb)
  clear bb
  have ac0 := A.out.c0
  have ac1 := A.out.c1
  go_wp2_with fail
  refine (HA.out _).mono ?_
  rintro e w2 ⟨rfl, bb⟩
  clear ac0 ac1
  replace A := hide (A.out.past bb)
  replace B := hide (bpast B.out bb)
  clear bb
  have ac0 := A.out.c0
  have ac1 := A.out.c1
  have af0 := A.out.f0
  have af1 := A.out.f1
  go_wp2_with fail
  refine (P1.out _ (by have := HN.out; have := HK.out; have := QN.out; have := QM.out; omega) _).mono ?_
  rintro e w3 ⟨rfl, bb⟩
  clear ac0 ac1 af0 af1
  replace A := hide ((A.out.put (0) (0)).past bb)
  replace B := hide (bpast (below_box B.out (w.heap.size) (by omega) (.int .i64 (0)) (.int .i64 (0))) bb)
  clear bb
  have ac0 := fun o0 => (A.out.alloc o0).c0
  have ac1 := fun o0 => (A.out.alloc o0).c1
  go_wp2_with fail
  refine (P2.out _ (by have := HN.out; have := HK.out; have := QN.out; have := QM.out; omega) _).mono ?_
  rintro e w4 ⟨rfl, bb⟩
  clear ac0 ac1
  replace A := hide ((A.out.alloc _).past bb)
  have X : Hid (Held w4 (w3.heap.size) (p) (q)) := (Held.at _ (p) (q) _ rfl).below bb
  replace B := hide (bpast (below_new B.out _) bb)
  clear bb
  generalize w3.heap.size = bX at *
  have ac0 := fun o0 => (A.out.alloc o0).c0
  have ac1 := fun o0 => (A.out.alloc o0).c1
  go_wp2_with fail
  refine (P3.out _ (by have := HN.out; have := HK.out; rw [QN.out]; rw [QM.out]; first | omega | (rw [IntWalk.wrap64_in _ (by omega)]; omega)) _).mono ?_
  rintro e w5 ⟨rfl, bb⟩
  clear ac0 ac1
  replace A := hide ((A.out.alloc _).past bb)
  replace X := hide ((X.out.alloc _).past bb)
  have Y : Hid (Held w5 (w4.heap.size) (r) (s)) := (Held.at _ (r) (s) _ rfl).below bb
  replace B := hide (bpast (below_new B.out _) bb)
  clear bb
  generalize w4.heap.size = bY at *
  have xc0 := fun o0 => (X.out.alloc o0).c0
  have xc1 := fun o0 => (X.out.alloc o0).c1
  have yc0 := fun o0 => (Y.out.alloc o0).c0
  have yc1 := fun o0 => (Y.out.alloc o0).c1
  go_wp2_with fail
  refine (HM.out _).mono ?_
  rintro e w6 ⟨rfl, bb⟩
  clear xc0 xc1 yc0 yc1
  replace A := hide ((A.out.alloc _).past bb)
  replace X := hide ((X.out.alloc _).past bb)
  replace Y := hide ((Y.out.alloc _).past bb)
  have Z : Hid (Held w6 (w5.heap.size) (u) (v)) := (Held.at _ (u) (v) _ rfl).below bb
  replace B := hide (bpast (below_new B.out _) bb)
  clear bb
  generalize w5.heap.size = bZ at *
  have ac0 := fun o0 => (A.out.alloc o0).c0
  have ac1 := fun o0 => (A.out.alloc o0).c1
  go_wp2_with fail
  refine (HI.out _).mono ?_
  rintro e w7 ⟨rfl, bb⟩
  clear ac0 ac1
  replace A := hide ((A.out.alloc _).past bb)
  replace X := hide ((X.out.alloc _).past bb)
  replace Y := hide ((Y.out.alloc _).past bb)
  replace Z := hide ((Z.out.alloc _).past bb)
  have PP : Hid (Held w7 (w6.heap.size) (u) (v)) := (Held.at _ (u) (v) _ rfl).below bb
  replace B := hide (bpast (below_new B.out _) bb)
  clear bb
  generalize w6.heap.size = bPP at *
  have ac0 := fun o0 => (A.out.alloc o0).c0
  have ac1 := fun o0 => (A.out.alloc o0).c1
  have ppc0 := fun o0 => (PP.out.alloc o0).c0
  have ppc1 := fun o0 => (PP.out.alloc o0).c1
  have zc0 := fun o0 => (Z.out.alloc o0).c0
  have zc1 := fun o0 => (Z.out.alloc o0).c1
  go_wp2
  go_ret
  exact ⟨rfl, (below_new B.out _)⟩

theorem inv_walk (a b n m : Int) (hn : -9223372036854775808 ≤ n ∧ n ≤ 9223372036854775807) (hm : -9223372036854775808 ≤ m ∧ m ≤ 9223372036854775807) (w : World) :
    Calls Try.prog 7 #[.agg #[.int .i64 a, .int .i64 b], .int .i64 n, .int .i64 m] w fun e w' => e = .returned (.bool true) ∧ Below w.heap.size w w' := by
  have key : ∀ (z : Pr), z.right → (∀ w, Calls Try.prog 29 #[.agg #[.int .i64 a, .int .i64 b]] w fun e w' => e = .returned (.agg #[.int .i64 z.re, .int .i64 z.im]) ∧ Below w.heap.size w w') →
      Calls Try.prog 7 #[.agg #[.int .i64 a, .int .i64 b], .int .i64 n, .int .i64 m] w fun e w' => e = .returned (.bool true) ∧ Below w.heap.size w w' := by
    intro z hz HA
    obtain ⟨N, hN⟩ : ∃ N : Nat, (N : Int) = if n < 0 then (-(n + 1)) / 4 else n / 4 := ⟨(if n < 0 then (-(n + 1)) / 4 else n / 4).toNat, by split <;> omega⟩
    obtain ⟨M, hM⟩ : ∃ M : Nat, (M : Int) = if m < 0 then (-(m + 1)) / 4 else m / 4 := ⟨(if m < 0 then (-(m + 1)) / 4 else m / 4).toNat, by split <;> omega⟩
    have bN : N < 4611686018427387904 := by split at hN <;> omega
    have bM : M < 4611686018427387904 := by split at hM <;> omega
    have pw : ∀ K : Nat, K < 9223372036854775808 → ∀ vv : Int, vv = (K : Int) → ∀ w, Calls Try.prog 19 #[.agg #[.int .i64 z.re, .int .i64 z.im], .int .i64 vv] w fun e w' => e = .returned (.tuple #[.agg #[.int .i64 (powP z K).re, .int .i64 (powP z K).im], .int .i64 0]) ∧ Below w.heap.size w w' := fun K hK vv h w => h ▸ Pow_right z K hz hK w
    have P1 := pw N (by omega)
    have P2 := pw M (by omega)
    have P3 : ∀ vv : Int, vv = (N : Int) + (M : Int) → ∀ w, Calls Try.prog 19 #[.agg #[.int .i64 z.re, .int .i64 z.im], .int .i64 vv] w fun e w' => e = .returned (.tuple #[.agg #[.int .i64 (powP z (N + M)).re, .int .i64 (powP z (N + M)).im], .int .i64 0]) ∧ Below w.heap.size w w' := fun vv h w => pw (N + M) (by omega) vv (by rw [h, Int.natCast_add]) w
    have HM : ∀ w, Calls Try.prog 13 #[.agg #[.int .i64 (powP z N).re, .int .i64 (powP z N).im], .agg #[.int .i64 (powP z M).re, .int .i64 (powP z M).im]] w fun e w' => e = .returned (.tuple #[.agg #[.int .i64 (powP z (N + M)).re, .int .i64 (powP z (N + M)).im], .int .i64 0]) ∧ Below w.heap.size w w' := fun w => by
      rw [← powP_add]
      exact Mul_right _ _ _ _ w (powP_right z N) (powP_right z M)
    by_cases h0 : z = Pr.zero
    · subst h0
      by_cases sn : n < 0 <;> by_cases sm : m < 0
      · rw [if_pos sn] at hN; rw [if_pos sm] at hM
        exact inv_core112 a b n m _ _ _ _ _ _ N M sn sm hn.1 hn.2 hm.1 hm.2 hN hM w examples_any HA P1 P2 P3 HM Inv_zero
      · rw [if_pos sn] at hN; rw [if_neg sm] at hM
        exact inv_core102 a b n m _ _ _ _ _ _ N M sn (by omega) hn.1 hn.2 hm.1 hm.2 hN hM w examples_any HA P1 P2 P3 HM Inv_zero
      · rw [if_neg sn] at hN; rw [if_pos sm] at hM
        exact inv_core012 a b n m _ _ _ _ _ _ N M (by omega) sm hn.1 hn.2 hm.1 hm.2 hN hM w examples_any HA P1 P2 P3 HM Inv_zero
      · rw [if_neg sn] at hN; rw [if_neg sm] at hM
        exact inv_core002 a b n m _ _ _ _ _ _ N M (by omega) (by omega) hn.1 hn.2 hm.1 hm.2 hN hM w examples_any HA P1 P2 P3 HM Inv_zero
    · have HI := Inv_right z hz h0
      have HO : ∀ w, Calls Try.prog 13 #[.agg #[.int .i64 z.re, .int .i64 z.im], .agg #[.int .i64 (invP z).re, .int .i64 (invP z).im]] w fun e w' => e = .returned (.tuple #[.agg #[.int .i64 1, .int .i64 0], .int .i64 0]) ∧ Below w.heap.size w w' := fun w => by
        have h : Calls Try.prog 13 #[.agg #[.int .i64 z.re, .int .i64 z.im], .agg #[.int .i64 (invP z).re, .int .i64 (invP z).im]] w fun e w' => e = .returned (.tuple #[.agg #[.int .i64 (mulP z (invP z)).re, .int .i64 (mulP z (invP z)).im], .int .i64 0]) ∧ Below w.heap.size w w' := Mul_right _ _ _ _ w hz (invP_right z)
        rw [inv_mul z hz h0] at h
        exact h
      generalize invP z = i at *
      generalize powP z N = p1 at *
      generalize powP z M = p2 at *
      generalize powP z (N + M) = p3 at *
      clear pw
      obtain ⟨x, y⟩ := z
      by_cases hx : x = 0
      · subst hx
        have hy : ¬ y = 0 := fun hy => h0 (by subst hy; rfl)
        by_cases sn : n < 0 <;> by_cases sm : m < 0
        · rw [if_pos sn] at hN; rw [if_pos sm] at hM
          exact inv_core111 a b n m y _ _ _ _ _ _ _ _ N M hy sn sm hn.1 hn.2 hm.1 hm.2 hN hM w examples_any HA P1 P2 P3 HM HI HO
        · rw [if_pos sn] at hN; rw [if_neg sm] at hM
          exact inv_core101 a b n m y _ _ _ _ _ _ _ _ N M hy sn (by omega) hn.1 hn.2 hm.1 hm.2 hN hM w examples_any HA P1 P2 P3 HM HI HO
        · rw [if_neg sn] at hN; rw [if_pos sm] at hM
          exact inv_core011 a b n m y _ _ _ _ _ _ _ _ N M hy (by omega) sm hn.1 hn.2 hm.1 hm.2 hN hM w examples_any HA P1 P2 P3 HM HI HO
        · rw [if_neg sn] at hN; rw [if_neg sm] at hM
          exact inv_core001 a b n m y _ _ _ _ _ _ _ _ N M hy (by omega) (by omega) hn.1 hn.2 hm.1 hm.2 hN hM w examples_any HA P1 P2 P3 HM HI HO
      · by_cases sn : n < 0 <;> by_cases sm : m < 0
        · rw [if_pos sn] at hN; rw [if_pos sm] at hM
          exact inv_core110 a b n m x y _ _ _ _ _ _ _ _ N M hx sn sm hn.1 hn.2 hm.1 hm.2 hN hM w examples_any HA P1 P2 P3 HM HI HO
        · rw [if_pos sn] at hN; rw [if_neg sm] at hM
          exact inv_core100 a b n m x y _ _ _ _ _ _ _ _ N M hx sn (by omega) hn.1 hn.2 hm.1 hm.2 hN hM w examples_any HA P1 P2 P3 HM HI HO
        · rw [if_neg sn] at hN; rw [if_pos sm] at hM
          exact inv_core010 a b n m x y _ _ _ _ _ _ _ _ N M hx (by omega) sm hn.1 hn.2 hm.1 hm.2 hN hM w examples_any HA P1 P2 P3 HM HI HO
        · rw [if_neg sn] at hN; rw [if_neg sm] at hM
          exact inv_core000 a b n m x y _ _ _ _ _ _ _ _ N M hx (by omega) (by omega) hn.1 hn.2 hm.1 hm.2 hN hM w examples_any HA P1 P2 P3 HM HI HO
  exact key ⟨a % 33554383, b % 33554383⟩ (right_pr a b) (right_any a b)

end Go.Proofs.Ytjkediidbbpnjaa
