/-
  GaussLaws as it runs.
-/
import Derived.Test.YtjkediidbbpnjaaPut
namespace Go.Proofs.Ytjkediidbbpnjaa
open Go.RowKit Go.Sort

set_option maxHeartbeats 2000000 in
theorem laws_core (a1 b1 a2 b2 a3 b3 x1 y1 x2 y2 x3 y3 p q r s u v g h i j k l : Int) (w : World)
    (HE : Hid (∀ w, Calls Try.prog 9 #[] w fun e w' => e = .returned (.bool true) ∧ Below w.heap.size w w'))
    (HA : Hid (∀ w, Calls Try.prog 29 #[.agg #[.int .i64 a1, .int .i64 b1]] w fun e w' => e = .returned (.agg #[.int .i64 x1, .int .i64 y1]) ∧ Below w.heap.size w w'))
    (HB : Hid (∀ w, Calls Try.prog 29 #[.agg #[.int .i64 a2, .int .i64 b2]] w fun e w' => e = .returned (.agg #[.int .i64 x2, .int .i64 y2]) ∧ Below w.heap.size w w'))
    (HC : Hid (∀ w, Calls Try.prog 29 #[.agg #[.int .i64 a3, .int .i64 b3]] w fun e w' => e = .returned (.agg #[.int .i64 x3, .int .i64 y3]) ∧ Below w.heap.size w w'))
    (M1 : Hid (∀ w, Calls Try.prog 13 #[.agg #[.int .i64 x1, .int .i64 y1], .agg #[.int .i64 x2, .int .i64 y2]] w fun e w' => e = .returned (.tuple #[.agg #[.int .i64 p, .int .i64 q], .int .i64 0]) ∧ Below w.heap.size w w'))
    (M2 : Hid (∀ w, Calls Try.prog 13 #[.agg #[.int .i64 x2, .int .i64 y2], .agg #[.int .i64 x1, .int .i64 y1]] w fun e w' => e = .returned (.tuple #[.agg #[.int .i64 p, .int .i64 q], .int .i64 0]) ∧ Below w.heap.size w w'))
    (M3 : Hid (∀ w, Calls Try.prog 13 #[.agg #[.int .i64 x2, .int .i64 y2], .agg #[.int .i64 x3, .int .i64 y3]] w fun e w' => e = .returned (.tuple #[.agg #[.int .i64 r, .int .i64 s], .int .i64 0]) ∧ Below w.heap.size w w'))
    (M4 : Hid (∀ w, Calls Try.prog 13 #[.agg #[.int .i64 p, .int .i64 q], .agg #[.int .i64 x3, .int .i64 y3]] w fun e w' => e = .returned (.tuple #[.agg #[.int .i64 u, .int .i64 v], .int .i64 0]) ∧ Below w.heap.size w w'))
    (M5 : Hid (∀ w, Calls Try.prog 13 #[.agg #[.int .i64 x1, .int .i64 y1], .agg #[.int .i64 r, .int .i64 s]] w fun e w' => e = .returned (.tuple #[.agg #[.int .i64 u, .int .i64 v], .int .i64 0]) ∧ Below w.heap.size w w'))
    (S1 : Hid (∀ w, Calls Try.prog 11 #[.agg #[.int .i64 x2, .int .i64 y2], .agg #[.int .i64 x3, .int .i64 y3]] w fun e w' => e = .returned (.tuple #[.agg #[.int .i64 g, .int .i64 h], .int .i64 0]) ∧ Below w.heap.size w w'))
    (M6 : Hid (∀ w, Calls Try.prog 13 #[.agg #[.int .i64 x1, .int .i64 y1], .agg #[.int .i64 g, .int .i64 h]] w fun e w' => e = .returned (.tuple #[.agg #[.int .i64 i, .int .i64 j], .int .i64 0]) ∧ Below w.heap.size w w'))
    (M7 : Hid (∀ w, Calls Try.prog 13 #[.agg #[.int .i64 x1, .int .i64 y1], .agg #[.int .i64 x3, .int .i64 y3]] w fun e w' => e = .returned (.tuple #[.agg #[.int .i64 k, .int .i64 l], .int .i64 0]) ∧ Below w.heap.size w w'))
    (S2 : Hid (∀ w, Calls Try.prog 11 #[.agg #[.int .i64 p, .int .i64 q], .agg #[.int .i64 k, .int .i64 l]] w fun e w' => e = .returned (.tuple #[.agg #[.int .i64 i, .int .i64 j], .int .i64 0]) ∧ Below w.heap.size w w'))
    (S3 : Hid (∀ w, Calls Try.prog 12 #[.agg #[.int .i64 g, .int .i64 h], .agg #[.int .i64 x3, .int .i64 y3]] w fun e w' => e = .returned (.tuple #[.agg #[.int .i64 x2, .int .i64 y2], .int .i64 0]) ∧ Below w.heap.size w w')) :
    Calls Try.prog 6 #[.agg #[.int .i64 a1, .int .i64 b1], .agg #[.int .i64 a2, .int .i64 b2], .agg #[.int .i64 a3, .int .i64 b3]] w fun e w' => e = .returned (.bool true) ∧ Below w.heap.size w w' := by
  go_enter Try.func6, Try.ntmps6
  go_wp2_with fail
  refine (HE.out _).mono ?_
  rintro e w1 ⟨rfl, bb⟩
  have A : Hid (Held w1 (w.heap.size) (a1) (b1)) := (((Held.at _ (a1) (b1) _ rfl).alloc _).alloc _).below bb
  have C : Hid (Held w1 (w.heap.size + 1) (a2) (b2)) := ((Held.at _ (a2) (b2) _ (by simp)).alloc _).below bb
  have E : Hid (Held w1 (w.heap.size + 1 + 1) (a3) (b3)) := (Held.at _ (a3) (b3) _ (by simp)).below bb
  have B := hide (bpast (below_new (below_new (below_new (Below.refl _ w) _) _) _) bb)
  clear bb
  have ac0 := A.out.c0
  have ac1 := A.out.c1
  go_wp2_with fail
  refine (HA.out _).mono ?_
  rintro e w2 ⟨rfl, bb⟩
  clear ac0 ac1
  replace A := hide (A.out.past bb)
  replace C := hide (C.out.past bb)
  replace E := hide (E.out.past bb)
  replace B := hide (bpast B.out bb)
  clear bb
  have cc0 := C.out.c0
  have cc1 := C.out.c1
  have ac0 := A.out.c0
  have ac1 := A.out.c1
  have af0 := A.out.f0
  have af1 := A.out.f1
  go_wp2_with fail
  refine (HB.out _).mono ?_
  rintro e w3 ⟨rfl, bb⟩
  clear cc0 cc1 ac0 ac1 af0 af1
  replace A := hide ((A.out.put (x1) (y1)).past bb)
  replace C := hide ((C.out.apart (w.heap.size) (by omega) (.int .i64 (x1)) (.int .i64 (y1))).past bb)
  replace E := hide ((E.out.apart (w.heap.size) (by omega) (.int .i64 (x1)) (.int .i64 (y1))).past bb)
  replace B := hide (bpast (below_box B.out (w.heap.size) (by omega) (.int .i64 (x1)) (.int .i64 (y1))) bb)
  clear bb
  have ec0 := E.out.c0
  have ec1 := E.out.c1
  have cc0 := C.out.c0
  have cc1 := C.out.c1
  have cf0 := C.out.f0
  have cf1 := C.out.f1
  go_wp2_with fail
  refine (HC.out _).mono ?_
  rintro e w4 ⟨rfl, bb⟩
  clear ec0 ec1 cc0 cc1 cf0 cf1
  replace A := hide ((A.out.apart (w.heap.size + 1) (by omega) (.int .i64 (x2)) (.int .i64 (y2))).past bb)
  replace C := hide ((C.out.put (x2) (y2)).past bb)
  replace E := hide ((E.out.apart (w.heap.size + 1) (by omega) (.int .i64 (x2)) (.int .i64 (y2))).past bb)
  replace B := hide (bpast (below_box B.out (w.heap.size + 1) (by omega) (.int .i64 (x2)) (.int .i64 (y2))) bb)
  clear bb
  have ac0 := A.out.c0
  have ac1 := A.out.c1
  have cc0 := C.out.c0
  have cc1 := C.out.c1
  have ec0 := E.out.c0
  have ec1 := E.out.c1
  have ef0 := E.out.f0
  have ef1 := E.out.f1
  go_wp2_with fail
  refine (M1.out _).mono ?_
  rintro e w5 ⟨rfl, bb⟩
  clear ac0 ac1 cc0 cc1 ec0 ec1 ef0 ef1
  replace A := hide ((A.out.apart (w.heap.size + 1 + 1) (by omega) (.int .i64 (x3)) (.int .i64 (y3))).past bb)
  replace C := hide ((C.out.apart (w.heap.size + 1 + 1) (by omega) (.int .i64 (x3)) (.int .i64 (y3))).past bb)
  replace E := hide ((E.out.put (x3) (y3)).past bb)
  replace B := hide (bpast (below_box B.out (w.heap.size + 1 + 1) (by omega) (.int .i64 (x3)) (.int .i64 (y3))) bb)
  clear bb
  have cc0 := fun o0 => (C.out.alloc o0).c0
  have cc1 := fun o0 => (C.out.alloc o0).c1
  have ac0 := fun o0 => (A.out.alloc o0).c0
  have ac1 := fun o0 => (A.out.alloc o0).c1
  go_wp2_with fail
  refine (M2.out _).mono ?_
  rintro e w6 ⟨rfl, bb⟩
  clear cc0 cc1 ac0 ac1
  replace A := hide ((A.out.alloc _).past bb)
  replace C := hide ((C.out.alloc _).past bb)
  replace E := hide ((E.out.alloc _).past bb)
  have AB : Hid (Held w6 (w5.heap.size) (p) (q)) := (Held.at _ (p) (q) _ rfl).below bb
  replace B := hide (bpast (below_new B.out _) bb)
  clear bb
  generalize w5.heap.size = bAB at *
  have cc0 := fun o0 => (C.out.alloc o0).c0
  have cc1 := fun o0 => (C.out.alloc o0).c1
  have ec0 := fun o0 => (E.out.alloc o0).c0
  have ec1 := fun o0 => (E.out.alloc o0).c1
  go_wp2_with fail
  refine (M3.out _).mono ?_
  rintro e w7 ⟨rfl, bb⟩
  clear cc0 cc1 ec0 ec1
  replace A := hide ((A.out.alloc _).past bb)
  replace C := hide ((C.out.alloc _).past bb)
  replace E := hide ((E.out.alloc _).past bb)
  replace AB := hide ((AB.out.alloc _).past bb)
  have BA : Hid (Held w7 (w6.heap.size) (p) (q)) := (Held.at _ (p) (q) _ rfl).below bb
  replace B := hide (bpast (below_new B.out _) bb)
  clear bb
  generalize w6.heap.size = bBA at *
  have abc0 := fun o0 => (AB.out.alloc o0).c0
  have abc1 := fun o0 => (AB.out.alloc o0).c1
  have ec0 := fun o0 => (E.out.alloc o0).c0
  have ec1 := fun o0 => (E.out.alloc o0).c1
  go_wp2_with fail
  refine (M4.out _).mono ?_
  rintro e w8 ⟨rfl, bb⟩
  clear abc0 abc1 ec0 ec1
  replace A := hide ((A.out.alloc _).past bb)
  replace C := hide ((C.out.alloc _).past bb)
  replace E := hide ((E.out.alloc _).past bb)
  replace AB := hide ((AB.out.alloc _).past bb)
  replace BA := hide ((BA.out.alloc _).past bb)
  have BC : Hid (Held w8 (w7.heap.size) (r) (s)) := (Held.at _ (r) (s) _ rfl).below bb
  replace B := hide (bpast (below_new B.out _) bb)
  clear bb
  generalize w7.heap.size = bBC at *
  have ac0 := fun o0 => (A.out.alloc o0).c0
  have ac1 := fun o0 => (A.out.alloc o0).c1
  have bcc0 := fun o0 => (BC.out.alloc o0).c0
  have bcc1 := fun o0 => (BC.out.alloc o0).c1
  go_wp2_with fail
  refine (M5.out _).mono ?_
  rintro e w9 ⟨rfl, bb⟩
  clear ac0 ac1 bcc0 bcc1
  replace A := hide ((A.out.alloc _).past bb)
  replace C := hide ((C.out.alloc _).past bb)
  replace E := hide ((E.out.alloc _).past bb)
  replace AB := hide ((AB.out.alloc _).past bb)
  replace BA := hide ((BA.out.alloc _).past bb)
  replace BC := hide ((BC.out.alloc _).past bb)
  have ON : Hid (Held w9 (w8.heap.size) (u) (v)) := (Held.at _ (u) (v) _ rfl).below bb
  replace B := hide (bpast (below_new B.out _) bb)
  clear bb
  generalize w8.heap.size = bON at *
  have cc0 := fun o0 => (C.out.alloc o0).c0
  have cc1 := fun o0 => (C.out.alloc o0).c1
  have ec0 := fun o0 => (E.out.alloc o0).c0
  have ec1 := fun o0 => (E.out.alloc o0).c1
  go_wp2_with fail
  refine (S1.out _).mono ?_
  rintro e w10 ⟨rfl, bb⟩
  clear cc0 cc1 ec0 ec1
  replace A := hide ((A.out.alloc _).past bb)
  replace C := hide ((C.out.alloc _).past bb)
  replace E := hide ((E.out.alloc _).past bb)
  replace AB := hide ((AB.out.alloc _).past bb)
  replace BA := hide ((BA.out.alloc _).past bb)
  replace BC := hide ((BC.out.alloc _).past bb)
  replace ON := hide ((ON.out.alloc _).past bb)
  have TW : Hid (Held w10 (w9.heap.size) (u) (v)) := (Held.at _ (u) (v) _ rfl).below bb
  replace B := hide (bpast (below_new B.out _) bb)
  clear bb
  generalize w9.heap.size = bTW at *
  have ac0 := fun o0 => (A.out.alloc o0).c0
  have ac1 := fun o0 => (A.out.alloc o0).c1
  go_wp2_with fail
  refine (M6.out _).mono ?_
  rintro e w11 ⟨rfl, bb⟩
  clear ac0 ac1
  replace A := hide ((A.out.alloc _).past bb)
  replace C := hide ((C.out.alloc _).past bb)
  replace E := hide ((E.out.alloc _).past bb)
  replace AB := hide ((AB.out.alloc _).past bb)
  replace BA := hide ((BA.out.alloc _).past bb)
  replace BC := hide ((BC.out.alloc _).past bb)
  replace ON := hide ((ON.out.alloc _).past bb)
  replace TW := hide ((TW.out.alloc _).past bb)
  have S : Hid (Held w11 (w10.heap.size) (g) (h)) := (Held.at _ (g) (h) _ rfl).below bb
  replace B := hide (bpast (below_new B.out _) bb)
  clear bb
  generalize w10.heap.size = bS at *
  have ac0 := fun o0 => (A.out.alloc o0).c0
  have ac1 := fun o0 => (A.out.alloc o0).c1
  have ec0 := fun o0 => (E.out.alloc o0).c0
  have ec1 := fun o0 => (E.out.alloc o0).c1
  go_wp2_with fail
  refine (M7.out _).mono ?_
  rintro e w12 ⟨rfl, bb⟩
  clear ac0 ac1 ec0 ec1
  replace A := hide ((A.out.alloc _).past bb)
  replace C := hide ((C.out.alloc _).past bb)
  replace E := hide ((E.out.alloc _).past bb)
  replace AB := hide ((AB.out.alloc _).past bb)
  replace BA := hide ((BA.out.alloc _).past bb)
  replace BC := hide ((BC.out.alloc _).past bb)
  replace ON := hide ((ON.out.alloc _).past bb)
  replace TW := hide ((TW.out.alloc _).past bb)
  replace S := hide ((S.out.alloc _).past bb)
  have D : Hid (Held w12 (w11.heap.size) (i) (j)) := (Held.at _ (i) (j) _ rfl).below bb
  replace B := hide (bpast (below_new B.out _) bb)
  clear bb
  generalize w11.heap.size = bD at *
  have abc0 := fun o0 => (AB.out.alloc o0).c0
  have abc1 := fun o0 => (AB.out.alloc o0).c1
  go_wp2_with fail
  refine (S2.out _).mono ?_
  rintro e w13 ⟨rfl, bb⟩
  clear abc0 abc1
  replace A := hide ((A.out.alloc _).past bb)
  replace C := hide ((C.out.alloc _).past bb)
  replace E := hide ((E.out.alloc _).past bb)
  replace AB := hide ((AB.out.alloc _).past bb)
  replace BA := hide ((BA.out.alloc _).past bb)
  replace BC := hide ((BC.out.alloc _).past bb)
  replace ON := hide ((ON.out.alloc _).past bb)
  replace TW := hide ((TW.out.alloc _).past bb)
  replace S := hide ((S.out.alloc _).past bb)
  replace D := hide ((D.out.alloc _).past bb)
  have AC : Hid (Held w13 (w12.heap.size) (k) (l)) := (Held.at _ (k) (l) _ rfl).below bb
  replace B := hide (bpast (below_new B.out _) bb)
  clear bb
  generalize w12.heap.size = bAC at *
  have sc0 := fun o0 => (S.out.alloc o0).c0
  have sc1 := fun o0 => (S.out.alloc o0).c1
  have ec0 := fun o0 => (E.out.alloc o0).c0
  have ec1 := fun o0 => (E.out.alloc o0).c1
  go_wp2_with fail
  refine (S3.out _).mono ?_
  rintro e w14 ⟨rfl, bb⟩
  clear sc0 sc1 ec0 ec1
  replace A := hide ((A.out.alloc _).past bb)
  replace C := hide ((C.out.alloc _).past bb)
  replace E := hide ((E.out.alloc _).past bb)
  replace AB := hide ((AB.out.alloc _).past bb)
  replace BA := hide ((BA.out.alloc _).past bb)
  replace BC := hide ((BC.out.alloc _).past bb)
  replace ON := hide ((ON.out.alloc _).past bb)
  replace TW := hide ((TW.out.alloc _).past bb)
  replace S := hide ((S.out.alloc _).past bb)
  replace D := hide ((D.out.alloc _).past bb)
  replace AC := hide ((AC.out.alloc _).past bb)
  have EE : Hid (Held w14 (w13.heap.size) (i) (j)) := (Held.at _ (i) (j) _ rfl).below bb
  replace B := hide (bpast (below_new B.out _) bb)
  clear bb
  generalize w13.heap.size = bEE at *
  have abc0 := fun o0 => (AB.out.alloc o0).c0
  have abc1 := fun o0 => (AB.out.alloc o0).c1
  have bac0 := fun o0 => (BA.out.alloc o0).c0
  have bac1 := fun o0 => (BA.out.alloc o0).c1
  have onc0 := fun o0 => (ON.out.alloc o0).c0
  have onc1 := fun o0 => (ON.out.alloc o0).c1
  have twc0 := fun o0 => (TW.out.alloc o0).c0
  have twc1 := fun o0 => (TW.out.alloc o0).c1
  have dc0 := fun o0 => (D.out.alloc o0).c0
  have dc1 := fun o0 => (D.out.alloc o0).c1
  have eec0 := fun o0 => (EE.out.alloc o0).c0
  have eec1 := fun o0 => (EE.out.alloc o0).c1
  have cc0 := fun o0 => (C.out.alloc o0).c0
  have cc1 := fun o0 => (C.out.alloc o0).c1
  go_wp2
  go_ret
  exact ⟨rfl, (below_new B.out _)⟩

theorem laws_walk (a1 b1 a2 b2 a3 b3 : Int) (w : World) :
    Calls Try.prog 6 #[.agg #[.int .i64 a1, .int .i64 b1], .agg #[.int .i64 a2, .int .i64 b2], .agg #[.int .i64 a3, .int .i64 b3]] w fun e w' => e = .returned (.bool true) ∧ Below w.heap.size w w' := by
  have HA := right_any a1 b1
  have HB := right_any a2 b2
  have HC := right_any a3 b3
  have R1 := right_pr a1 b1
  have R2 := right_pr a2 b2
  have R3 := right_pr a3 b3
  have mul : ∀ x y t : Pr, x.right → y.right → mulP x y = t → ∀ w, Calls Try.prog 13 #[.agg #[.int .i64 x.re, .int .i64 x.im], .agg #[.int .i64 y.re, .int .i64 y.im]] w fun e w' => e = .returned (.tuple #[.agg #[.int .i64 t.re, .int .i64 t.im], .int .i64 0]) ∧ Below w.heap.size w w' := fun x y t hx hy h w => h ▸ Mul_right x.re x.im y.re y.im w hx hy
  have add : ∀ x y t : Pr, x.right → y.right → addP x y = t → ∀ w, Calls Try.prog 11 #[.agg #[.int .i64 x.re, .int .i64 x.im], .agg #[.int .i64 y.re, .int .i64 y.im]] w fun e w' => e = .returned (.tuple #[.agg #[.int .i64 t.re, .int .i64 t.im], .int .i64 0]) ∧ Below w.heap.size w w' := fun x y t hx hy h w => h ▸ Add_right x.re x.im y.re y.im w hx hy
  have sub : ∀ x y t : Pr, x.right → y.right → subP x y = t → ∀ w, Calls Try.prog 12 #[.agg #[.int .i64 x.re, .int .i64 x.im], .agg #[.int .i64 y.re, .int .i64 y.im]] w fun e w' => e = .returned (.tuple #[.agg #[.int .i64 t.re, .int .i64 t.im], .int .i64 0]) ∧ Below w.heap.size w w' := fun x y t hx hy h w => h ▸ Sub_right x.re x.im y.re y.im w hx hy
  have key : ∀ A B C : Pr, A.right → B.right → C.right → (∀ w, Calls Try.prog 29 #[.agg #[.int .i64 a1, .int .i64 b1]] w fun e w' => e = .returned (.agg #[.int .i64 A.re, .int .i64 A.im]) ∧ Below w.heap.size w w') → (∀ w, Calls Try.prog 29 #[.agg #[.int .i64 a2, .int .i64 b2]] w fun e w' => e = .returned (.agg #[.int .i64 B.re, .int .i64 B.im]) ∧ Below w.heap.size w w') → (∀ w, Calls Try.prog 29 #[.agg #[.int .i64 a3, .int .i64 b3]] w fun e w' => e = .returned (.agg #[.int .i64 C.re, .int .i64 C.im]) ∧ Below w.heap.size w w') →
      Calls Try.prog 6 #[.agg #[.int .i64 a1, .int .i64 b1], .agg #[.int .i64 a2, .int .i64 b2], .agg #[.int .i64 a3, .int .i64 b3]] w fun e w' => e = .returned (.bool true) ∧ Below w.heap.size w w' := by
    intro A B C hA hB hC HA HB HC
    exact laws_core a1 b1 a2 b2 a3 b3 _ _ _ _ _ _ _ _ _ _ _ _ _ _ _ _ _ _ w examples_any HA HB HC
      (mul A B _ hA hB rfl) (mul B A (mulP A B) hB hA (mulP_comm _ _)) (mul B C _ hB hC rfl) (mul (mulP A B) C _ (mulP_right _ _) hC rfl) (mul A (mulP B C) (mulP (mulP A B) C) hA (mulP_right _ _) (mulP_assoc _ _ _).symm)
      (add B C _ hB hC rfl) (mul A (addP B C) _ hA (addP_right _ _) rfl) (mul A C _ hA hC rfl) (add (mulP A B) (mulP A C) (mulP A (addP B C)) (mulP_right _ _) (mulP_right _ _) (mulP_add _ _ _).symm) (sub (addP B C) C B (addP_right _ _) hC (add_back B C hB))
  exact key ⟨a1 % 33554383, b1 % 33554383⟩ ⟨a2 % 33554383, b2 % 33554383⟩ ⟨a3 % 33554383, b3 % 33554383⟩ R1 R2 R3 HA HB HC

end Go.Proofs.Ytjkediidbbpnjaa
