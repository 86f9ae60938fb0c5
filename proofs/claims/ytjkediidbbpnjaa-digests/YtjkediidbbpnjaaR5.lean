/-
  The document's own Join, as it runs.
-/
import Derived.Test.YtjkediidbbpnjaaR4
namespace Go.Proofs.Ytjkediidbbpnjaa
open Go.RowKit

set_option maxHeartbeats 400000 in
theorem rJoin_any (d e : Pr) (k : Nat) (hd : d.right) (he : e.right) (hk : k < 9223372036854775808) (w : World) :
    Calls Try.prog 26 #[.agg #[.int .i64 d.re, .int .i64 d.im], .agg #[.int .i64 e.re, .int .i64 e.im], .int .i64 k] w fun r w' => r = .returned (.agg #[.int .i64 (joinP d e k).re, .int .i64 (joinP d e k).im]) ∧ Below w.heap.size w w' := by
  have HS : Hid (∀ w, Calls Try.prog 16 #[.agg #[.int .i64 d.re, .int .i64 d.im], .agg #[.int .i64 1, .int .i64 0]] w fun r w' => r = .returned (.agg #[.int .i64 (subP d Pr.one).re, .int .i64 (subP d Pr.one).im]) ∧ Below w.heap.size w w') := rSub_right d Pr.one hd one_right
  have HP : Hid (∀ w, Calls Try.prog 22 #[.agg #[.int .i64 2, .int .i64 3], .int .i64 k] w fun r w' => r = .returned (.agg #[.int .i64 (powP gP k).re, .int .i64 (powP gP k).im]) ∧ Below w.heap.size w w') := rPow_any gP k gP_right hk
  have HM := hide (rMul_right (subP d Pr.one) (powP gP k) (subP_right _ _) (powP_right _ _))
  have HA := hide (rAdd_right (mulP (subP d Pr.one) (powP gP k)) e (mulP_right _ _) he)
  have HJ : Hid (joinP d e k = addP (mulP (subP d Pr.one) (powP gP k)) e) := rfl
  clear hd he
  rw [HJ.out]
  clear HJ
  generalize addP (mulP (subP d Pr.one) (powP gP k)) e = j at *
  generalize mulP (subP d Pr.one) (powP gP k) = q at *
  generalize subP d Pr.one = u at *
  generalize powP gP k = v at *
  go_enter Try.func26, Try.ntmps26
  go_wp2_with fail
  have A : Hid (Held (((w.alloc (.cells #[.int .i64 d.re, .int .i64 d.im] 23)).alloc (.cells #[.int .i64 e.re, .int .i64 e.im] 23)).alloc (.cells #[.int .i64 0, .int .i64 0] 23)) w.heap.size d.re d.im) := ((Held.at w _ _ _ rfl).alloc _).alloc _
  have C : Hid (Held (((w.alloc (.cells #[.int .i64 d.re, .int .i64 d.im] 23)).alloc (.cells #[.int .i64 e.re, .int .i64 e.im] 23)).alloc (.cells #[.int .i64 0, .int .i64 0] 23)) (w.heap.size + 1) e.re e.im) := (Held.at _ _ _ _ (by simp)).alloc _
  have R : Hid (Held (((w.alloc (.cells #[.int .i64 d.re, .int .i64 d.im] 23)).alloc (.cells #[.int .i64 e.re, .int .i64 e.im] 23)).alloc (.cells #[.int .i64 0, .int .i64 0] 23)) (w.heap.size + 1 + 1) 0 0) := Held.at _ _ _ _ (by simp)
  have B : Hid (Below w.heap.size w (((w.alloc (.cells #[.int .i64 d.re, .int .i64 d.im] 23)).alloc (.cells #[.int .i64 e.re, .int .i64 e.im] 23)).alloc (.cells #[.int .i64 0, .int .i64 0] 23))) := below_new (below_new (below_new (Below.refl _ w) _) _) _
  generalize (((w.alloc (.cells #[.int .i64 d.re, .int .i64 d.im] 23)).alloc (.cells #[.int .i64 e.re, .int .i64 e.im] 23)).alloc (.cells #[.int .i64 0, .int .i64 0] 23)) = W at *
  have a0 := A.out.c0
  have a1 := A.out.c1
  have c0 := C.out.c0
  have c1 := C.out.c1
  have r0 := R.out.c0
  have r1 := R.out.c1
  have rf0 := R.out.f0
  have rf1 := R.out.f1
  have n3 : w.heap.size ≤ w.heap.size + 1 + 1 := by omega
  have n1 : w.heap.size ≠ w.heap.size + 1 + 1 := by omega
  have n2 : w.heap.size + 1 ≠ w.heap.size + 1 + 1 := by omega
  generalize w.heap.size + 1 + 1 = rb at *
  generalize w.heap.size + 1 = cb at *
  go_region_held3 (fun w' => w'.cell? ⟨w.heap.size, 0, none⟩ = some (.int .i64 d.re) ∧ w'.cell? ⟨w.heap.size, 1, none⟩ = some (.int .i64 d.im) ∧ w'.cell? ⟨cb, 0, none⟩ = some (.int .i64 e.re) ∧ w'.cell? ⟨cb, 1, none⟩ = some (.int .i64 e.im))
    (first | go_keep | exact ⟨(A.out.apart _ n1 _ _).c0, (A.out.apart _ n1 _ _).c1, (C.out.apart _ n2 _ _).c0, (C.out.apart _ n2 _ _).c1⟩)
    (first
      | (go_at_call 16; refine (HS.out _).mono ?_; rintro e w3 ⟨rfl, bb⟩; replace A := hide (A.out.past bb); replace C := hide (C.out.past bb); replace R := hide (R.out.past bb); replace B := hide (bpast B.out bb); clear bb; replace a0 := A.out.c0; replace a1 := A.out.c1; replace c0 := C.out.c0; replace c1 := C.out.c1; replace r0 := R.out.c0; replace r1 := R.out.c1; replace rf0 := R.out.f0; replace rf1 := R.out.f1)
      | (go_at_call 22; refine (HP.out _).mono ?_; rintro e w3 ⟨rfl, bb⟩; replace A := hide (A.out.past bb); replace C := hide (C.out.past bb); replace R := hide (R.out.past bb); replace B := hide (bpast B.out bb); clear bb; replace a0 := A.out.c0; replace a1 := A.out.c1; replace c0 := C.out.c0; replace c1 := C.out.c1; replace r0 := R.out.c0; replace r1 := R.out.c1; replace rf0 := R.out.f0; replace rf1 := R.out.f1)
      | (go_at_call 17; refine (HM.out _).mono ?_; rintro e w3 ⟨rfl, bb⟩; replace A := hide (A.out.past bb); replace C := hide (C.out.past bb); replace R := hide (R.out.past bb); replace B := hide (bpast B.out bb); clear bb; replace a0 := A.out.c0; replace a1 := A.out.c1; replace c0 := C.out.c0; replace c1 := C.out.c1; replace r0 := R.out.c0; replace r1 := R.out.c1; replace rf0 := R.out.f0; replace rf1 := R.out.f1)
      | (go_at_call 15; refine (HA.out _).mono ?_; rintro e w3 ⟨rfl, bb⟩; replace A := hide (A.out.past bb); replace C := hide (C.out.past bb); replace R := hide (R.out.past bb); replace B := hide (bpast B.out bb); clear bb; replace a0 := A.out.c0; replace a1 := A.out.c1; replace c0 := C.out.c0; replace c1 := C.out.c1; replace r0 := R.out.c0; replace r1 := R.out.c1; replace rf0 := R.out.f0; replace rf1 := R.out.f1))
  go_wp2
  refine bodyPost_ret (v := .agg #[.int .i64 j.re, .int .i64 j.im]) (by simp [results, Try.results26, go_sem, r0, r1]) rfl ⟨rfl, ?_⟩
  exact below_box B.out _ n3 _ _

end Go.Proofs.Ytjkediidbbpnjaa
