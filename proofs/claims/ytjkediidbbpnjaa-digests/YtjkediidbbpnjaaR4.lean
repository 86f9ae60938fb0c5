/-
  The document's own On and Join, as they run.
-/
import Derived.Test.YtjkediidbbpnjaaR3
namespace Go.Proofs.Ytjkediidbbpnjaa
open Go.RowKit

theorem gP_right : gP.right := by unfold Pr.right; decide
theorem num_right (v : Int) (h : 0 ≤ v ∧ v < 33554383) : (⟨v, 0⟩ : Pr).right := ⟨h.1, h.2, Int.le_refl _, show (0 : Int) < pI by decide⟩
theorem rMul_g (z : Pr) (hz : z.right) (w : World) :
    Calls Try.prog 17 #[.agg #[.int .i64 z.re, .int .i64 z.im], .agg #[.int .i64 2, .int .i64 3]] w fun e w' => e = .returned (.agg #[.int .i64 (mulP z gP).re, .int .i64 (mulP z gP).im]) ∧ Below w.heap.size w w' := rMul_right z gP hz gP_right w
theorem rAdd_v (q : Pr) (v : Int) (hq : q.right) (hv : 0 ≤ v ∧ v < 33554383) (w : World) :
    Calls Try.prog 15 #[.agg #[.int .i64 q.re, .int .i64 q.im], .agg #[.int .i64 v, .int .i64 0]] w fun e w' => e = .returned (.agg #[.int .i64 (addP q ⟨v, 0⟩).re, .int .i64 (addP q ⟨v, 0⟩).im]) ∧ Below w.heap.size w w' := rAdd_right q ⟨v, 0⟩ hq (num_right v hv) w

set_option maxHeartbeats 1000000 in
theorem rOn_any (z : Pr) (s : ByteArray) (hz : z.right) (hs : s.size ≤ 281474976710656) (w : World) :
    Calls Try.prog 25 #[.agg #[.int .i64 z.re, .int .i64 z.im], .string s] w fun e w' => e = .returned (.agg #[.int .i64 (onP z s.data.toList).re, .int .i64 (onP z s.data.toList).im]) ∧ Below w.heap.size w w' := by
  have HM := hide (rMul_g z hz)
  have HD := hide (rmod_any (257 + (s.size : Int)) (by omega))
  have hm := mod_right (257 + (s.size : Int))
  rw [show pI = 33554383 from rfl] at hm
  have HA := hide (rAdd_v (mulP z gP) ((257 + (s.size : Int)) % 33554383) (mulP_right _ _) hm)
  have HZ : Hid (onP z s.data.toList = runP (addP (mulP z gP) ⟨(257 + (s.size : Int)) % 33554383, 0⟩) (s.data.toList.map fun c => (c.toNat : Int) + 1)) := by
    show runP (stepP z ((257 + (s.data.toList.length : Int)) % pI)) _ = _
    have e : (s.data.toList.length : Int) = s.size := by simp
    rw [e]
    rfl
  have HQ := hide (addP_right (mulP z gP) ⟨(257 + (s.size : Int)) % 33554383, 0⟩)
  clear hz hm
  generalize addP (mulP z gP) ⟨(257 + (s.size : Int)) % 33554383, 0⟩ = z1 at *
  generalize mulP z gP = q at *
  generalize (257 + (s.size : Int)) % 33554383 = v at *
  go_enter Try.func25, Try.ntmps25
  go_wp2_with fail
  refine (HM.out _).mono ?_
  rintro e w1 ⟨rfl, bb⟩
  have A : Hid (Held w1 (w.heap.size) (z.re) (z.im)) := (((Held.at _ (z.re) (z.im) _ rfl).alloc _).alloc _).below bb
  have R : Hid (Held w1 (w.heap.size + 1) (0) (0)) := ((Held.at _ (0) (0) _ (by simp)).alloc _).below bb
  have G : Hid (Held w1 (w.heap.size + 1 + 1) (2) (3)) := (Held.at _ (2) (3) _ (by simp)).below bb
  have B := hide (bthen (below_new (below_new (below_new (Below.refl _ w) _) _) _) bb)
  clear bb
  go_wp2_with fail
  refine (HD.out _).mono ?_
  rintro e w2 ⟨rfl, rfl⟩
  go_wp2_with fail
  refine (HA.out _).mono ?_
  rintro e w3 ⟨rfl, bb⟩
  replace A := hide (A.out.past bb)
  replace R := hide (R.out.past bb)
  replace G := hide (G.out.past bb)
  replace B := hide (bpast B.out bb)
  clear bb
  have a0 := A.out.c0
  have a1 := A.out.c1
  have af0 := A.out.f0
  have af1 := A.out.f1
  have n1 : w.heap.size ≠ w.heap.size + 1 := by omega
  have n2 : w.heap.size ≠ w.heap.size + 1 + 1 := by omega
  have n4 : w.heap.size ≤ w.heap.size + 1 := by omega
  generalize w.heap.size + 1 + 1 = gb at *
  generalize w.heap.size + 1 = rb at *
  have n6 := n1.symm
  have n7 := n2.symm
  clear HM HD HA
  go_wp2
  have A2 := hide (A.out.set z1.re z1.im)
  have R2 := hide (R.out.apart w.heap.size n6 (.int .i64 z1.re) (.int .i64 z1.im))
  have G2 := hide (G.out.apart w.heap.size n7 (.int .i64 z1.re) (.int .i64 z1.im))
  have B2 := hide (below_box B.out w.heap.size (Nat.le_refl _) (.int .i64 z1.re) (.int .i64 z1.im))
  clear A R G B a0 a1 af0 af1
  go_loopw [6] (fun iv wv => ∃ (u : Pr) (i : Nat), i ≤ s.size ∧ iv = .int .i64 i ∧ Hid u.right ∧ Hid (u = runP z1 ((s.data.toList.take i).map fun c => (c.toNat : Int) + 1)) ∧ Hid (Held wv w.heap.size u.re u.im) ∧ Hid (Held wv rb 0 0) ∧ Hid (Held wv gb 2 3) ∧ Hid (Below w.heap.size w wv)) (fun i _ => s.size - (intOf i).toNat)
  case atStart => exact ⟨z1, 0, Nat.zero_le _, rfl, HQ, hide rfl, A2, R2, G2, B2⟩
  case round =>
    clear A2 R2 G2 B2 HQ
    obtain ⟨u, i, hi, rfl, HU, HE, A, R, G, B⟩ := hrel
    by_cases hlt : i < s.size
    · have h8 := s[i].toNat_lt
      have HM := hide (rMul_g u HU.out)
      have HA : Hid (∀ x : Int, x = (s[i].toNat : Int) + 1 → ∀ w, Calls Try.prog 15 #[.agg #[.int .i64 (mulP u gP).re, .int .i64 (mulP u gP).im], .agg #[.int .i64 x, .int .i64 0]] w fun e w' => e = .returned (.agg #[.int .i64 (addP (mulP u gP) ⟨(s[i].toNat : Int) + 1, 0⟩).re, .int .i64 (addP (mulP u gP) ⟨(s[i].toNat : Int) + 1, 0⟩).im]) ∧ Below w.heap.size w w') := fun x h w => by
        rw [h]
        exact rAdd_v (mulP u gP) _ (mulP_right _ _) (by omega) w
      have HQ := hide (addP_right (mulP u gP) ⟨(s[i].toNat : Int) + 1, 0⟩)
      have HE2 : Hid (addP (mulP u gP) ⟨(s[i].toNat : Int) + 1, 0⟩ = runP z1 ((s.data.toList.take (i + 1)).map fun c => (c.toNat : Int) + 1)) := by
        rw [take_snoc s i hlt, List.map_append, runP_append, ← HE.out]
        exact hide rfl
      clear HE HU
      generalize addP (mulP u gP) ⟨(s[i].toNat : Int) + 1, 0⟩ = y at *
      generalize mulP u gP = q at *
      have a0 := A.out.c0
      have a1 := A.out.c1
      have g0 := G.out.c0
      have g1 := G.out.c1
      have af0 := A.out.f0
      have af1 := A.out.f1
      have hx : IntKind.i64.wrap (IntKind.i64.wrap (s[i].toNat : Int) + 1) = (s[i].toNat : Int) + 1 := by rw [wrap_id (s[i].toNat : Int) (by omega), wrap_id _ (by omega)]
      have HX := hide hx
      clear hx
      have hi0 : (0 : Int) ≤ (i : Int) := by omega
      have hi1 : (i : Int) < (s.size : Int) := by omega
      go_wp2
      go_region_with (first
          | (go_at_call 17; refine (HM.out _).mono ?_; rintro e w3 ⟨rfl, bb⟩; replace A := hide (A.out.past bb); replace G := hide (G.out.past bb); replace R := hide (R.out.past bb); replace B := hide (bpast B.out bb); clear bb; replace a0 := A.out.c0; replace a1 := A.out.c1; replace g0 := G.out.c0; replace g1 := G.out.c1; replace af0 := A.out.f0; replace af1 := A.out.f1)
          | (go_at_call 15; refine (HA.out _ (by first | exact HX.out | with_reducible rfl) _).mono ?_; rintro e w4 ⟨rfl, bb⟩; replace A := hide (A.out.past bb); replace G := hide (G.out.past bb); replace R := hide (R.out.past bb); replace B := hide (bpast B.out bb); clear bb; replace a0 := A.out.c0; replace a1 := A.out.c1; replace g0 := G.out.c0; replace g1 := G.out.c1; replace af0 := A.out.f0; replace af1 := A.out.f1))
      all_goals go_wp2
      all_goals go_roundw
      all_goals first | exact ⟨y, i + 1, by omega, by go_num, HQ, HE2, hide (A.out.set _ _), hide (R.out.apart _ n6 _ _), hide (G.out.apart _ n7 _ _), hide (below_box B.out _ (Nat.le_refl _) _ _)⟩ | (simp [intOf]; omega)
    · have HF : Hid (onP z s.data.toList = u) := by
        rw [HZ.out, HE.out, List.take_of_length_le (by simp; omega)]
        exact hide rfl
      clear HE HU HZ
      have a0 := A.out.c0
      have a1 := A.out.c1
      have r0 := R.out.c0
      have r1 := R.out.c1
      have rf0 := R.out.f0
      have rf1 := R.out.f1
      go_wp2
      refine bodyPost_ret (v := .agg #[.int .i64 u.re, .int .i64 u.im]) (by simp [results, Try.results25, go_sem, r0, r1]) rfl ⟨by rw [HF.out], ?_⟩
      exact below_box B.out _ n4 _ _

end Go.Proofs.Ytjkediidbbpnjaa
