/-
  The document's own powers and inverse, as they run.
-/
import Derived.Test.YtjkediidbbpnjaaR1
namespace Go.Proofs.Ytjkediidbbpnjaa
open Go.RowKit

theorem Held.set {W : World} {b : Nat} {x y : Int} (h : Held W b x y) (x' y' : Int) : Held ((W.setCell ⟨b, 0, none⟩ (.int .i64 x')).setCell ⟨b, 1, none⟩ (.int .i64 y')) b x' y' := by
  have h0 : (W.setCell ⟨b, 0, none⟩ (.int .i64 x')).heap[b]? = some (.cells #[.int .i64 x', .int .i64 y] 23) := by
    unfold World.setCell
    simp [Array.getElem?_modify, h.box]
  refine ⟨?_⟩
  generalize W.setCell ⟨b, 0, none⟩ (.int .i64 x') = V at *
  unfold World.setCell
  simp [Array.getElem?_modify, h0]

set_option maxHeartbeats 400000 in
theorem rpower_any (z : Int) (k : Nat) (hz : 0 ≤ z ∧ z < 33554383) (hk : k < 9223372036854775808) (w : World) :
    Calls Try.prog 34 #[.int .i64 z, .int .i64 k] w fun e w' => e = .returned (.int .i64 (z ^ k % pI)) ∧ w' = w := by
  go_enter Try.func34, Try.ntmps34
  go_wp2
  go_loop [0, 1, 5] (fun av n p => ∃ (u o : Int) (j : Nat), 0 ≤ u ∧ u < 33554383 ∧ 0 ≤ o ∧ o < 33554383 ∧ j ≤ k ∧ av = .int .i64 u ∧ n = .int .i64 j ∧ p = .int .i64 o ∧ Hid (Cg (o * u ^ j) (z ^ k))) (fun _ n _ => (intOf n).toNat)
  case atStart => exact ⟨z, 1, k, hz.1, hz.2, by omega, by omega, Nat.le_refl _, rfl, rfl, rfl, hide (Cg.of_eq (by rw [Int.one_mul]))⟩
  case round =>
    obtain ⟨u, o, j, u1, u2, o1, o2, hj, rfl, rfl, rfl, HE⟩ := hrel
    have h1 := mul_lt26 u u ⟨u1, u2⟩ ⟨u1, u2⟩
    have h2 := mul_lt26 o u ⟨o1, o2⟩ ⟨u1, u2⟩
    by_cases h0 : j = 0
    · have HR : Hid (z ^ k % pI = o) := by
        have h := HE.out
        rw [h0, Int.pow_zero, Int.mul_one] at h
        have := h.eq
        rw [mod_small o1 o2] at this
        exact this.symm
      have hj1 : ¬ 0 < j := by omega
      clear HE h0 h1 h2
      go_wp2
      go_ret
      exact ⟨ret_i64 HR.out.symm, rfl⟩
    · have hj0 : 0 < j := by omega
      clear h0
      have m1 := mod_right (u * u)
      have m2 := mod_right (o * u)
      rw [show pI = 33554383 from rfl] at m1 m2
      by_cases hodd : j % 2 = 1
      · have HN : Hid (Cg ((o * u % pI) * (u * u % pI) ^ (j / 2)) (z ^ k)) := by
          have h := powI_half o u j
          rw [if_pos hodd] at h
          exact h.symm.trans HE.out
        clear HE
        have hb : (((j : Int) % 2) == 1) = true := by rw [beq_iff_eq]; omega
        go_wp2
        exact ⟨⟨u * u % 33554383, o * u % 33554383, j / 2, m1.1, m1.2, m2.1, m2.2, by omega, by go_num, by go_num, by go_num, HN⟩, by simp [intOf]; omega⟩
      · have HN : Hid (Cg (o * (u * u % pI) ^ (j / 2)) (z ^ k)) := by
          have h := powI_half o u j
          rw [if_neg hodd] at h
          exact h.symm.trans HE.out
        clear HE
        have hb : (((j : Int) % 2) == 1) = false := by rw [beq_eq_false_iff_ne]; omega
        go_wp2
        exact ⟨⟨u * u % 33554383, o, j / 2, m1.1, m1.2, o1, o2, by omega, by go_num, by go_num, rfl, HN⟩, by simp [intOf]; omega⟩

set_option maxHeartbeats 400000 in
theorem rPow_any (z : Pr) (k : Nat) (hz : z.right) (hk : k < 9223372036854775808) (w : World) :
    Calls Try.prog 22 #[.agg #[.int .i64 z.re, .int .i64 z.im], .int .i64 k] w fun e w' => e = .returned (.agg #[.int .i64 (powP z k).re, .int .i64 (powP z k).im]) ∧ Below w.heap.size w w' := by
  have HZ := hide hz
  clear hz
  go_enter Try.func22, Try.ntmps22
  go_wp2
  have A : Hid (Held (((w.alloc (.cells #[.int .i64 z.re, .int .i64 z.im] 23)).alloc (.cells #[.int .i64 0, .int .i64 0] 23)).alloc (.cells #[.int .i64 1, .int .i64 0] 23)) w.heap.size z.re z.im) := ((Held.at w _ _ _ rfl).alloc _).alloc _
  have R : Hid (Held (((w.alloc (.cells #[.int .i64 z.re, .int .i64 z.im] 23)).alloc (.cells #[.int .i64 0, .int .i64 0] 23)).alloc (.cells #[.int .i64 1, .int .i64 0] 23)) (w.heap.size + 1) 0 0) := (Held.at _ _ _ _ (by simp)).alloc _
  have O : Hid (Held (((w.alloc (.cells #[.int .i64 z.re, .int .i64 z.im] 23)).alloc (.cells #[.int .i64 0, .int .i64 0] 23)).alloc (.cells #[.int .i64 1, .int .i64 0] 23)) (w.heap.size + 1 + 1) 1 0) := Held.at _ _ _ _ (by simp)
  have B : Hid (Below w.heap.size w (((w.alloc (.cells #[.int .i64 z.re, .int .i64 z.im] 23)).alloc (.cells #[.int .i64 0, .int .i64 0] 23)).alloc (.cells #[.int .i64 1, .int .i64 0] 23))) := below_new (below_new (below_new (Below.refl _ w) _) _) _
  have n1 : w.heap.size ≠ w.heap.size + 1 := by omega
  have n2 : w.heap.size ≠ w.heap.size + 1 + 1 := by omega
  have n3 : w.heap.size + 1 ≠ w.heap.size + 1 + 1 := by omega
  have n4 : w.heap.size ≤ w.heap.size + 1 := by omega
  have n5 : w.heap.size ≤ w.heap.size + 1 + 1 := by omega
  generalize w.heap.size + 1 + 1 = ob at *
  generalize w.heap.size + 1 = rb at *
  have n6 := n1.symm
  have n7 := n2.symm
  have n8 := n3.symm
  go_loopw [1] (fun n wv => ∃ (u o : Pr) (j : Nat), Hid u.right ∧ Hid o.right ∧ j ≤ k ∧ n = .int .i64 j ∧ Hid (mulP o (powP u j) = powP z k) ∧ Hid (Held wv w.heap.size u.re u.im) ∧ Hid (Held wv rb 0 0) ∧ Hid (Held wv ob o.re o.im) ∧ Hid (Below w.heap.size w wv)) (fun n _ => (intOf n).toNat)
  case atStart => exact ⟨z, Pr.one, k, HZ, hide one_right, Nat.le_refl _, rfl, hide (by rw [mulP_comm, mulP_one _ (powP_right z k)]), A, R, O, B⟩
  case round =>
    clear A R O B HZ
    obtain ⟨u, o, j, HU, HO, hj, rfl, HE, A, R, O, B⟩ := hrel
    by_cases h0 : j = 0
    · have HR : Hid (powP z k = o) := by have := HE.out; rw [h0, show powP u 0 = Pr.one from rfl, mulP_one _ HO.out] at this; exact this.symm
      have hj1 : ¬ 0 < j := by omega
      clear HE h0
      have o0 := O.out.c0
      have o1 := O.out.c1
      have r0 := R.out.c0
      have r1 := R.out.c1
      have rf0 := R.out.f0
      have rf1 := R.out.f1
      go_wp2
      refine bodyPost_ret (v := .agg #[.int .i64 o.re, .int .i64 o.im]) (by simp [results, Try.results22, go_sem, r0, r1]) rfl ⟨by rw [HR.out], ?_⟩
      exact below_box B.out _ n4 _ _
    · have hj0 : 0 < j := by omega
      clear h0
      have HMU := hide (rMul_right u u HU.out HU.out)
      by_cases hodd : j % 2 = 1
      · have HMO := hide (rMul_right o u HO.out HU.out)
        have HN : Hid (mulP (mulP o u) (powP (mulP u u) (j / 2)) = powP z k) := by
          have := HE.out
          rw [powP_half, if_pos hodd] at this
          exact this
        clear HE
        have hb : (((j : Int) % 2) == 1) = true := by rw [beq_iff_eq]; omega
        have a0 := A.out.c0
        have a1 := A.out.c1
        have o0 := O.out.c0
        have o1 := O.out.c1
        go_wp2_with fail
        refine (HMO.out _).mono ?_
        rintro e w1 ⟨rfl, bb⟩
        replace A := hide (A.out.past bb)
        replace R := hide (R.out.past bb)
        replace O := hide (O.out.past bb)
        replace B := hide (bpast B.out bb)
        clear bb
        replace a0 := A.out.c0
        replace a1 := A.out.c1
        replace o0 := O.out.c0
        replace o1 := O.out.c1
        have of0 := O.out.f0
        have of1 := O.out.f1
        go_wp2_with fail
        refine (HMU.out _).mono ?_
        rintro e w2 ⟨rfl, bb⟩
        replace A := hide ((A.out.apart ob n2 _ _).past bb)
        replace R := hide ((R.out.apart ob n3 _ _).past bb)
        replace O := hide ((O.out.set _ _).past bb)
        replace B := hide (bpast (below_box B.out ob n5 _ _) bb)
        clear bb of0 of1
        replace a0 := A.out.c0
        replace a1 := A.out.c1
        have af0 := A.out.f0
        have af1 := A.out.f1
        go_wp2
        go_roundw
        case rel => exact ⟨mulP u u, mulP o u, j / 2, hide (mulP_right _ _), hide (mulP_right _ _), by omega, by go_num, HN, hide (A.out.set _ _), hide (R.out.apart _ n6 _ _), hide (O.out.apart _ n7 _ _), hide (below_box B.out _ (Nat.le_refl _) _ _)⟩
        case measure => simp [intOf]; omega
      · have HN : Hid (mulP o (powP (mulP u u) (j / 2)) = powP z k) := by
          have := HE.out
          rw [powP_half, if_neg hodd] at this
          exact this
        clear HE
        have hb : (((j : Int) % 2) == 1) = false := by rw [beq_eq_false_iff_ne]; omega
        have a0 := A.out.c0
        have a1 := A.out.c1
        go_wp2_with fail
        refine (HMU.out _).mono ?_
        rintro e w2 ⟨rfl, bb⟩
        replace A := hide (A.out.past bb)
        replace R := hide (R.out.past bb)
        replace O := hide (O.out.past bb)
        replace B := hide (bpast B.out bb)
        clear bb
        replace a0 := A.out.c0
        replace a1 := A.out.c1
        have af0 := A.out.f0
        have af1 := A.out.f1
        go_wp2
        go_roundw
        case rel => exact ⟨mulP u u, o, j / 2, hide (mulP_right _ _), HO, by omega, by go_num, HN, hide (A.out.set _ _), hide (R.out.apart _ n6 _ _), hide (O.out.apart _ n7 _ _), hide (below_box B.out _ (Nat.le_refl _) _ _)⟩
        case measure => simp [intOf]; omega

end Go.Proofs.Ytjkediidbbpnjaa
