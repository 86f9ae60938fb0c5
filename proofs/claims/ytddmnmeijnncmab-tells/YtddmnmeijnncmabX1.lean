/-
  What the laws share: the chapter's examples, any numbers made right, two answers held against each other.
-/
import Derived.Test.YtddmnmeijnncmabN7
namespace Go.Proofs.Ytddmnmeijnncmab
open Go.RowKit

theorem tmod_in (x : Int) : -33554383 < x.tmod 33554383 ∧ x.tmod 33554383 < 33554383 := by
  by_cases h0 : 0 ≤ x
  · have h1 : x.tmod 33554383 = x % 33554383 := Int.tmod_eq_emod_of_nonneg h0
    rw [h1]
    omega
  · have h1 : x.tmod 33554383 = -((-x) % 33554383) := by
      have : (-x).tmod 33554383 = (-x) % 33554383 := Int.tmod_eq_emod_of_nonneg (by omega)
      rw [← this, Int.neg_tmod, Int.neg_neg]
    rw [h1]
    omega
set_option maxHeartbeats 400000 in
theorem right_any (a b : Int) (w : World) :
    Calls Try.prog 5 #[.agg #[.int .i64 a, .int .i64 b]] w fun e w' => e = .returned (.agg #[.int .i64 (a % 33554383), .int .i64 (b % 33554383)]) ∧ Below w.heap.size w w' := by
  have HA := hide (tmod_pos a)
  have HB := hide (tmod_pos b)
  obtain ⟨a1, a2⟩ := tmod_in a
  obtain ⟨b1, b2⟩ := tmod_in b
  generalize a % 33554383 = m at *
  generalize b % 33554383 = n at *
  by_cases ha : a.tmod 33554383 < 0
  · have HM : Hid (m = a.tmod 33554383 + 33554383) := by have := HA.out; rw [if_pos ha] at this; exact this
    clear HA
    by_cases hb : b.tmod 33554383 < 0
    · have HN : Hid (n = b.tmod 33554383 + 33554383) := by have := HB.out; rw [if_pos hb] at this; exact this
      clear HB
      go_enter Try.func5, Try.ntmps5
      go_wp2
      refine bodyPost_ret (v := .agg #[.int .i64 (a.tmod 33554383 + 33554383), .int .i64 (b.tmod 33554383 + 33554383)]) (by simp [results, Try.results5, go_sem]) rfl ⟨by rw [HM.out, HN.out], ?_⟩
      exact below_new (below_new (Below.refl _ w) _) _
    · have HN : Hid (n = b.tmod 33554383) := by have := HB.out; rw [if_neg hb] at this; exact this
      clear HB
      go_enter Try.func5, Try.ntmps5
      go_wp2
      refine bodyPost_ret (v := .agg #[.int .i64 (a.tmod 33554383 + 33554383), .int .i64 (b.tmod 33554383)]) (by simp [results, Try.results5, go_sem]) rfl ⟨by rw [HM.out, HN.out], ?_⟩
      exact below_new (below_new (Below.refl _ w) _) _
  · have HM : Hid (m = a.tmod 33554383) := by have := HA.out; rw [if_neg ha] at this; exact this
    clear HA
    by_cases hb : b.tmod 33554383 < 0
    · have HN : Hid (n = b.tmod 33554383 + 33554383) := by have := HB.out; rw [if_pos hb] at this; exact this
      clear HB
      go_enter Try.func5, Try.ntmps5
      go_wp2
      refine bodyPost_ret (v := .agg #[.int .i64 (a.tmod 33554383), .int .i64 (b.tmod 33554383 + 33554383)]) (by simp [results, Try.results5, go_sem]) rfl ⟨by rw [HM.out, HN.out], ?_⟩
      exact below_new (below_new (Below.refl _ w) _) _
    · have HN : Hid (n = b.tmod 33554383) := by have := HB.out; rw [if_neg hb] at this; exact this
      clear HB
      go_enter Try.func5, Try.ntmps5
      go_wp2
      refine bodyPost_ret (v := .agg #[.int .i64 (a.tmod 33554383), .int .i64 (b.tmod 33554383)]) (by simp [results, Try.results5, go_sem]) rfl ⟨by rw [HM.out, HN.out], ?_⟩
      exact below_new (below_new (Below.refl _ w) _) _

theorem ex_inv : invP ⟨0, 1⟩ = ⟨0, 33554382⟩ := (inv_only ⟨0, 1⟩ ⟨0, 33554382⟩ (by unfold Pr.right; decide) (by unfold Pr.right; decide) rfl).symm
theorem ex_on0 : onP Pr.one [] = ⟨259, 3⟩ := rfl
theorem ex_on1 : onP Pr.one [97] = ⟨609, 786⟩ := rfl

set_option maxHeartbeats 1000000 in
theorem examples_any (w : World) : Calls Try.prog 4 #[] w fun e w' => e = .returned (.bool true) ∧ Below w.heap.size w w' := by
  have HM : Hid (∀ w, Calls Try.prog 7 #[.agg #[.int .i64 0, .int .i64 1], .agg #[.int .i64 0, .int .i64 1]] w fun e w' => e = .returned (.tuple #[.agg #[.int .i64 33554382, .int .i64 0], .int .i64 0]) ∧ Below w.heap.size w w') := fun w => Mul_right 0 1 0 1 w (by decide) (by decide)
  have HI : Hid (∀ w, Calls Try.prog 8 #[.agg #[.int .i64 0, .int .i64 1]] w fun e w' => e = .returned (.tuple #[.agg #[.int .i64 0, .int .i64 33554382], .int .i64 0]) ∧ Below w.heap.size w w') := fun w => by
    have h := Inv_right ⟨0, 1⟩ (by unfold Pr.right; decide) (by intro h; cases h) w
    rw [ex_inv] at h
    exact h
  have HO : Hid (∀ w, Calls Try.prog 6 #[.agg #[.int .i64 1, .int .i64 0], .string ⟨#[]⟩] w fun e w' => e = .returned (.tuple #[.agg #[.int .i64 259, .int .i64 3], .int .i64 0]) ∧ Below w.heap.size w w') := fun w => by
    have h := On_right Pr.one ⟨#[]⟩ one_right (by decide) w
    rw [show (⟨#[]⟩ : ByteArray).data.toList = [] from rfl, ex_on0] at h
    exact h
  have HP : Hid (∀ w, Calls Try.prog 6 #[.agg #[.int .i64 1, .int .i64 0], .string ⟨#[97]⟩] w fun e w' => e = .returned (.tuple #[.agg #[.int .i64 609, .int .i64 786], .int .i64 0]) ∧ Below w.heap.size w w') := fun w => by
    have h := On_right Pr.one ⟨#[97]⟩ one_right (by decide) w
    rw [show (⟨#[97]⟩ : ByteArray).data.toList = [97] from rfl, ex_on1] at h
    exact h
  have HZ := hide Inv_zero
  have HB := hide Begin_any
  go_enter Try.func4, Try.ntmps4
  go_wp2_with fail
  refine (HM.out _).mono ?_
  rintro e w1 ⟨rfl, bb⟩
  have I : Hid (Held w1 (w.heap.size) (0) (1)) := (Held.at _ (0) (1) _ rfl).past bb
  have B := hide (bpast (below_new (Below.refl _ w) _) bb)
  clear bb
  have ic0 := fun o0 => (I.out.alloc o0).c0
  have ic1 := fun o0 => (I.out.alloc o0).c1
  go_wp2_with fail
  refine (HI.out _).mono ?_
  rintro e w2 ⟨rfl, bb⟩
  clear ic0 ic1
  replace I := hide ((I.out.alloc _).past bb)
  have A : Hid (Held w2 (w1.heap.size) (33554382) (0)) := (Held.at _ (33554382) (0) _ rfl).past bb
  replace B := hide (bpast (below_new B.out _) bb)
  clear bb
  generalize w1.heap.size = bA at *
  clear I
  go_wp2_with fail
  refine (HB.out _).mono ?_
  rintro e w3 ⟨rfl, bb⟩
  replace A := hide ((A.out.alloc _).past bb)
  have C : Hid (Held w3 (w2.heap.size) (0) (33554382)) := (Held.at _ (0) (33554382) _ rfl).past bb
  replace B := hide (bpast (below_new B.out _) bb)
  clear bb
  generalize w2.heap.size = bC at *
  go_wp2_with fail
  refine (HO.out _).mono ?_
  rintro e w4 ⟨rfl, bb⟩
  replace A := hide (A.out.past bb)
  replace C := hide (C.out.past bb)
  replace B := hide (bpast B.out bb)
  clear bb
  go_wp2_with fail
  refine (HB.out _).mono ?_
  rintro e w5 ⟨rfl, bb⟩
  replace A := hide ((A.out.alloc _).past bb)
  replace C := hide ((C.out.alloc _).past bb)
  have D : Hid (Held w5 (w4.heap.size) (259) (3)) := (Held.at _ (259) (3) _ rfl).past bb
  replace B := hide (bpast (below_new B.out _) bb)
  clear bb
  generalize w4.heap.size = bD at *
  go_wp2_with fail
  refine (HP.out _).mono ?_
  rintro e w6 ⟨rfl, bb⟩
  replace A := hide (A.out.past bb)
  replace C := hide (C.out.past bb)
  replace D := hide (D.out.past bb)
  replace B := hide (bpast B.out bb)
  clear bb
  go_wp2_with fail
  refine (HZ.out _).mono ?_
  rintro e w7 ⟨rfl, bb⟩
  replace A := hide ((A.out.alloc _).past bb)
  replace C := hide ((C.out.alloc _).past bb)
  replace D := hide ((D.out.alloc _).past bb)
  have E : Hid (Held w7 (w6.heap.size) (609) (786)) := (Held.at _ (609) (786) _ rfl).past bb
  replace B := hide (bpast (below_new B.out _) bb)
  clear bb
  generalize w6.heap.size = bE at *
  have ac0 := fun o0 => (A.out.alloc o0).c0
  have ac1 := fun o0 => (A.out.alloc o0).c1
  have cc0 := fun o0 => (C.out.alloc o0).c0
  have cc1 := fun o0 => (C.out.alloc o0).c1
  have dc0 := fun o0 => (D.out.alloc o0).c0
  have dc1 := fun o0 => (D.out.alloc o0).c1
  have ec0 := fun o0 => (E.out.alloc o0).c0
  have ec1 := fun o0 => (E.out.alloc o0).c1
  go_wp2
  go_ret
  exact ⟨rfl, (below_new B.out _)⟩

end Go.Proofs.Ytddmnmeijnncmab
