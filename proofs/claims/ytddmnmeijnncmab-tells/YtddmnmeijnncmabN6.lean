/-
  The program's On, as it runs.
-/
import Derived.Test.YtddmnmeijnncmabN5
namespace Go.Proofs.Ytddmnmeijnncmab
open Go.RowKit

theorem take_snoc (s : ByteArray) (k : Nat) (h : k < s.size) : s.data.toList.take (k + 1) = s.data.toList.take k ++ [s[k]] := by
  have hl : k < s.data.toList.length := by simpa using h
  have : s[k] = s.data.toList[k] := rfl
  rw [this, List.take_add_one, List.getElem?_eq_getElem hl]
  rfl
theorem stepP_cg (d : Pr) (u v : Int) (h : Cg u v) : stepP d u = stepP d v := by
  refine Cp.eq ?_ (addP_right _ _) (addP_right _ _)
  refine (Cp.addP _ _).trans (Cp.trans ?_ (Cp.addP _ _).symm)
  exact Cp.add (Cp.refl _) ⟨h, Cg.refl _⟩
theorem stepP_at (z : Pr) (v : Int) : (⟨(z.re * 2 - z.im * 3 + v) % pI, (z.re * 3 + z.im * 2 + 0) % pI⟩ : Pr) = stepP z v := by
  refine Cp.eq ?_ ⟨(mod_right _).1, (mod_right _).2, (mod_right _).1, (mod_right _).2⟩ (addP_right _ _)
  refine Cp.trans (b := ⟨z.re * 2 - z.im * 3 + v, z.re * 3 + z.im * 2 + 0⟩) ⟨Cg.mod _, Cg.mod _⟩ (Cp.trans ?_ (Cp.addP _ _).symm)
  exact (Cp.add (Cp.mulP z gP) (Cp.refl ⟨v, 0⟩)).symm
theorem stepP_right (z : Pr) (v : Int) : (stepP z v).right := addP_right _ _
theorem step_is (z : Pr) (v : Int) (hz : z.right) (hv : 0 ≤ v ∧ v < 2 ^ 26) (w : World) :
    Calls Try.prog 11 #[.complex .f64 (floatOfInt .f64 z.re) (floatOfInt .f64 z.im), .int .i64 v] w fun e w' => e = .returned (.complex .f64 (floatOfInt .f64 (stepP z v).re) (floatOfInt .f64 (stepP z v).im)) ∧ Below w.heap.size w w' := by
  have h := step_any z.re z.im v ⟨hz.1, hz.2.1⟩ ⟨hz.2.2.1, hz.2.2.2⟩ hv w
  have e := stepP_at z v
  rw [← e]
  exact h

set_option maxHeartbeats 400000 in
theorem On_wrong (a b : Int) (s : ByteArray) (ha : rightB a b = false) (w : World) :
    Calls Try.prog 6 #[.agg #[.int .i64 a, .int .i64 b], .string s] w fun e w' => e = .returned (.tuple #[.agg #[.int .i64 0, .int .i64 0], .int .i64 1]) ∧ Below w.heap.size w w' := by
  have HR := hide (Right_is a b _ ha)
  clear ha
  go_enter Try.func6, Try.ntmps6
  go_wp2_with fail
  refine (HR.out _).mono ?_
  rintro e w1 ⟨rfl, bb⟩
  have A : Hid (Held w1 (w.heap.size) (a) (b)) := ((Held.at _ (a) (b) _ rfl).alloc _).below bb
  have R : Hid (Held w1 (w.heap.size + 1) (0) (0)) := (Held.at _ (0) (0) _ (by simp)).below bb
  have B := hide (bthen (below_new (below_new (Below.refl _ w) _) _) bb)
  clear bb
  have n3 : w.heap.size ≤ w.heap.size + 1 := by omega
  generalize w.heap.size + 1 = rb at *
  have r0 := R.out.c0
  have r1 := R.out.c1
  have rf0 := R.out.f0
  have rf1 := R.out.f1
  go_wp2
  refine bodyPost_ret (v := .tuple #[.agg #[.int .i64 0, .int .i64 0], .int .i64 1]) (by simp [results, Try.results6, go_sem, r0, r1]) rfl ⟨rfl, ?_⟩
  exact below_box B.out _ n3 _ _

set_option maxHeartbeats 1000000 in
theorem On_right (z : Pr) (s : ByteArray) (hz : z.right) (hs : s.size ≤ 9223372036854775807) (w : World) :
    Calls Try.prog 6 #[.agg #[.int .i64 z.re, .int .i64 z.im], .string s] w fun e w' => e = .returned (.tuple #[.agg #[.int .i64 (onP z s.data.toList).re, .int .i64 (onP z s.data.toList).im], .int .i64 0]) ∧ Below w.heap.size w w' := by
  have HR := hide (Right_is z.re z.im true (Pr.right_b hz))
  have HN := hide (number_any z.re z.im)
  have HS := hide (step_is z (257 + (s.size : Int) % 33554383) hz (by omega))
  have HZ : Hid (onP z s.data.toList = runP (stepP z (257 + (s.size : Int) % 33554383)) (s.data.toList.map fun c => (c.toNat : Int) + 1)) := by
    show runP (stepP z _) _ = _
    rw [stepP_cg z _ (257 + (s.size : Int) % 33554383) ((Cg.mod _).trans (Cg.add (Cg.refl 257) ?_))]
    have e : (s.data.toList.length : Int) = s.size := by simp
    rw [e]
    exact (Cg.mod _).symm
  have HQ := hide (stepP_right z (257 + (s.size : Int) % 33554383))
  clear hz
  generalize stepP z (257 + (s.size : Int) % 33554383) = z1 at *
  go_enter Try.func6, Try.ntmps6
  go_wp2_with fail
  refine (HR.out _).mono ?_
  rintro e w1 ⟨rfl, bb⟩
  have A : Hid (Held w1 (w.heap.size) (z.re) (z.im)) := ((Held.at _ (z.re) (z.im) _ rfl).alloc _).below bb
  have R : Hid (Held w1 (w.heap.size + 1) (0) (0)) := (Held.at _ (0) (0) _ (by simp)).below bb
  have B := hide (bthen (below_new (below_new (Below.refl _ w) _) _) bb)
  clear bb
  have n3 : w.heap.size ≤ w.heap.size + 1 := by omega
  generalize w.heap.size + 1 = rb at *
  have a0 := A.out.c0
  have a1 := A.out.c1
  go_wp2_with fail
  refine (HN.out _).mono ?_
  rintro e w2 ⟨rfl, bb⟩
  replace R := hide (R.out.past bb)
  replace B := hide (bpast B.out bb)
  clear bb
  go_wp2_with fail
  refine (HS.out _).mono ?_
  rintro e w3 ⟨rfl, bb⟩
  replace R := hide (R.out.past bb)
  replace B := hide (bpast B.out bb)
  clear bb
  clear A a0 a1 HR HN HS
  go_wp2
  go_loopw [6, 21] (fun zv iv wv => ∃ (u : Pr) (i : Nat), i ≤ s.size ∧ zv = .complex .f64 (floatOfInt .f64 u.re) (floatOfInt .f64 u.im) ∧ iv = .int .i64 i ∧ Hid u.right ∧ Hid (u = runP z1 ((s.data.toList.take i).map fun c => (c.toNat : Int) + 1)) ∧ Hid (Held wv rb 0 0) ∧ Hid (Below w.heap.size w wv)) (fun _ i _ => s.size - (intOf i).toNat)
  case atStart => exact ⟨z1, 0, Nat.zero_le _, rfl, rfl, HQ, hide rfl, R, B⟩
  case round =>
    obtain ⟨u, i, hi, rfl, rfl, HU, HE, HR, HB⟩ := hrel
    clear R B HQ
    by_cases hlt : i < s.size
    · have h8 := s[i].toNat_lt
      have HS := hide (step_is u ((s[i].toNat : Int) + 1) HU.out (by omega))
      have HQ := hide (stepP_right u ((s[i].toNat : Int) + 1))
      have HE2 : Hid (stepP u ((s[i].toNat : Int) + 1) = runP z1 ((s.data.toList.take (i + 1)).map fun c => (c.toNat : Int) + 1)) := by
        rw [take_snoc s i hlt, List.map_append, runP_append, ← HE.out]
        rfl
      clear HE HU
      generalize stepP u ((s[i].toNat : Int) + 1) = v at *
      go_wp2_with fail
      refine (HS.out _).mono ?_
      rintro e w4 ⟨rfl, bb⟩
      have HR2 := hide (HR.out.past bb)
      have HB2 := hide (bpast HB.out bb)
      clear bb HR HB
      go_wp2
      go_roundw
      case rel => exact ⟨v, i + 1, by omega, rfl, by go_num, HQ, HE2, HR2, HB2⟩
      case measure => simp [intOf]; omega
    · have HF : Hid (onP z s.data.toList = u) := by
        rw [HZ.out, HE.out, List.take_of_length_le (by simp; omega)]
        exact hide rfl
      have HP := hide (pair_same u HU.out)
      clear HE HU HZ
      go_wp2_with fail
      refine (HP.out _).mono ?_
      rintro e w4 ⟨rfl, bb⟩
      have R := hide (HR.out.past bb)
      have B := hide (bpast HB.out bb)
      clear bb HR HB
      have r0 := R.out.c0
      have r1 := R.out.c1
      have rf0 := R.out.f0
      have rf1 := R.out.f1
      go_wp2
      refine bodyPost_ret (v := .tuple #[.agg #[.int .i64 u.re, .int .i64 u.im], .int .i64 0]) (by simp [results, Try.results6, go_sem, r0, r1]) rfl ⟨by rw [HF.out], ?_⟩
      exact below_box B.out _ n3 _ _

end Go.Proofs.Ytddmnmeijnncmab
