/-
  The document's own mod, Right, Add, Sub, Mul, Begin, as they run.
-/
import Derived.Test.YtjkediidbbpnjaaN7
namespace Go.Proofs.Ytjkediidbbpnjaa
open Go.RowKit

theorem tmod_up (x : Int) (h : -9223372036854775808 ≤ x ∧ x ≤ 9223372036854775807) : -33554383 < x.tmod 33554383 ∧ x.tmod 33554383 < 33554383 ∧ (x.tmod 33554383 + 33554383) % 33554383 = x % 33554383 := by
  by_cases h0 : 0 ≤ x
  · have h1 : x.tmod 33554383 = x % 33554383 := Int.tmod_eq_emod_of_nonneg h0
    rw [h1]
    omega
  · have h1 : x.tmod 33554383 = -((-x) % 33554383) := by
      have : (-x).tmod 33554383 = (-x) % 33554383 := Int.tmod_eq_emod_of_nonneg (by omega)
      rw [← this, Int.neg_tmod, Int.neg_neg]
    rw [h1]
    omega

theorem rmod_any (x : Int) (hx : -9223372036854775808 ≤ x ∧ x ≤ 9223372036854775807) (w : World) :
    Calls Try.prog 32 #[.int .i64 x] w fun e w' => e = .returned (.int .i64 (x % 33554383)) ∧ w' = w := by
  obtain ⟨t1, t2, t3⟩ := tmod_up x hx
  have HT := hide t3
  clear t3
  go_enter Try.func32, Try.ntmps32
  go_wp2
  go_ret
  exact ⟨ret_i64 HT.out, rfl⟩
/-- A number that may stand there in another form. -/
theorem rmod_is (y : Int) (hy : -9223372036854775808 ≤ y ∧ y ≤ 9223372036854775807) (x : Int) (h : x = y) (w : World) :
    Calls Try.prog 32 #[.int .i64 x] w fun e w' => e = .returned (.int .i64 (y % 33554383)) ∧ w' = w := h ▸ rmod_any x (h ▸ hy) w
theorem wrap_in (x : Int) : -9223372036854775808 ≤ IntKind.i64.wrap x ∧ IntKind.i64.wrap x ≤ 9223372036854775807 := by
  rw [IntWalk.i64_left]
  unfold RowKit.wrap64
  omega
theorem wrap_id (x : Int) (h : -9223372036854775808 ≤ x ∧ x ≤ 9223372036854775807) : IntKind.i64.wrap x = x := by
  rw [IntWalk.i64_left]
  exact IntWalk.wrap64_in x h

set_option maxHeartbeats 400000 in
theorem rAdd_any (a b c d : Int) (w : World) :
    Calls Try.prog 15 #[.agg #[.int .i64 a, .int .i64 b], .agg #[.int .i64 c, .int .i64 d]] w fun e w' => e = .returned (.agg #[.int .i64 (IntKind.i64.wrap (a + c) % 33554383), .int .i64 (IntKind.i64.wrap (b + d) % 33554383)]) ∧ Below w.heap.size w w' := by
  have HX := hide (rmod_is (IntKind.i64.wrap (a + c)) (wrap_in _))
  have HY := hide (rmod_is (IntKind.i64.wrap (b + d)) (wrap_in _))
  generalize IntKind.i64.wrap (a + c) % 33554383 = m at *
  generalize IntKind.i64.wrap (b + d) % 33554383 = n at *
  go_enter Try.func15, Try.ntmps15
  go_wp2_with fail
  go_region_held3 (fun w' => w'.cell? ⟨w.heap.size, 0, none⟩ = some (.int .i64 a) ∧ w'.cell? ⟨w.heap.size, 1, none⟩ = some (.int .i64 b) ∧ w'.cell? ⟨w.heap.size + 1, 0, none⟩ = some (.int .i64 c) ∧ w'.cell? ⟨w.heap.size + 1, 1, none⟩ = some (.int .i64 d)) (go_keep)
    (first
      | (go_at_call 32; refine (HX.out _ rfl _).mono ?_; rintro e w3 ⟨rfl, rfl⟩)
      | (go_at_call 32; refine (HY.out _ rfl _).mono ?_; rintro e w3 ⟨rfl, rfl⟩))
  go_wp2
  refine bodyPost_ret (v := .agg #[.int .i64 m, .int .i64 n]) (by simp [results, Try.results15, go_sem]) rfl ⟨rfl, ?_⟩
  exact (below_new (below_new (below_new (Below.refl _ w) _) _) _).drew

set_option maxHeartbeats 400000 in
theorem rSub_any (a b c d : Int) (w : World) :
    Calls Try.prog 16 #[.agg #[.int .i64 a, .int .i64 b], .agg #[.int .i64 c, .int .i64 d]] w fun e w' => e = .returned (.agg #[.int .i64 (IntKind.i64.wrap (a - c) % 33554383), .int .i64 (IntKind.i64.wrap (b - d) % 33554383)]) ∧ Below w.heap.size w w' := by
  have HX := hide (rmod_is (IntKind.i64.wrap (a - c)) (wrap_in _))
  have HY := hide (rmod_is (IntKind.i64.wrap (b - d)) (wrap_in _))
  generalize IntKind.i64.wrap (a - c) % 33554383 = m at *
  generalize IntKind.i64.wrap (b - d) % 33554383 = n at *
  go_enter Try.func16, Try.ntmps16
  go_wp2_with fail
  go_region_held3 (fun w' => w'.cell? ⟨w.heap.size, 0, none⟩ = some (.int .i64 a) ∧ w'.cell? ⟨w.heap.size, 1, none⟩ = some (.int .i64 b) ∧ w'.cell? ⟨w.heap.size + 1, 0, none⟩ = some (.int .i64 c) ∧ w'.cell? ⟨w.heap.size + 1, 1, none⟩ = some (.int .i64 d)) (go_keep)
    (first
      | (go_at_call 32; refine (HX.out _ rfl _).mono ?_; rintro e w3 ⟨rfl, rfl⟩)
      | (go_at_call 32; refine (HY.out _ rfl _).mono ?_; rintro e w3 ⟨rfl, rfl⟩))
  go_wp2
  refine bodyPost_ret (v := .agg #[.int .i64 m, .int .i64 n]) (by simp [results, Try.results16, go_sem]) rfl ⟨rfl, ?_⟩
  exact (below_new (below_new (below_new (Below.refl _ w) _) _) _).drew

set_option maxHeartbeats 400000 in
theorem rMul_any (a b c d : Int) (ha : 0 ≤ a ∧ a < 33554383 ∧ 0 ≤ b ∧ b < 33554383) (hc : 0 ≤ c ∧ c < 33554383 ∧ 0 ≤ d ∧ d < 33554383) (w : World) :
    Calls Try.prog 17 #[.agg #[.int .i64 a, .int .i64 b], .agg #[.int .i64 c, .int .i64 d]] w fun e w' => e = .returned (.agg #[.int .i64 ((a * c - b * d) % 33554383), .int .i64 ((a * d + b * c) % 33554383)]) ∧ Below w.heap.size w w' := by
  have h1 := mul_lt26 a c (by omega) (by omega)
  have h2 := mul_lt26 b d (by omega) (by omega)
  have h3 := mul_lt26 a d (by omega) (by omega)
  have h4 := mul_lt26 b c (by omega) (by omega)
  have w1 := wrap_id (a * c) (by omega)
  have w2 := wrap_id (b * d) (by omega)
  have w3 := wrap_id (a * d) (by omega)
  have w4 := wrap_id (b * c) (by omega)
  have w5 := wrap_id (a * c - b * d) (by omega)
  have w6 := wrap_id (a * d + b * c) (by omega)
  have HX := hide (rmod_is (a * c - b * d) (by omega))
  have HY := hide (rmod_is (a * d + b * c) (by omega))
  clear h1 h2 h3 h4 ha hc
  generalize (a * c - b * d) % 33554383 = m at *
  generalize (a * d + b * c) % 33554383 = n at *
  go_enter Try.func17, Try.ntmps17
  go_wp2_with fail
  go_region_held3 (fun w' => w'.cell? ⟨w.heap.size, 0, none⟩ = some (.int .i64 a) ∧ w'.cell? ⟨w.heap.size, 1, none⟩ = some (.int .i64 b) ∧ w'.cell? ⟨w.heap.size + 1, 0, none⟩ = some (.int .i64 c) ∧ w'.cell? ⟨w.heap.size + 1, 1, none⟩ = some (.int .i64 d)) (go_keep)
    (first
      | (go_at_call 32; refine (HX.out _ (by first | with_reducible rfl | simp only [w1, w2, w3, w4, w5, w6]) _).mono ?_; rintro e w3 ⟨rfl, rfl⟩)
      | (go_at_call 32; refine (HY.out _ (by first | with_reducible rfl | simp only [w1, w2, w3, w4, w5, w6]) _).mono ?_; rintro e w3 ⟨rfl, rfl⟩))
  go_wp2
  refine bodyPost_ret (v := .agg #[.int .i64 m, .int .i64 n]) (by simp [results, Try.results17, go_sem]) rfl ⟨rfl, ?_⟩
  exact (below_new (below_new (below_new (Below.refl _ w) _) _) _).drew

theorem rBegin_any (w : World) : Calls Try.prog 28 #[] w fun e w' => e = .returned (.agg #[.int .i64 1, .int .i64 0]) ∧ Below w.heap.size w w' := by
  go_enter Try.func28, Try.ntmps28
  go_wp2
  refine bodyPost_ret (v := .agg #[.int .i64 1, .int .i64 0]) (by simp [results, Try.results28, go_sem]) rfl ⟨rfl, ?_⟩
  exact (Below.refl _ _).alloc (Nat.le_refl _) _
theorem rRight_any (a b : Int) (w : World) :
    Calls Try.prog 10 #[.agg #[.int .i64 a, .int .i64 b]] w fun e w' => e = .returned (.bool (rightB a b)) ∧ Below w.heap.size w w' := by
  have HD : Hid (rightB a b = decide (0 ≤ a ∧ a < 33554383 ∧ 0 ≤ b ∧ b < 33554383)) := rfl
  generalize rightB a b = r at *
  by_cases h1 : 0 ≤ a
  · by_cases h2 : a < 33554383
    · by_cases h3 : 0 ≤ b
      · by_cases h4 : b < 33554383
        all_goals
          go_enter Try.func10, Try.ntmps10
          go_wp2
          go_ret
          refine ⟨?_, (Below.refl _ _).alloc (Nat.le_refl _) _⟩
          rw [HD.out]
          simp <;> omega
      · go_enter Try.func10, Try.ntmps10
        go_wp2
        go_ret
        refine ⟨?_, (Below.refl _ _).alloc (Nat.le_refl _) _⟩
        rw [HD.out]
        simp <;> omega
    · go_enter Try.func10, Try.ntmps10
      go_wp2
      go_ret
      refine ⟨?_, (Below.refl _ _).alloc (Nat.le_refl _) _⟩
      rw [HD.out]
      simp <;> omega
  · go_enter Try.func10, Try.ntmps10
    go_wp2
    go_ret
    refine ⟨?_, (Below.refl _ _).alloc (Nat.le_refl _) _⟩
    rw [HD.out]
    simp <;> omega
/-- Add, Sub, Mul of right ones. -/
theorem rAdd_right (z u : Pr) (hz : z.right) (hu : u.right) (w : World) :
    Calls Try.prog 15 #[.agg #[.int .i64 z.re, .int .i64 z.im], .agg #[.int .i64 u.re, .int .i64 u.im]] w fun e w' => e = .returned (.agg #[.int .i64 (addP z u).re, .int .i64 (addP z u).im]) ∧ Below w.heap.size w w' := by
  obtain ⟨h1, h2, h3, h4⟩ := hz
  obtain ⟨g1, g2, g3, g4⟩ := hu
  have hp : pI = 33554383 := rfl
  rw [hp] at h2 h4 g2 g4
  have h := rAdd_any z.re z.im u.re u.im w
  rw [wrap_id _ (by omega), wrap_id _ (by omega)] at h
  exact h
theorem rSub_right (z u : Pr) (hz : z.right) (hu : u.right) (w : World) :
    Calls Try.prog 16 #[.agg #[.int .i64 z.re, .int .i64 z.im], .agg #[.int .i64 u.re, .int .i64 u.im]] w fun e w' => e = .returned (.agg #[.int .i64 (subP z u).re, .int .i64 (subP z u).im]) ∧ Below w.heap.size w w' := by
  obtain ⟨h1, h2, h3, h4⟩ := hz
  obtain ⟨g1, g2, g3, g4⟩ := hu
  have hp : pI = 33554383 := rfl
  rw [hp] at h2 h4 g2 g4
  have h := rSub_any z.re z.im u.re u.im w
  rw [wrap_id _ (by omega), wrap_id _ (by omega)] at h
  exact h
theorem rMul_right (z u : Pr) (hz : z.right) (hu : u.right) (w : World) :
    Calls Try.prog 17 #[.agg #[.int .i64 z.re, .int .i64 z.im], .agg #[.int .i64 u.re, .int .i64 u.im]] w fun e w' => e = .returned (.agg #[.int .i64 (mulP z u).re, .int .i64 (mulP z u).im]) ∧ Below w.heap.size w w' :=
  rMul_any z.re z.im u.re u.im hz hu w
end Go.Proofs.Ytjkediidbbpnjaa
