/-
  The document's own inverse, as it runs.
-/
import Derived.Test.YtjkediidbbpnjaaR2
namespace Go.Proofs.Ytjkediidbbpnjaa
open Go.RowKit

set_option maxHeartbeats 400000 in
theorem rInv_zero (w : World) :
    Calls Try.prog 21 #[.agg #[.int .i64 0, .int .i64 0]] w fun e w' => e = .returned (.tuple #[.agg #[.int .i64 0, .int .i64 0], .bool false]) ∧ Below w.heap.size w w' := by
  have HX := hide (rmod_is 0 (by omega))
  go_enter Try.func21, Try.ntmps21
  go_wp2_with fail
  refine (HX.out _ rfl _).mono ?_
  rintro e w' ⟨rfl, rfl⟩
  go_wp2
  refine bodyPost_ret (v := .tuple #[.agg #[.int .i64 0, .int .i64 0], .bool false]) (by simp [results, Try.results21, go_sem]) rfl ⟨rfl, ?_⟩
  exact below_new (below_new (Below.refl _ w) _) _

set_option maxHeartbeats 1000000 in
theorem rInv_core (x y nn ii t m n : Int) (w : World) (hn : ¬ nn = 0)
    (HX : Hid (∀ v, v = x * x + y * y → ∀ w, Calls Try.prog 32 #[.int .i64 v] w fun e w' => e = .returned (.int .i64 nn) ∧ w' = w))
    (HP : Hid (∀ w, Calls Try.prog 34 #[.int .i64 nn, .int .i64 33554381] w fun e w' => e = .returned (.int .i64 ii) ∧ w' = w))
    (HY : Hid (∀ v, v = x * ii → ∀ w, Calls Try.prog 32 #[.int .i64 v] w fun e w' => e = .returned (.int .i64 m) ∧ w' = w))
    (HZ : Hid (∀ v, v = t * ii → ∀ w, Calls Try.prog 32 #[.int .i64 v] w fun e w' => e = .returned (.int .i64 n) ∧ w' = w))
    (w1 : IntKind.i64.wrap (x * x) = x * x) (w2 : IntKind.i64.wrap (y * y) = y * y) (w3 : IntKind.i64.wrap (x * x + y * y) = x * x + y * y)
    (w4 : IntKind.i64.wrap (x * ii) = x * ii) (w5 : IntKind.i64.wrap (33554383 - y) = 33554383 - y) (w6 : (33554383 - y).tmod 33554383 = t) (_w7 : IntKind.i64.wrap t = t) (w8 : IntKind.i64.wrap (t * ii) = t * ii) :
    Calls Try.prog 21 #[.agg #[.int .i64 x, .int .i64 y]] w fun e w' => e = .returned (.tuple #[.agg #[.int .i64 m, .int .i64 n], .bool true]) ∧ Below w.heap.size w w' := by
  go_enter Try.func21, Try.ntmps21
  go_wp2_with fail
  refine (HX.out _ (by first | with_reducible rfl | simp only [w1, w2, w3, w4, w5, w6, w8]) _).mono ?_
  rintro e w' ⟨rfl, rfl⟩
  go_wp2_with fail
  refine (HP.out _).mono ?_
  rintro e w' ⟨rfl, rfl⟩
  go_wp2_with fail
  go_region_held3 (fun w' => w'.cell? ⟨w.heap.size, 0, none⟩ = some (.int .i64 x) ∧ w'.cell? ⟨w.heap.size, 1, none⟩ = some (.int .i64 y)) (go_keep)
    (first
      | (go_at_call 32; refine (HY.out _ (by first | with_reducible rfl | simp only [w1, w2, w3, w4, w5, w6, w8]) _).mono ?_; rintro e w3 ⟨rfl, rfl⟩)
      | (go_at_call 32; refine (HZ.out _ (by first | with_reducible rfl | simp only [w1, w2, w3, w4, w5, w6, w8]) _).mono ?_; rintro e w3 ⟨rfl, rfl⟩))
  go_wp2
  refine bodyPost_ret (v := .tuple #[.agg #[.int .i64 m, .int .i64 n], .bool true]) (by simp [results, Try.results21, go_sem]) rfl ⟨rfl, ?_⟩
  exact (below_new (below_new (Below.refl _ w) _) _).drew
theorem rInv_right (z : Pr) (hz : z.right) (h0 : z ≠ Pr.zero) (w : World) :
    Calls Try.prog 21 #[.agg #[.int .i64 z.re, .int .i64 z.im]] w fun e w' => e = .returned (.tuple #[.agg #[.int .i64 (invP z).re, .int .i64 (invP z).im], .bool true]) ∧ Below w.heap.size w w' := by
  have hn : ¬ normP z = 0 := fun e => h0 ((norm_iff z hz).1 e)
  have nr := mod_right (z.re * z.re + z.im * z.im)
  have ir := mod_right (normP z ^ 33554381)
  have HP := rpower_any (normP z) 33554381 nr (by decide)
  have ei : invP z = ⟨z.re * (normP z ^ 33554381 % pI) % pI, (pI - z.im) % pI * (normP z ^ 33554381 % pI) % pI⟩ := rfl
  rw [ei]
  generalize normP z ^ 33554381 % pI = ii at *
  obtain ⟨h1, h2, h3, h4⟩ := hz
  have tr := mod_right (pI - z.im)
  have hp : pI = 33554383 := rfl
  rw [hp] at h2 h4 ir tr nr ⊢
  have g1 := mul_lt26 z.re z.re (by omega) (by omega)
  have g2 := mul_lt26 z.im z.im (by omega) (by omega)
  have g3 := mul_lt26 z.re ii (by omega) (by omega)
  have g4 := mul_lt26 ((33554383 - z.im) % 33554383) ii tr (by omega)
  exact rInv_core z.re z.im (normP z) ii ((33554383 - z.im) % 33554383) _ _ w hn (rmod_is _ (by omega)) HP (rmod_is _ (by omega)) (rmod_is _ (by omega)) (wrap_id _ (by omega)) (wrap_id _ (by omega)) (wrap_id _ (by omega)) (wrap_id _ (by omega)) (wrap_id _ (by omega)) (Int.tmod_eq_emod_of_nonneg (by omega)) (wrap_id _ (by omega)) (wrap_id _ (by omega))

end Go.Proofs.Ytjkediidbbpnjaa
