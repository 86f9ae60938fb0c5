/-
  replies (mkreplies.py)
-/
import Derived.Test.YtoolbbibnegdnaaGreatDoorZCL
import Derived.Laws.StructEq
import Derived.BigQuiet
import Derived.Deep.QuietTactic
namespace Go.Proofs.YtoolbbibnegdnaaGreatDoor
open Go.RowKit

attribute [local go_sem ↓] Go.wp_at_zero Go.wp_at_succ
set_option linter.unusedSimpArgs false
set_option linter.unusedVariables false
set_option maxHeartbeats 4000000 in
set_option maxRecDepth 100000 in
theorem preplies (r : RP) (ao bo : Option Addr) (ac bc : Nat) (w : World) (hl : r.recs.length ≤ 9223372036854775807) (ha : RecsC w ao r.recs) (hb : RecsC w bo r.recs) :
    Calls Tryz.prog 14 #[r.v ao ac, r.v bo bc] w fun e w' => e = .returned (.bool true) ∧ Below w.heap.size w w' := by
  obtain ⟨cd, n, l⟩ := r
  simp only [RP.v] at *
  have HA := hide (ha.below (((Below.refl w.heap.size w).alloc (Nat.le_refl _) (.cells #[.int .i64 cd, .int .i64 n, .slice ao l.length ac] tRp)).alloc (by simp) (.cells #[.int .i64 cd, .int .i64 n, .slice bo l.length bc] tRp)) (Nat.le_refl _))
  have HB := hide (hb.below (((Below.refl w.heap.size w).alloc (Nat.le_refl _) (.cells #[.int .i64 cd, .int .i64 n, .slice ao l.length ac] tRp)).alloc (by simp) (.cells #[.int .i64 cd, .int .i64 n, .slice bo l.length bc] tRp)) (Nat.le_refl _))
  have HX := hide (heap_up (o' := .cells #[.int .i64 cd, .int .i64 n, .slice bo l.length bc] tRp) (heap_alloc_new w (.cells #[.int .i64 cd, .int .i64 n, .slice ao l.length ac] tRp)))
  have hy := heap_alloc_new (w.alloc (.cells #[.int .i64 cd, .int .i64 n, .slice ao l.length ac] tRp)) (.cells #[.int .i64 cd, .int .i64 n, .slice bo l.length bc] tRp)
  rw [show (w.alloc (.cells #[.int .i64 cd, .int .i64 n, .slice ao l.length ac] tRp)).heap.size = w.heap.size + 1 by simp] at hy
  have HY := hide hy
  have HW := hide (((Below.refl w.heap.size w).alloc (Nat.le_refl _) (.cells #[.int .i64 cd, .int .i64 n, .slice ao l.length ac] tRp)).alloc (by simp) (.cells #[.int .i64 cd, .int .i64 n, .slice bo l.length bc] tRp))
  clear ha hb hy
  go_enter Tryz.func14, Tryz.ntmps14
  go_upto_region 1 with fail
  generalize (w.alloc (.cells #[.int .i64 cd, .int .i64 n, .slice ao l.length ac] tRp)).alloc (.cells #[.int .i64 cd, .int .i64 n, .slice bo l.length bc] tRp) = w1 at *
  have c0 := box_cell HX.out 0 rfl
  have c1 := box_cell HX.out 1 rfl
  have c2 := box_cell HX.out 2 rfl
  have d0 := box_cell HY.out 0 rfl
  have d1 := box_cell HY.out 1 rfl
  have d2 := box_cell HY.out 2 rfl
  go_wp2
  go_loopw [5] (fun iv wv => ∃ k n : Nat, k ≤ l.length ∧ iv = .int .i64 k ∧ wv = w1.drewN n) (fun iv _ => l.length - (intOf iv).toNat)
  case atStart => exact ⟨0, 0, Nat.zero_le _, rfl, rfl⟩
  case round =>
    obtain ⟨k, m, hk, rfl, rfl⟩ := hrel
    by_cases hlt : k < l.length
    · obtain ⟨b, off, rfl, _, a0, a1, a2, a3, a4⟩ := HA.out k hlt
      obtain ⟨b2, off2, rfl, _, b0, b1, b2', b3, b4⟩ := HB.out k hlt
      have hi0 : (0 : Int) ≤ (k : Int) := by omega
      have hi1 : (k : Int) < (l.length : Int) := by omega
      generalize l[k] = x at *
      obtain ⟨xo, xp, xs, xk, xv⟩ := x
      simp only at a0 a1 a2 a3 a4 b0 b1 b2' b3 b4
      go_wp2
      go_quiet (fail)
      go_wp2
      exact ⟨⟨k + 1, m + nq, by omega, by go_num, rfl⟩, by simp [intOf]; omega⟩
    · have hi1 : ¬ (k : Int) < (l.length : Int) := by omega
      go_wp2
      go_ret
      exact ⟨rfl, below_drewN HW.out m⟩
end Go.Proofs.YtoolbbibnegdnaaGreatDoor
