/-
  Which of some things a number speaks of.
-/
import Derived.Test.YthgfijmpofbchaaZD1
namespace Go.Proofs.Ythgfijmpofbchaa
open Go.RowKit

def pickZ (c n : Int) : Int := (if c < 0 then -(c + 1) else c) % n
theorem pickZ_range (c n : Int) (hn : 0 < n) : 0 ≤ pickZ c n ∧ pickZ c n < n := by
  unfold pickZ
  exact ⟨Int.emod_nonneg _ (by omega), Int.emod_lt_of_pos _ hn⟩
theorem pickZ_neg (c n : Int) (h : c < 0) : pickZ c n = -(c + 1).tmod n := by
  unfold pickZ
  rw [if_pos h, ← Int.neg_tmod, Int.tmod_eq_emod_of_nonneg (by omega)]
theorem pickZ_pos (c n : Int) (h : ¬ c < 0) : pickZ c n = c % n := by
  unfold pickZ
  rw [if_neg h]
set_option maxRecDepth 100000 in
set_option maxHeartbeats 4000000 in
theorem pick_any (c n : Int) (w : World) (hc : -9223372036854775808 ≤ c ∧ c ≤ 9223372036854775807) (hn : 0 < n ∧ n ≤ 1000000) : Calls Try.prog 8 #[.int .i64 c, .int .i64 n] w fun e w' => e = .returned (.int .i64 (pickZ c n)) ∧ w' = w := by
  have hr := pickZ_range c n hn.1
  have hn0 : n ≠ 0 := by omega
  by_cases h : c < 0
  · have e := pickZ_neg c n h
    go_enter Try.func8, Try.ntmps8
    go_wp2
    go_ret
    exact ⟨by rw [e]; rfl, rfl⟩
  · have e := pickZ_pos c n h
    go_enter Try.func8, Try.ntmps8
    go_wp2
    go_ret
    exact ⟨by first | rfl | (rw [e]; rfl), rfl⟩
end Go.Proofs.Ythgfijmpofbchaa
