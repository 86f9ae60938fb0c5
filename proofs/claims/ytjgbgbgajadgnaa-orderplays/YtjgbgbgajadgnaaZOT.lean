/-
  The laws' pick and texts, as they run.
-/
import Derived.Test.YtjgbgbgajadgnaaZOQ
namespace Go.Proofs.Ytjgbgbgajadgnaa
open Go.RowKit

attribute [local go_sem ↓] Go.wp_at_zero Go.wp_at_succ
set_option linter.unusedSimpArgs false
set_option linter.unusedVariables false
def pickZ (c n : Int) : Int := (if c < 0 then -(c + 1) else c) % n
theorem pickZ_range (c n : Int) (hn : 0 < n) : 0 ≤ pickZ c n ∧ pickZ c n < n := by
  unfold pickZ
  exact ⟨Int.emod_nonneg _ (by omega), Int.emod_lt_of_pos _ hn⟩
theorem pickZ_neg (c n : Int) (h : c < 0) : pickZ c n = -(c + 1).tmod n := by
  unfold pickZ
  rw [if_pos h, ← Int.neg_tmod, Int.tmod_eq_emod_of_nonneg (by omega)]
theorem pickZ_pos (c n : Int) (h : ¬ c < 0) : pickZ c n = c % n := by
  unfold pickZ
  rw [if_neg h]
set_option maxRecDepth 100000 in
set_option maxHeartbeats 4000000 in
theorem ppick (c n : Int) (w : World) (hc : -9223372036854775808 ≤ c ∧ c ≤ 9223372036854775807) (hn : 0 < n ∧ n ≤ 1000000) : Calls Try.prog 12 #[.int .i64 c, .int .i64 n] w fun e w' => e = .returned (.int .i64 (pickZ c n)) ∧ w' = w := by
  have hr := pickZ_range c n hn.1
  have hn0 : n ≠ 0 := by omega
  by_cases h : c < 0
  · have e := pickZ_neg c n h
    go_enter Try.func12, Try.ntmps12
    go_wp2
    go_ret
    exact ⟨by rw [e]; rfl, rfl⟩
  · have e := pickZ_pos c n h
    go_enter Try.func12, Try.ntmps12
    go_wp2
    go_ret
    exact ⟨by first | rfl | (rw [e]; rfl), rfl⟩
/-- Which of n it is. -/
theorem ppickN (c : Int) (n : Nat) (w : World) (hc : -9223372036854775808 ≤ c ∧ c ≤ 9223372036854775807) (hn : 0 < n ∧ n ≤ 1000000) : ∃ k : Nat, k < n ∧ ∀ w, Calls Try.prog 12 #[.int .i64 c, .int .i64 (n : Int)] w fun e w' => e = .returned (.int .i64 (k : Int)) ∧ w' = w := by
  have hr := pickZ_range c n (by omega)
  refine ⟨(pickZ c n).toNat, by omega, fun w => ?_⟩
  have := ppick c n w hc (by omega)
  rw [show pickZ c (n : Int) = (((pickZ c (n : Int)).toNat : Nat) : Int) by omega] at this
  exact this
set_option maxHeartbeats 4000000 in
theorem ptexts (ao bo : Option Addr) (ca cb : Nat) (l : List ByteArray) (w : World) (ha : TextsAt w ao l) (hb : TextsAt w bo l) (hl : l.length ≤ 17592186044416) :
    Calls Try.prog 23 #[.slice ao l.length ca, .slice bo l.length cb] w fun e w' => e = .returned (.bool true) ∧ Below w.heap.size w w' := by
  have HA := hide ha
  have HB := hide hb
  clear ha hb
  go_enter Try.func23, Try.ntmps23
  go_wp2
  go_loopw [5] (fun i wv => ∃ k : Nat, k ≤ l.length ∧ i = .int .i64 (k : Nat) ∧ Hid (Below w.heap.size w wv)) (fun i _ => l.length - (intOf i).toNat)
  case atStart => exact ⟨0, Nat.zero_le _, rfl, Below.refl _ _⟩
  case round =>
    obtain ⟨k, hk, rfl, BV⟩ := hrel
    by_cases hlt : k < l.length
    · obtain ⟨g, off, rfl, _, hc1⟩ := (HA.out.below BV.out) k hlt
      obtain ⟨g2, off2, rfl, _, hc2⟩ := (HB.out.below BV.out) k hlt
      have h0 : (0 : Int) ≤ (k : Int) := by omega
      have h1 : (k : Int) < (l.length : Int) := by omega
      generalize l[k] = x at *
      go_wp2
      go_quiet (fail)
      go_wp2
      exact ⟨⟨k + 1, by omega, by go_num, below_drewN BV.out _⟩, by simp [intOf]; omega⟩
    · have hi1 : ¬ (k : Int) < (l.length : Int) := by omega
      go_wp2
      go_ret
      exact ⟨rfl, BV.out⟩
end Go.Proofs.Ytjgbgbgajadgnaa
