import Derived.Test.YtnbomaalncjkeaaW11
namespace Go.Proofs.Ytnbomaalncjkeaa
open Go.RowKit

set_option maxHeartbeats 800000 in
theorem same_any (ao co : Option Addr) (cap dap : Nat) (l : List It) (w : World) (hc : ItemsAt w ao l) (hd : ItemsAt w co l) (hlen : l.length ≤ maxLen) :
    Calls Try.prog 14 #[.slice ao l.length cap, .slice co l.length dap] w fun e w' => e = .returned (.bool true) ∧ ∃ n, w' = w.drewN n := by
  have HC := hide hc
  have HD := hide hd
  clear hc hd
  unfold maxLen at hlen
  go_enter Try.func14, Try.ntmps14
  go_wp2
  go_loopw [5] (fun i wv => ∃ q n : Nat, q ≤ l.length ∧ i = .int .i64 q ∧ wv = w.drewN n) (fun i _ => l.length - (intOf i).toNat)
  case atStart => exact ⟨0, 0, Nat.zero_le _, rfl, rfl⟩
  case round =>
    obtain ⟨q, n, hq, rfl, rfl⟩ := hrel
    by_cases hql : q < l.length
    · obtain ⟨b, off, rfl, hb, c0, c1, c2⟩ := HC.out q hql
      obtain ⟨b2, off2, rfl, hb2, d0, d1, d2⟩ := HD.out q hql
      generalize l[q] = x at *
      go_wp2
      go_quiet (fail)
      go_wp2
      go_roundw
      case rel => exact ⟨q + 1, n + nq, by omega, by go_num, by first | rfl | exact drewN_drewN _ _ _⟩
      case measure => simp [intOf]; omega
    · go_wp2
      go_ret
      exact ⟨rfl, n, rfl⟩

end Go.Proofs.Ytnbomaalncjkeaa
