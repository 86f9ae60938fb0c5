/-
  carillonref12's RightMember, Majority, as they run (mkvr.py).
-/
import Derived.Test.YtbkglpbkbfopjaaZVM
import Derived.Test.YtbkglpbkbfopjaaProg
namespace Go.Proofs.Ytbkglpbkbfopjaa
open Go.RowKit

attribute [local go_sem ↓] Go.wp_at_zero Go.wp_at_succ
set_option linter.unusedSimpArgs false
set_option linter.unusedVariables false

set_option maxHeartbeats 4000000 in
theorem rmember (m : MB) (w : World) : Calls Try.prog 11 #[m.v] w fun e w' => e = .returned (.bool (decide m.right)) ∧ Below w.heap.size w w' := by
  obtain ⟨n, l⟩ := m
  simp only [MB.v]
  have B0 := hide ((Below.refl w.heap.size w).alloc (Nat.le_refl _) (.cells #[.int .i64 n, .int .i64 l] tMember))
  by_cases h : (MB.mk n l).right
  · rw [decide_eq_true h]
    obtain ⟨h1, h2, h3, h4⟩ := h
    simp only at h1 h2 h3 h4
    go_enter Try.func11, Try.ntmps11
    go_wp2
    go_ret
    exact ⟨rfl, B0.out⟩
  · rw [decide_eq_false h]
    by_cases h1 : 0 ≤ n
    · by_cases h2 : n < 7
      · by_cases h3 : 1 ≤ l
        · have h4 : ¬ l ≤ 9007199254740991 := fun e => h ⟨h1, h2, h3, e⟩
          clear h
          go_enter Try.func11, Try.ntmps11
          go_wp2
          go_ret
          exact ⟨rfl, B0.out⟩
        · clear h
          go_enter Try.func11, Try.ntmps11
          go_wp2
          go_ret
          exact ⟨rfl, B0.out⟩
      · clear h
        go_enter Try.func11, Try.ntmps11
        go_wp2
        go_ret
        exact ⟨rfl, B0.out⟩
    · clear h
      go_enter Try.func11, Try.ntmps11
      go_wp2
      go_ret
      exact ⟨rfl, B0.out⟩
set_option maxHeartbeats 4000000 in
theorem rmajority (v : VW) (ao : Option Addr) (cp : Nat) (w : World) (hl : v.mem.length ≤ 4611686018427387904) : Calls Try.prog 14 #[v.v ao cp] w fun e w' => e = .returned (.int .i64 (v.maj : Nat)) ∧ Below w.heap.size w w' := by
  unfold VW.maj
  simp only [VW.v]
  generalize v.mem.length = n at *
  generalize v.num = k
  have B0 := hide ((Below.refl w.heap.size w).alloc (Nat.le_refl _) (.cells #[.int .i64 k, .slice ao n cp] tView))
  have hq : ((n / 2 + 1 : Nat) : Int) = (n : Int) / 2 + 1 := by omega
  have ht : (n : Int).tdiv 2 = (n : Int) / 2 := Int.tdiv_eq_ediv_of_nonneg (by omega)
  go_enter Try.func14, Try.ntmps14
  go_wp2
  go_ret
  exact ⟨by rw [hq]; simp [ht], B0.out⟩
end Go.Proofs.Ytbkglpbkbfopjaa
