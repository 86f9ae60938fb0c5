/-
  carillonref05's New, as it runs.
-/
import Derived.Test.YtjmfimllaejpnaaY6
namespace Go.Proofs.Ytjmfimllaejpnaa
open Go.RowKit Go.Maps

theorem ynew_bad (n : Int) (w : World) (h : n < 1 ∨ 7 < n) : Calls Try.prog 6 #[.int .i64 n] w fun e w' => e = .returned (.pointer none) ∧ w' = w := by
  by_cases h1 : n < 1
  · clear h
    go_enter Try.func6, Try.ntmps6
    go_wp2
    go_ret
    exact ⟨rfl, rfl⟩
  · have h2 : 7 < n := by omega
    clear h
    go_enter Try.func6, Try.ntmps6
    go_wp2
    go_ret
    exact ⟨rfl, rfl⟩
def nils (k : Nat) : Array Value := (List.replicate k (Value.slice none 0 0)).toArray
theorem yfresh (n : Nat) (w : World) (hn : 1 ≤ n ∧ n ≤ 7) : YR ((w.alloc (.cells (nils (n * n)) 52)).alloc (.cells #[.int .i64 n, .slice (some ⟨w.heap.size, 0, none⟩) (n * n) (n * n), .int .i64 0] 47)) (w.heap.size + 1) n 0 (fun _ _ => []) ⟨w.heap.size, fun _ => .slice none 0 0⟩ := by
  have hq : ∀ k, qk n (fun _ _ => []) k = [] := fun k => by unfold qk; split <;> rfl
  refine ⟨hn, by omega, ?_, ⟨nils (n * n), ?_, by simp [nils], fun k hk => by simp [nils, hk]⟩, fun k _ => ?_, fun k _ => by rw [hq]; simp, fun k k' _ _ _ j hj => by cases hj⟩
  · have h := heap_alloc_new (w.alloc (.cells (nils (n * n)) 52)) (.cells #[.int .i64 n, .slice (some ⟨w.heap.size, 0, none⟩) (n * n) (n * n), .int .i64 0] 47)
    simpa using h
  · exact box_alloc (heap_alloc_new w _) _
  · rw [hq]
    exact World.ownsRow_nil _ _ _ _
theorem yfresh_own (n : Nat) (w : World) (j : Nat) (h : YG.own ⟨w.heap.size, fun _ => .slice none 0 0⟩ (w.heap.size + 1) n j) : w.heap.size ≤ j := by
  rcases h with h | h | ⟨k, _, e⟩
  · omega
  · simp at h; omega
  · cases e
theorem ymake1 (w : World) : (Instr.makeSlice 45 (.int .i64 1) (.int .i64 1)).run Try.prog w = .ok (.slice (some ⟨w.heap.size, 0, none⟩) 1 1) (w.alloc (.cells (nils 1) 52)) := by kernel_rfl
theorem ynew1 (w : World) : Calls Try.prog 6 #[.int .i64 1] w fun e w' => e = .returned (.pointer (some ⟨w.heap.size + 1, 0, none⟩)) ∧ w' = (w.alloc (.cells (nils 1) 52)).alloc (.cells #[.int .i64 1, .slice (some ⟨w.heap.size, 0, none⟩) 1 1, .int .i64 0] 47) := by
  have hmk := ymake1
  go_enter Try.func6, Try.ntmps6
  go_wp2
  go_ret
  exact ⟨by simp, rfl⟩
theorem ymake2 (w : World) : (Instr.makeSlice 45 (.int .i64 4) (.int .i64 4)).run Try.prog w = .ok (.slice (some ⟨w.heap.size, 0, none⟩) 4 4) (w.alloc (.cells (nils 4) 52)) := by kernel_rfl
theorem ynew2 (w : World) : Calls Try.prog 6 #[.int .i64 2] w fun e w' => e = .returned (.pointer (some ⟨w.heap.size + 1, 0, none⟩)) ∧ w' = (w.alloc (.cells (nils 4) 52)).alloc (.cells #[.int .i64 2, .slice (some ⟨w.heap.size, 0, none⟩) 4 4, .int .i64 0] 47) := by
  have hmk := ymake2
  go_enter Try.func6, Try.ntmps6
  go_wp2
  go_ret
  exact ⟨by simp, rfl⟩
theorem ymake3 (w : World) : (Instr.makeSlice 45 (.int .i64 9) (.int .i64 9)).run Try.prog w = .ok (.slice (some ⟨w.heap.size, 0, none⟩) 9 9) (w.alloc (.cells (nils 9) 52)) := by kernel_rfl
theorem ynew3 (w : World) : Calls Try.prog 6 #[.int .i64 3] w fun e w' => e = .returned (.pointer (some ⟨w.heap.size + 1, 0, none⟩)) ∧ w' = (w.alloc (.cells (nils 9) 52)).alloc (.cells #[.int .i64 3, .slice (some ⟨w.heap.size, 0, none⟩) 9 9, .int .i64 0] 47) := by
  have hmk := ymake3
  go_enter Try.func6, Try.ntmps6
  go_wp2
  go_ret
  exact ⟨by simp, rfl⟩
theorem ymake4 (w : World) : (Instr.makeSlice 45 (.int .i64 16) (.int .i64 16)).run Try.prog w = .ok (.slice (some ⟨w.heap.size, 0, none⟩) 16 16) (w.alloc (.cells (nils 16) 52)) := by kernel_rfl
theorem ynew4 (w : World) : Calls Try.prog 6 #[.int .i64 4] w fun e w' => e = .returned (.pointer (some ⟨w.heap.size + 1, 0, none⟩)) ∧ w' = (w.alloc (.cells (nils 16) 52)).alloc (.cells #[.int .i64 4, .slice (some ⟨w.heap.size, 0, none⟩) 16 16, .int .i64 0] 47) := by
  have hmk := ymake4
  go_enter Try.func6, Try.ntmps6
  go_wp2
  go_ret
  exact ⟨by simp, rfl⟩
theorem ymake5 (w : World) : (Instr.makeSlice 45 (.int .i64 25) (.int .i64 25)).run Try.prog w = .ok (.slice (some ⟨w.heap.size, 0, none⟩) 25 25) (w.alloc (.cells (nils 25) 52)) := by kernel_rfl
theorem ynew5 (w : World) : Calls Try.prog 6 #[.int .i64 5] w fun e w' => e = .returned (.pointer (some ⟨w.heap.size + 1, 0, none⟩)) ∧ w' = (w.alloc (.cells (nils 25) 52)).alloc (.cells #[.int .i64 5, .slice (some ⟨w.heap.size, 0, none⟩) 25 25, .int .i64 0] 47) := by
  have hmk := ymake5
  go_enter Try.func6, Try.ntmps6
  go_wp2
  go_ret
  exact ⟨by simp, rfl⟩
theorem ymake6 (w : World) : (Instr.makeSlice 45 (.int .i64 36) (.int .i64 36)).run Try.prog w = .ok (.slice (some ⟨w.heap.size, 0, none⟩) 36 36) (w.alloc (.cells (nils 36) 52)) := by kernel_rfl
theorem ynew6 (w : World) : Calls Try.prog 6 #[.int .i64 6] w fun e w' => e = .returned (.pointer (some ⟨w.heap.size + 1, 0, none⟩)) ∧ w' = (w.alloc (.cells (nils 36) 52)).alloc (.cells #[.int .i64 6, .slice (some ⟨w.heap.size, 0, none⟩) 36 36, .int .i64 0] 47) := by
  have hmk := ymake6
  go_enter Try.func6, Try.ntmps6
  go_wp2
  go_ret
  exact ⟨by simp, rfl⟩
theorem ymake7 (w : World) : (Instr.makeSlice 45 (.int .i64 49) (.int .i64 49)).run Try.prog w = .ok (.slice (some ⟨w.heap.size, 0, none⟩) 49 49) (w.alloc (.cells (nils 49) 52)) := by kernel_rfl
theorem ynew7 (w : World) : Calls Try.prog 6 #[.int .i64 7] w fun e w' => e = .returned (.pointer (some ⟨w.heap.size + 1, 0, none⟩)) ∧ w' = (w.alloc (.cells (nils 49) 52)).alloc (.cells #[.int .i64 7, .slice (some ⟨w.heap.size, 0, none⟩) 49 49, .int .i64 0] 47) := by
  have hmk := ymake7
  go_enter Try.func6, Try.ntmps6
  go_wp2
  go_ret
  exact ⟨by simp, rfl⟩
theorem ynew_ok (n : Nat) (w : World) (hn : 1 ≤ n ∧ n ≤ 7) : Calls Try.prog 6 #[.int .i64 n] w fun e w' => ∃ b Y, e = .returned (.pointer (some ⟨b, 0, none⟩)) ∧ YR w' b n 0 (fun _ _ => []) Y ∧ Below w.heap.size w w' ∧ ∀ j, Y.own b n j → w.heap.size ≤ j := by
  have hb : ∀ o o2, Below w.heap.size w ((w.alloc o).alloc o2) := fun o o2 => ((Below.refl _ w).alloc (Nat.le_refl _) o).alloc (by simp) o2
  obtain rfl | rfl | rfl | rfl | rfl | rfl | rfl : n = 1 ∨ n = 2 ∨ n = 3 ∨ n = 4 ∨ n = 5 ∨ n = 6 ∨ n = 7 := by omega
  · refine (ynew1 w).mono ?_
    rintro e w' ⟨rfl, rfl⟩
    exact ⟨_, _, rfl, yfresh 1 w (by omega), hb _ _, yfresh_own 1 w⟩
  · refine (ynew2 w).mono ?_
    rintro e w' ⟨rfl, rfl⟩
    exact ⟨_, _, rfl, yfresh 2 w (by omega), hb _ _, yfresh_own 2 w⟩
  · refine (ynew3 w).mono ?_
    rintro e w' ⟨rfl, rfl⟩
    exact ⟨_, _, rfl, yfresh 3 w (by omega), hb _ _, yfresh_own 3 w⟩
  · refine (ynew4 w).mono ?_
    rintro e w' ⟨rfl, rfl⟩
    exact ⟨_, _, rfl, yfresh 4 w (by omega), hb _ _, yfresh_own 4 w⟩
  · refine (ynew5 w).mono ?_
    rintro e w' ⟨rfl, rfl⟩
    exact ⟨_, _, rfl, yfresh 5 w (by omega), hb _ _, yfresh_own 5 w⟩
  · refine (ynew6 w).mono ?_
    rintro e w' ⟨rfl, rfl⟩
    exact ⟨_, _, rfl, yfresh 6 w (by omega), hb _ _, yfresh_own 6 w⟩
  · refine (ynew7 w).mono ?_
    rintro e w' ⟨rfl, rfl⟩
    exact ⟨_, _, rfl, yfresh 7 w (by omega), hb _ _, yfresh_own 7 w⟩
end Go.Proofs.Ytjmfimllaejpnaa
