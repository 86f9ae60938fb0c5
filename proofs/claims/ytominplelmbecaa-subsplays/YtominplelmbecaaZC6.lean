/-
  fitsKind and Right, whole (mkc6.py)
-/
import Derived.Test.YtominplelmbecaaZC5
namespace Go.Proofs.Ytominplelmbecaa
open Go.RowKit

attribute [local go_sem ↓] Go.wp_at_zero Go.wp_at_succ
set_option linter.unusedSimpArgs false
set_option linter.unusedVariables false
set_option maxRecDepth 100000 in
theorem index_1 (w : World) : (Instr.index 110 (.agg needsA) (.int .i64 1)).run Try.prog w = .ok (.agg #[fnV 30, fnV 65, fnV 66, fnV 65, fnV 65, fnV 66]) w := by kernel_rfl
set_option maxRecDepth 100000 in
theorem index_2 (w : World) : (Instr.index 110 (.agg needsA) (.int .i64 2)).run Try.prog w = .ok (.agg #[fnV 30, fnV 30, fnV 51, fnV 67, fnV 68, fnV 66]) w := by kernel_rfl
set_option maxRecDepth 100000 in
theorem index_3 (w : World) : (Instr.index 110 (.agg needsA) (.int .i64 3)).run Try.prog w = .ok (.agg #[fnV 30, fnV 30, fnV 66, fnV 65, fnV 65, fnV 69]) w := by kernel_rfl
set_option maxRecDepth 100000 in
theorem index_4 (w : World) : (Instr.index 110 (.agg needsA) (.int .i64 4)).run Try.prog w = .ok (.agg #[fnV 65, fnV 30, fnV 66, fnV 65, fnV 65, fnV 66]) w := by kernel_rfl
set_option maxRecDepth 100000 in
theorem index_5 (w : World) : (Instr.index 110 (.agg needsA) (.int .i64 5)).run Try.prog w = .ok (.agg #[fnV 65, fnV 30, fnV 66, fnV 65, fnV 65, fnV 70]) w := by kernel_rfl
set_option maxRecDepth 100000 in
theorem index_6 (w : World) : (Instr.index 110 (.agg needsA) (.int .i64 6)).run Try.prog w = .ok (.agg #[fnV 65, fnV 30, fnV 66, fnV 65, fnV 65, fnV 51]) w := by kernel_rfl
set_option maxRecDepth 100000 in
theorem index_7 (w : World) : (Instr.index 110 (.agg needsA) (.int .i64 7)).run Try.prog w = .ok (.agg #[fnV 65, fnV 30, fnV 66, fnV 65, fnV 65, fnV 51]) w := by kernel_rfl
set_option maxRecDepth 100000 in
theorem index_8 (w : World) : (Instr.index 110 (.agg needsA) (.int .i64 8)).run Try.prog w = .ok (.agg #[fnV 30, fnV 65, fnV 66, fnV 65, fnV 65, fnV 51]) w := by kernel_rfl
set_option maxRecDepth 100000 in
theorem index_9 (w : World) : (Instr.index 110 (.agg needsA) (.int .i64 9)).run Try.prog w = .ok (.agg #[fnV 30, fnV 65, fnV 66, fnV 65, fnV 65, fnV 51]) w := by kernel_rfl
set_option maxRecDepth 100000 in
theorem index_10 (w : World) : (Instr.index 110 (.agg needsA) (.int .i64 10)).run Try.prog w = .ok (.agg #[fnV 65, fnV 65, fnV 66, fnV 65, fnV 65, fnV 50]) w := by kernel_rfl
set_option maxRecDepth 100000 in
theorem index_11 (w : World) : (Instr.index 110 (.agg needsA) (.int .i64 11)).run Try.prog w = .ok (.agg #[fnV 65, fnV 65, fnV 66, fnV 65, fnV 65, fnV 50]) w := by kernel_rfl
set_option maxRecDepth 100000 in
theorem fits_any (c : CM) (hc : c.ok) (k1 : 1 ≤ c.kind) (k2 : c.kind ≤ 11) (w : World) :
    Calls Try.prog 52 #[c.v] w fun e w' => e = .returned (.bool (fitsB c)) ∧ Below w.heap.size w w' := by
  obtain ⟨k, t, m, s, y, v, n, o, a⟩ := c
  have h := hc
  simp only at k1 k2
  have hk : k = 1 ∨ k = 2 ∨ k = 3 ∨ k = 4 ∨ k = 5 ∨ k = 6 ∨ k = 7 ∨ k = 8 ∨ k = 9 ∨ k = 10 ∨ k = 11 := by omega
  rcases hk with rfl | rfl | rfl | rfl | rfl | rfl | rfl | rfl | rfl | rfl | rfl
  · refine (fits_row ⟨1, t, m, s, y, v, n, o, a⟩ w k1 k2 index_1 (enters_of Try.func30 (by kernel_rfl) rfl) (fun w => pword t h.t w) (enters_of Try.func65 (by kernel_rfl) rfl) (fun w => pnotext m w) (enters_of Try.func66 (by kernel_rfl) rfl) (fun w => pnonum s w) (enters_of Try.func65 (by kernel_rfl) rfl) (fun w => pnotext y w) (enters_of Try.func65 (by kernel_rfl) rfl) (fun w => pnotext v w) (enters_of Try.func66 (by kernel_rfl) rfl) (fun w => pnonum n w)).mono ?_
    rintro e w' ⟨rfl, hb⟩
    exact ⟨rfl, hb⟩
  · refine (fits_row ⟨2, t, m, s, y, v, n, o, a⟩ w k1 k2 index_2 (enters_of Try.func30 (by kernel_rfl) rfl) (fun w => pword t h.t w) (enters_of Try.func30 (by kernel_rfl) rfl) (fun w => pword m h.m w) (enters_of Try.func51 (by kernel_rfl) rfl) (fun w => pnumber s w) (enters_of Try.func67 (by kernel_rfl) rfl) (fun w => pkey y h.y w) (enters_of Try.func68 (by kernel_rfl) rfl) (fun w => pvalue v h.v w) (enters_of Try.func66 (by kernel_rfl) rfl) (fun w => pnonum n w)).mono ?_
    rintro e w' ⟨rfl, hb⟩
    exact ⟨rfl, hb⟩
  · refine (fits_row ⟨3, t, m, s, y, v, n, o, a⟩ w k1 k2 index_3 (enters_of Try.func30 (by kernel_rfl) rfl) (fun w => pword t h.t w) (enters_of Try.func30 (by kernel_rfl) rfl) (fun w => pword m h.m w) (enters_of Try.func66 (by kernel_rfl) rfl) (fun w => pnonum s w) (enters_of Try.func65 (by kernel_rfl) rfl) (fun w => pnotext y w) (enters_of Try.func65 (by kernel_rfl) rfl) (fun w => pnotext v w) (enters_of Try.func69 (by kernel_rfl) rfl) (fun w => pminus n w)).mono ?_
    rintro e w' ⟨rfl, hb⟩
    exact ⟨rfl, hb⟩
  · refine (fits_row ⟨4, t, m, s, y, v, n, o, a⟩ w k1 k2 index_4 (enters_of Try.func65 (by kernel_rfl) rfl) (fun w => pnotext t w) (enters_of Try.func30 (by kernel_rfl) rfl) (fun w => pword m h.m w) (enters_of Try.func66 (by kernel_rfl) rfl) (fun w => pnonum s w) (enters_of Try.func65 (by kernel_rfl) rfl) (fun w => pnotext y w) (enters_of Try.func65 (by kernel_rfl) rfl) (fun w => pnotext v w) (enters_of Try.func66 (by kernel_rfl) rfl) (fun w => pnonum n w)).mono ?_
    rintro e w' ⟨rfl, hb⟩
    exact ⟨rfl, hb⟩
  · refine (fits_row ⟨5, t, m, s, y, v, n, o, a⟩ w k1 k2 index_5 (enters_of Try.func65 (by kernel_rfl) rfl) (fun w => pnotext t w) (enters_of Try.func30 (by kernel_rfl) rfl) (fun w => pword m h.m w) (enters_of Try.func66 (by kernel_rfl) rfl) (fun w => pnonum s w) (enters_of Try.func65 (by kernel_rfl) rfl) (fun w => pnotext y w) (enters_of Try.func65 (by kernel_rfl) rfl) (fun w => pnotext v w) (enters_of Try.func70 (by kernel_rfl) rfl) (fun w => pmany n w)).mono ?_
    rintro e w' ⟨rfl, hb⟩
    exact ⟨rfl, hb⟩
  · refine (fits_row ⟨6, t, m, s, y, v, n, o, a⟩ w k1 k2 index_6 (enters_of Try.func65 (by kernel_rfl) rfl) (fun w => pnotext t w) (enters_of Try.func30 (by kernel_rfl) rfl) (fun w => pword m h.m w) (enters_of Try.func66 (by kernel_rfl) rfl) (fun w => pnonum s w) (enters_of Try.func65 (by kernel_rfl) rfl) (fun w => pnotext y w) (enters_of Try.func65 (by kernel_rfl) rfl) (fun w => pnotext v w) (enters_of Try.func51 (by kernel_rfl) rfl) (fun w => pnumber n w)).mono ?_
    rintro e w' ⟨rfl, hb⟩
    exact ⟨rfl, hb⟩
  · refine (fits_row ⟨7, t, m, s, y, v, n, o, a⟩ w k1 k2 index_7 (enters_of Try.func65 (by kernel_rfl) rfl) (fun w => pnotext t w) (enters_of Try.func30 (by kernel_rfl) rfl) (fun w => pword m h.m w) (enters_of Try.func66 (by kernel_rfl) rfl) (fun w => pnonum s w) (enters_of Try.func65 (by kernel_rfl) rfl) (fun w => pnotext y w) (enters_of Try.func65 (by kernel_rfl) rfl) (fun w => pnotext v w) (enters_of Try.func51 (by kernel_rfl) rfl) (fun w => pnumber n w)).mono ?_
    rintro e w' ⟨rfl, hb⟩
    exact ⟨rfl, hb⟩
  · refine (fits_row ⟨8, t, m, s, y, v, n, o, a⟩ w k1 k2 index_8 (enters_of Try.func30 (by kernel_rfl) rfl) (fun w => pword t h.t w) (enters_of Try.func65 (by kernel_rfl) rfl) (fun w => pnotext m w) (enters_of Try.func66 (by kernel_rfl) rfl) (fun w => pnonum s w) (enters_of Try.func65 (by kernel_rfl) rfl) (fun w => pnotext y w) (enters_of Try.func65 (by kernel_rfl) rfl) (fun w => pnotext v w) (enters_of Try.func51 (by kernel_rfl) rfl) (fun w => pnumber n w)).mono ?_
    rintro e w' ⟨rfl, hb⟩
    exact ⟨rfl, hb⟩
  · refine (fits_row ⟨9, t, m, s, y, v, n, o, a⟩ w k1 k2 index_9 (enters_of Try.func30 (by kernel_rfl) rfl) (fun w => pword t h.t w) (enters_of Try.func65 (by kernel_rfl) rfl) (fun w => pnotext m w) (enters_of Try.func66 (by kernel_rfl) rfl) (fun w => pnonum s w) (enters_of Try.func65 (by kernel_rfl) rfl) (fun w => pnotext y w) (enters_of Try.func65 (by kernel_rfl) rfl) (fun w => pnotext v w) (enters_of Try.func51 (by kernel_rfl) rfl) (fun w => pnumber n w)).mono ?_
    rintro e w' ⟨rfl, hb⟩
    exact ⟨rfl, hb⟩
  · refine (fits_row ⟨10, t, m, s, y, v, n, o, a⟩ w k1 k2 index_10 (enters_of Try.func65 (by kernel_rfl) rfl) (fun w => pnotext t w) (enters_of Try.func65 (by kernel_rfl) rfl) (fun w => pnotext m w) (enters_of Try.func66 (by kernel_rfl) rfl) (fun w => pnonum s w) (enters_of Try.func65 (by kernel_rfl) rfl) (fun w => pnotext y w) (enters_of Try.func65 (by kernel_rfl) rfl) (fun w => pnotext v w) (enters_of Try.func50 (by kernel_rfl) rfl) (fun w => pnode n w)).mono ?_
    rintro e w' ⟨rfl, hb⟩
    exact ⟨rfl, hb⟩
  · refine (fits_row ⟨11, t, m, s, y, v, n, o, a⟩ w k1 k2 index_11 (enters_of Try.func65 (by kernel_rfl) rfl) (fun w => pnotext t w) (enters_of Try.func65 (by kernel_rfl) rfl) (fun w => pnotext m w) (enters_of Try.func66 (by kernel_rfl) rfl) (fun w => pnonum s w) (enters_of Try.func65 (by kernel_rfl) rfl) (fun w => pnotext y w) (enters_of Try.func65 (by kernel_rfl) rfl) (fun w => pnotext v w) (enters_of Try.func50 (by kernel_rfl) rfl) (fun w => pnode n w)).mono ?_
    rintro e w' ⟨rfl, hb⟩
    exact ⟨rfl, hb⟩
set_option maxHeartbeats 1000000 in
theorem fits_no (c : CM) (hk : kindOk c.kind = false) (w : World) :
    Calls Try.prog 52 #[c.v] w fun e w' => e = .returned (.bool false) ∧ Below w.heap.size w w' := by
  obtain ⟨k, t, m, s, y, v, n, o, a⟩ := c
  simp only [CM.v, CM.cells, kindOk] at *
  by_cases h1 : k < 1
  · clear hk
    go_enter Try.func52, Try.ntmps52
    go_wp2
    go_ret
    exact ⟨rfl, (Below.refl _ _).alloc (Nat.le_refl _) _⟩
  · have h2 : k > 11 := by
      by_cases h3 : k ≤ 11
      · rw [decide_eq_true (show 1 ≤ k by omega), decide_eq_true h3] at hk
        cases hk
      · omega
    clear hk
    go_enter Try.func52, Try.ntmps52
    go_wp2
    go_ret
    exact ⟨rfl, (Below.refl _ _).alloc (Nat.le_refl _) _⟩
theorem pfits (c : CM) (hc : c.ok) (w : World) :
    Calls Try.prog 52 #[c.v] w fun e w' => e = .returned (.bool (kindOk c.kind && fitsB c)) ∧ Below w.heap.size w w' := by
  by_cases h : kindOk c.kind = true
  · have h' := h
    unfold kindOk at h'
    simp only [Bool.and_eq_true, decide_eq_true_eq] at h'
    rw [h]
    exact fits_any c hc h'.1 h'.2 w
  · rw [Bool.not_eq_true] at h
    rw [h]
    exact fits_no c h w
set_option maxHeartbeats 2000000 in
theorem pright (c : CM) (hc : c.ok) (w : World) :
    Calls Try.prog 33 #[c.v] w fun e w' => e = .returned (.bool c.right) ∧ Below w.heap.size w w' := by
  have HN := hide (fun w => pnode c.node w)
  have HA := hide (fun w => pnumber c.ask w)
  have HF := hide (pfits c hc)
  unfold CM.right
  generalize nodeB c.node = p1 at *
  generalize greatB c.ask = p2 at *
  generalize (kindOk c.kind && fitsB c) = p3 at *
  obtain ⟨k, t, m, s, y, v, n, o, a⟩ := c
  clear hc
  simp only [CM.v, CM.cells] at *
  cases p1
  · go_enter Try.func33, Try.ntmps33
    go_wp2_with fail
    refine (HN.out _).mono ?_
    rintro e w' ⟨rfl, rfl⟩
    go_wp2
    go_ret
    exact ⟨rfl, (Below.refl _ _).alloc (Nat.le_refl _) _⟩
  · cases p2
    · go_enter Try.func33, Try.ntmps33
      go_wp2_with fail
      refine (HN.out _).mono ?_
      rintro e w' ⟨rfl, rfl⟩
      go_wp2_with fail
      refine (HA.out _).mono ?_
      rintro e w' ⟨rfl, rfl⟩
      go_wp2
      go_ret
      exact ⟨rfl, (Below.refl _ _).alloc (Nat.le_refl _) _⟩
    · go_enter Try.func33, Try.ntmps33
      go_wp2_with fail
      refine (HN.out _).mono ?_
      rintro e w' ⟨rfl, rfl⟩
      go_wp2_with fail
      refine (HA.out _).mono ?_
      rintro e w' ⟨rfl, rfl⟩
      go_wp2_with fail
      refine (HF.out _).mono ?_
      rintro e w3 ⟨rfl, b3⟩
      have B3 : Hid (Below w.heap.size w w3) := ((Below.refl _ _).alloc (Nat.le_refl _) _).trans (b3.mono (by simp))
      clear b3
      cases p3
      · go_wp2
        go_ret
        exact ⟨rfl, B3.out⟩
      · go_wp2
        go_ret
        exact ⟨rfl, B3.out⟩
end Go.Proofs.Ytominplelmbecaa
