/-
  fitsKind, of any row of the table (mkc3.py)
-/
import Derived.Test.YtoolbbibnegdnaaGreatDoorZC4
namespace Go.Proofs.YtoolbbibnegdnaaGreatDoor
open Go.RowKit

attribute [local go_sem ↓] Go.wp_at_zero Go.wp_at_succ
set_option linter.unusedSimpArgs false
set_option linter.unusedVariables false
theorem fk_ret {W : World} {a : Act} {v : Vfk} {b : Bool} {R : Ending → World → Prop} (hF : Ffk a v) (h2 : v.v2 = .bool b) (h : R (.returned (.bool b)) W) :
    bodyPost Tryz.prog Tryz.f39 R .ret a W := by
  have g2 := slot_get (hF.s2.trans h2)
  refine bodyPost_ret (v := .bool b) ?_ hF.defers h
  simp [results, Tryz.results39, go_sem, g2]
set_option maxHeartbeats 4000000 in
theorem fits_row (cm : CM) (w : World) (k1 : 1 ≤ cm.kind) (k2 : cm.kind ≤ 11) {f0 f1 f2 f3 f4 f5 : Nat} {p0 : Bool} {p1 : Bool} {p2 : Bool} {p3 : Bool} {p4 : Bool} {p5 : Bool} (hI : ∀ w, (Instr.index 107 (.agg needsA) (.int .i64 cm.kind)).run Tryz.prog w = .ok (.agg #[fnV f0, fnV f1, fnV f2, fnV f3, fnV f4, fnV f5]) w) (e0 : ∀ args w, (callFunc f0 args).run Tryz.prog w = .ok (.enter f0 args) w) (H0 : ∀ w, Calls Tryz.prog f0 #[.string cm.topic] w fun e w' => e = .returned (.bool p0) ∧ w' = w) (e1 : ∀ args w, (callFunc f1 args).run Tryz.prog w = .ok (.enter f1 args) w) (H1 : ∀ w, Calls Tryz.prog f1 #[.string cm.name] w fun e w' => e = .returned (.bool p1) ∧ w' = w) (e2 : ∀ args w, (callFunc f2 args).run Tryz.prog w = .ok (.enter f2 args) w) (H2 : ∀ w, Calls Tryz.prog f2 #[.int .i64 cm.seq] w fun e w' => e = .returned (.bool p2) ∧ w' = w) (e3 : ∀ args w, (callFunc f3 args).run Tryz.prog w = .ok (.enter f3 args) w) (H3 : ∀ w, Calls Tryz.prog f3 #[.string cm.key] w fun e w' => e = .returned (.bool p3) ∧ w' = w) (e4 : ∀ args w, (callFunc f4 args).run Tryz.prog w = .ok (.enter f4 args) w) (H4 : ∀ w, Calls Tryz.prog f4 #[.string cm.val] w fun e w' => e = .returned (.bool p4) ∧ w' = w) (e5 : ∀ args w, (callFunc f5 args).run Tryz.prog w = .ok (.enter f5 args) w) (H5 : ∀ w, Calls Tryz.prog f5 #[.int .i64 cm.n] w fun e w' => e = .returned (.bool p5) ∧ w' = w) :
    Calls Tryz.prog 39 #[cm.v] w fun e w' => e = .returned (.bool (p0 && (p1 && (p2 && (p3 && (p4 && p5)))))) ∧ Below w.heap.size w w' := by
  have HI := hide hI
  have G0 := hide (And.intro H0 e0)
  have G1 := hide (And.intro H1 e1)
  have G2 := hide (And.intro H2 e2)
  have G3 := hide (And.intro H3 e3)
  have G4 := hide (And.intro H4 e4)
  have G5 := hide (And.intro H5 e5)
  have HX := hide (heap_alloc_new w (.cells cm.cells 23))
  have HB := hide ((Below.refl w.heap.size w).alloc (Nat.le_refl _) (.cells cm.cells 23))
  have HC : Hid (∃ cm' : CM, cm' = cm) := ⟨cm, rfl⟩
  have n1 : ¬ cm.kind < 1 := by omega
  have n2 : ¬ cm.kind > 11 := by omega
  clear hI H0 H1 H2 H3 H4 H5 e0 e1 e2 e3 e4 e5 k1 k2
  simp only [CM.v, CM.cells] at *
  go_enter Tryz.func39, Tryz.ntmps39
  go_upto_region 3 with fail
  rename_i Ko hKo
  refine reg_mono (fk_r3 (cm := cm) (by kernel_rfl) _ (v := ⟨_, _, _⟩) ⟨rfl, rfl, rfl, rfl, rfl⟩ rfl HX.out HI.out fun a' w' b3 hF hB hW => hKo _ _ ?_)
  clear hKo
  refine wp_seq (reg_mono (fk_r4 (by kernel_rfl) _ hF rfl rfl ((hW.block _ (heap_lt HX.out)).trans HX.out) hB G0.out.2 G0.out.1 G1.out.2 G1.out.1 G2.out.2 G2.out.1 G3.out.2 G3.out.1 G4.out.2 G4.out.1 G5.out.2 G5.out.1 fun a2 hF2 => ?_))
  refine wp_ret ?_
  exact fk_ret hF2 rfl ⟨rfl, HB.out.trans (hW.mono HB.out.size)⟩
end Go.Proofs.YtoolbbibnegdnaaGreatDoor
/-
  fitsKind and Right, whole (mkc6.py)
-/
namespace Go.Proofs.YtoolbbibnegdnaaGreatDoor
open Go.RowKit

attribute [local go_sem ↓] Go.wp_at_zero Go.wp_at_succ
set_option linter.unusedSimpArgs false
set_option linter.unusedVariables false
set_option maxRecDepth 100000 in
theorem index_1 (w : World) : (Instr.index 107 (.agg needsA) (.int .i64 1)).run Tryz.prog w = .ok (.agg #[fnV 88, fnV 89, fnV 90, fnV 89, fnV 89, fnV 90]) w := by kernel_rfl
set_option maxRecDepth 100000 in
theorem index_2 (w : World) : (Instr.index 107 (.agg needsA) (.int .i64 2)).run Tryz.prog w = .ok (.agg #[fnV 88, fnV 88, fnV 25, fnV 91, fnV 92, fnV 90]) w := by kernel_rfl
set_option maxRecDepth 100000 in
theorem index_3 (w : World) : (Instr.index 107 (.agg needsA) (.int .i64 3)).run Tryz.prog w = .ok (.agg #[fnV 88, fnV 88, fnV 90, fnV 89, fnV 89, fnV 47]) w := by kernel_rfl
set_option maxRecDepth 100000 in
theorem index_4 (w : World) : (Instr.index 107 (.agg needsA) (.int .i64 4)).run Tryz.prog w = .ok (.agg #[fnV 89, fnV 88, fnV 90, fnV 89, fnV 89, fnV 90]) w := by kernel_rfl
set_option maxRecDepth 100000 in
theorem index_5 (w : World) : (Instr.index 107 (.agg needsA) (.int .i64 5)).run Tryz.prog w = .ok (.agg #[fnV 89, fnV 88, fnV 90, fnV 89, fnV 89, fnV 93]) w := by kernel_rfl
set_option maxRecDepth 100000 in
theorem index_6 (w : World) : (Instr.index 107 (.agg needsA) (.int .i64 6)).run Tryz.prog w = .ok (.agg #[fnV 89, fnV 88, fnV 90, fnV 89, fnV 89, fnV 25]) w := by kernel_rfl
set_option maxRecDepth 100000 in
theorem index_7 (w : World) : (Instr.index 107 (.agg needsA) (.int .i64 7)).run Tryz.prog w = .ok (.agg #[fnV 89, fnV 88, fnV 90, fnV 89, fnV 89, fnV 25]) w := by kernel_rfl
set_option maxRecDepth 100000 in
theorem index_8 (w : World) : (Instr.index 107 (.agg needsA) (.int .i64 8)).run Tryz.prog w = .ok (.agg #[fnV 88, fnV 89, fnV 90, fnV 89, fnV 89, fnV 25]) w := by kernel_rfl
set_option maxRecDepth 100000 in
theorem index_9 (w : World) : (Instr.index 107 (.agg needsA) (.int .i64 9)).run Tryz.prog w = .ok (.agg #[fnV 88, fnV 89, fnV 90, fnV 89, fnV 89, fnV 25]) w := by kernel_rfl
set_option maxRecDepth 100000 in
theorem index_10 (w : World) : (Instr.index 107 (.agg needsA) (.int .i64 10)).run Tryz.prog w = .ok (.agg #[fnV 89, fnV 89, fnV 90, fnV 89, fnV 89, fnV 38]) w := by kernel_rfl
set_option maxRecDepth 100000 in
theorem index_11 (w : World) : (Instr.index 107 (.agg needsA) (.int .i64 11)).run Tryz.prog w = .ok (.agg #[fnV 89, fnV 89, fnV 90, fnV 89, fnV 89, fnV 38]) w := by kernel_rfl
set_option maxRecDepth 100000 in
theorem fits_any (c : CM) (hc : c.ok) (k1 : 1 ≤ c.kind) (k2 : c.kind ≤ 11) (w : World) :
    Calls Tryz.prog 39 #[c.v] w fun e w' => e = .returned (.bool (fitsB c)) ∧ Below w.heap.size w w' := by
  obtain ⟨k, t, m, s, y, v, n, o, a⟩ := c
  have h := hc
  simp only at k1 k2
  have hk : k = 1 ∨ k = 2 ∨ k = 3 ∨ k = 4 ∨ k = 5 ∨ k = 6 ∨ k = 7 ∨ k = 8 ∨ k = 9 ∨ k = 10 ∨ k = 11 := by omega
  rcases hk with rfl | rfl | rfl | rfl | rfl | rfl | rfl | rfl | rfl | rfl | rfl
  · refine (fits_row ⟨1, t, m, s, y, v, n, o, a⟩ w k1 k2 index_1 (enters_of Tryz.func88 (by kernel_rfl) rfl) (fun w => pword t h.t w) (enters_of Tryz.func89 (by kernel_rfl) rfl) (fun w => pnotext m w) (enters_of Tryz.func90 (by kernel_rfl) rfl) (fun w => pnonum s w) (enters_of Tryz.func89 (by kernel_rfl) rfl) (fun w => pnotext y w) (enters_of Tryz.func89 (by kernel_rfl) rfl) (fun w => pnotext v w) (enters_of Tryz.func90 (by kernel_rfl) rfl) (fun w => pnonum n w)).mono ?_
    rintro e w' ⟨rfl, hb⟩
    exact ⟨rfl, hb⟩
  · refine (fits_row ⟨2, t, m, s, y, v, n, o, a⟩ w k1 k2 index_2 (enters_of Tryz.func88 (by kernel_rfl) rfl) (fun w => pword t h.t w) (enters_of Tryz.func88 (by kernel_rfl) rfl) (fun w => pword m h.m w) (enters_of Tryz.func25 (by kernel_rfl) rfl) (fun w => pnumber s w) (enters_of Tryz.func91 (by kernel_rfl) rfl) (fun w => pkey y h.y w) (enters_of Tryz.func92 (by kernel_rfl) rfl) (fun w => pvalue v h.v w) (enters_of Tryz.func90 (by kernel_rfl) rfl) (fun w => pnonum n w)).mono ?_
    rintro e w' ⟨rfl, hb⟩
    exact ⟨rfl, hb⟩
  · refine (fits_row ⟨3, t, m, s, y, v, n, o, a⟩ w k1 k2 index_3 (enters_of Tryz.func88 (by kernel_rfl) rfl) (fun w => pword t h.t w) (enters_of Tryz.func88 (by kernel_rfl) rfl) (fun w => pword m h.m w) (enters_of Tryz.func90 (by kernel_rfl) rfl) (fun w => pnonum s w) (enters_of Tryz.func89 (by kernel_rfl) rfl) (fun w => pnotext y w) (enters_of Tryz.func89 (by kernel_rfl) rfl) (fun w => pnotext v w) (enters_of Tryz.func47 (by kernel_rfl) rfl) (fun w => pminus n w)).mono ?_
    rintro e w' ⟨rfl, hb⟩
    exact ⟨rfl, hb⟩
  · refine (fits_row ⟨4, t, m, s, y, v, n, o, a⟩ w k1 k2 index_4 (enters_of Tryz.func89 (by kernel_rfl) rfl) (fun w => pnotext t w) (enters_of Tryz.func88 (by kernel_rfl) rfl) (fun w => pword m h.m w) (enters_of Tryz.func90 (by kernel_rfl) rfl) (fun w => pnonum s w) (enters_of Tryz.func89 (by kernel_rfl) rfl) (fun w => pnotext y w) (enters_of Tryz.func89 (by kernel_rfl) rfl) (fun w => pnotext v w) (enters_of Tryz.func90 (by kernel_rfl) rfl) (fun w => pnonum n w)).mono ?_
    rintro e w' ⟨rfl, hb⟩
    exact ⟨rfl, hb⟩
  · refine (fits_row ⟨5, t, m, s, y, v, n, o, a⟩ w k1 k2 index_5 (enters_of Tryz.func89 (by kernel_rfl) rfl) (fun w => pnotext t w) (enters_of Tryz.func88 (by kernel_rfl) rfl) (fun w => pword m h.m w) (enters_of Tryz.func90 (by kernel_rfl) rfl) (fun w => pnonum s w) (enters_of Tryz.func89 (by kernel_rfl) rfl) (fun w => pnotext y w) (enters_of Tryz.func89 (by kernel_rfl) rfl) (fun w => pnotext v w) (enters_of Tryz.func93 (by kernel_rfl) rfl) (fun w => pmany n w)).mono ?_
    rintro e w' ⟨rfl, hb⟩
    exact ⟨rfl, hb⟩
  · refine (fits_row ⟨6, t, m, s, y, v, n, o, a⟩ w k1 k2 index_6 (enters_of Tryz.func89 (by kernel_rfl) rfl) (fun w => pnotext t w) (enters_of Tryz.func88 (by kernel_rfl) rfl) (fun w => pword m h.m w) (enters_of Tryz.func90 (by kernel_rfl) rfl) (fun w => pnonum s w) (enters_of Tryz.func89 (by kernel_rfl) rfl) (fun w => pnotext y w) (enters_of Tryz.func89 (by kernel_rfl) rfl) (fun w => pnotext v w) (enters_of Tryz.func25 (by kernel_rfl) rfl) (fun w => pnumber n w)).mono ?_
    rintro e w' ⟨rfl, hb⟩
    exact ⟨rfl, hb⟩
  · refine (fits_row ⟨7, t, m, s, y, v, n, o, a⟩ w k1 k2 index_7 (enters_of Tryz.func89 (by kernel_rfl) rfl) (fun w => pnotext t w) (enters_of Tryz.func88 (by kernel_rfl) rfl) (fun w => pword m h.m w) (enters_of Tryz.func90 (by kernel_rfl) rfl) (fun w => pnonum s w) (enters_of Tryz.func89 (by kernel_rfl) rfl) (fun w => pnotext y w) (enters_of Tryz.func89 (by kernel_rfl) rfl) (fun w => pnotext v w) (enters_of Tryz.func25 (by kernel_rfl) rfl) (fun w => pnumber n w)).mono ?_
    rintro e w' ⟨rfl, hb⟩
    exact ⟨rfl, hb⟩
  · refine (fits_row ⟨8, t, m, s, y, v, n, o, a⟩ w k1 k2 index_8 (enters_of Tryz.func88 (by kernel_rfl) rfl) (fun w => pword t h.t w) (enters_of Tryz.func89 (by kernel_rfl) rfl) (fun w => pnotext m w) (enters_of Tryz.func90 (by kernel_rfl) rfl) (fun w => pnonum s w) (enters_of Tryz.func89 (by kernel_rfl) rfl) (fun w => pnotext y w) (enters_of Tryz.func89 (by kernel_rfl) rfl) (fun w => pnotext v w) (enters_of Tryz.func25 (by kernel_rfl) rfl) (fun w => pnumber n w)).mono ?_
    rintro e w' ⟨rfl, hb⟩
    exact ⟨rfl, hb⟩
  · refine (fits_row ⟨9, t, m, s, y, v, n, o, a⟩ w k1 k2 index_9 (enters_of Tryz.func88 (by kernel_rfl) rfl) (fun w => pword t h.t w) (enters_of Tryz.func89 (by kernel_rfl) rfl) (fun w => pnotext m w) (enters_of Tryz.func90 (by kernel_rfl) rfl) (fun w => pnonum s w) (enters_of Tryz.func89 (by kernel_rfl) rfl) (fun w => pnotext y w) (enters_of Tryz.func89 (by kernel_rfl) rfl) (fun w => pnotext v w) (enters_of Tryz.func25 (by kernel_rfl) rfl) (fun w => pnumber n w)).mono ?_
    rintro e w' ⟨rfl, hb⟩
    exact ⟨rfl, hb⟩
  · refine (fits_row ⟨10, t, m, s, y, v, n, o, a⟩ w k1 k2 index_10 (enters_of Tryz.func89 (by kernel_rfl) rfl) (fun w => pnotext t w) (enters_of Tryz.func89 (by kernel_rfl) rfl) (fun w => pnotext m w) (enters_of Tryz.func90 (by kernel_rfl) rfl) (fun w => pnonum s w) (enters_of Tryz.func89 (by kernel_rfl) rfl) (fun w => pnotext y w) (enters_of Tryz.func89 (by kernel_rfl) rfl) (fun w => pnotext v w) (enters_of Tryz.func38 (by kernel_rfl) rfl) (fun w => pnode n w)).mono ?_
    rintro e w' ⟨rfl, hb⟩
    exact ⟨rfl, hb⟩
  · refine (fits_row ⟨11, t, m, s, y, v, n, o, a⟩ w k1 k2 index_11 (enters_of Tryz.func89 (by kernel_rfl) rfl) (fun w => pnotext t w) (enters_of Tryz.func89 (by kernel_rfl) rfl) (fun w => pnotext m w) (enters_of Tryz.func90 (by kernel_rfl) rfl) (fun w => pnonum s w) (enters_of Tryz.func89 (by kernel_rfl) rfl) (fun w => pnotext y w) (enters_of Tryz.func89 (by kernel_rfl) rfl) (fun w => pnotext v w) (enters_of Tryz.func38 (by kernel_rfl) rfl) (fun w => pnode n w)).mono ?_
    rintro e w' ⟨rfl, hb⟩
    exact ⟨rfl, hb⟩
set_option maxHeartbeats 1000000 in
theorem fits_no (c : CM) (hk : kindOk c.kind = false) (w : World) :
    Calls Tryz.prog 39 #[c.v] w fun e w' => e = .returned (.bool false) ∧ Below w.heap.size w w' := by
  obtain ⟨k, t, m, s, y, v, n, o, a⟩ := c
  simp only [CM.v, CM.cells, kindOk] at *
  by_cases h1 : k < 1
  · clear hk
    go_enter Tryz.func39, Tryz.ntmps39
    go_wp2
    go_ret
    exact ⟨rfl, (Below.refl _ _).alloc (Nat.le_refl _) _⟩
  · have h2 : k > 11 := by
      by_cases h3 : k ≤ 11
      · rw [decide_eq_true (show 1 ≤ k by omega), decide_eq_true h3] at hk
        cases hk
      · omega
    clear hk
    go_enter Tryz.func39, Tryz.ntmps39
    go_wp2
    go_ret
    exact ⟨rfl, (Below.refl _ _).alloc (Nat.le_refl _) _⟩
theorem pfits (c : CM) (hc : c.ok) (w : World) :
    Calls Tryz.prog 39 #[c.v] w fun e w' => e = .returned (.bool (kindOk c.kind && fitsB c)) ∧ Below w.heap.size w w' := by
  by_cases h : kindOk c.kind = true
  · have h' := h
    unfold kindOk at h'
    simp only [Bool.and_eq_true, decide_eq_true_eq] at h'
    rw [h]
    exact fits_any c hc h'.1 h'.2 w
  · rw [Bool.not_eq_true] at h
    rw [h]
    exact fits_no c h w
set_option maxHeartbeats 2000000 in
theorem pright (c : CM) (hc : c.ok) (w : World) :
    Calls Tryz.prog 17 #[c.v] w fun e w' => e = .returned (.bool c.right) ∧ Below w.heap.size w w' := by
  have HN := hide (fun w => pnode c.node w)
  have HA := hide (fun w => pnumber c.ask w)
  have HF := hide (pfits c hc)
  unfold CM.right
  generalize nodeB c.node = p1 at *
  generalize greatB c.ask = p2 at *
  generalize (kindOk c.kind && fitsB c) = p3 at *
  obtain ⟨k, t, m, s, y, v, n, o, a⟩ := c
  clear hc
  simp only [CM.v, CM.cells] at *
  cases p1
  · go_enter Tryz.func17, Tryz.ntmps17
    go_wp2_with fail
    refine (HN.out _).mono ?_
    rintro e w' ⟨rfl, rfl⟩
    go_wp2
    go_ret
    exact ⟨rfl, (Below.refl _ _).alloc (Nat.le_refl _) _⟩
  · cases p2
    · go_enter Tryz.func17, Tryz.ntmps17
      go_wp2_with fail
      refine (HN.out _).mono ?_
      rintro e w' ⟨rfl, rfl⟩
      go_wp2_with fail
      refine (HA.out _).mono ?_
      rintro e w' ⟨rfl, rfl⟩
      go_wp2
      go_ret
      exact ⟨rfl, (Below.refl _ _).alloc (Nat.le_refl _) _⟩
    · go_enter Tryz.func17, Tryz.ntmps17
      go_wp2_with fail
      refine (HN.out _).mono ?_
      rintro e w' ⟨rfl, rfl⟩
      go_wp2_with fail
      refine (HA.out _).mono ?_
      rintro e w' ⟨rfl, rfl⟩
      go_wp2_with fail
      refine (HF.out _).mono ?_
      rintro e w3 ⟨rfl, b3⟩
      have B3 : Hid (Below w.heap.size w w3) := ((Below.refl _ _).alloc (Nat.le_refl _) _).trans (b3.mono (by simp))
      clear b3
      cases p3
      · go_wp2
        go_ret
        exact ⟨rfl, B3.out⟩
      · go_wp2
        go_ret
        exact ⟨rfl, B3.out⟩
end Go.Proofs.YtoolbbibnegdnaaGreatDoor
