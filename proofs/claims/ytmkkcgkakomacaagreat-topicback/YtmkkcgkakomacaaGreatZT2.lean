/-
  A topic on lists and in memory; New, Low, End, placeOf, as they run.
-/
import Derived.Test.YtmkkcgkakomacaaGreatZC4
import Derived.Test.YtmkkcgkakomacaaGreatZC2
namespace Go.Proofs.YtmkkcgkakomacaaGreat
open Go.RowKit
set_option maxHeartbeats 4000000
attribute [local go_sem ↓] Go.wp_at_zero Go.wp_at_succ
set_option linter.unusedSimpArgs false
set_option linter.unusedVariables false
theorem fk_ret {W : World} {a : Act} {v : Vfk} {b : Bool} {R : Ending → World → Prop} (hF : Ffk a v) (h2 : v.v2 = .bool b) (h : R (.returned (.bool b)) W) :
    bodyPost Tryz.prog Tryz.f58 R .ret a W := by
  have g2 := slot_get (hF.s2.trans h2)
  refine bodyPost_ret (v := .bool b) ?_ hF.defers h
  simp [results, Tryz.results58, go_sem, g2]
theorem fits_row (cm : CM) (w : World) (k1 : 1 ≤ cm.kind) (k2 : cm.kind ≤ 11) {f0 f1 f2 f3 f4 f5 : Nat} {p0 : Bool} {p1 : Bool} {p2 : Bool} {p3 : Bool} {p4 : Bool} {p5 : Bool} (hI : ∀ w, (Instr.index 131 (.agg needsA) (.int .i64 cm.kind)).run Tryz.prog w = .ok (.agg #[fnV f0, fnV f1, fnV f2, fnV f3, fnV f4, fnV f5]) w) (e0 : ∀ args w, (callFunc f0 args).run Tryz.prog w = .ok (.enter f0 args) w) (H0 : ∀ w, Calls Tryz.prog f0 #[.string cm.topic] w fun e w' => e = .returned (.bool p0) ∧ w' = w) (e1 : ∀ args w, (callFunc f1 args).run Tryz.prog w = .ok (.enter f1 args) w) (H1 : ∀ w, Calls Tryz.prog f1 #[.string cm.name] w fun e w' => e = .returned (.bool p1) ∧ w' = w) (e2 : ∀ args w, (callFunc f2 args).run Tryz.prog w = .ok (.enter f2 args) w) (H2 : ∀ w, Calls Tryz.prog f2 #[.int .i64 cm.seq] w fun e w' => e = .returned (.bool p2) ∧ w' = w) (e3 : ∀ args w, (callFunc f3 args).run Tryz.prog w = .ok (.enter f3 args) w) (H3 : ∀ w, Calls Tryz.prog f3 #[.string cm.key] w fun e w' => e = .returned (.bool p3) ∧ w' = w) (e4 : ∀ args w, (callFunc f4 args).run Tryz.prog w = .ok (.enter f4 args) w) (H4 : ∀ w, Calls Tryz.prog f4 #[.string cm.val] w fun e w' => e = .returned (.bool p4) ∧ w' = w) (e5 : ∀ args w, (callFunc f5 args).run Tryz.prog w = .ok (.enter f5 args) w) (H5 : ∀ w, Calls Tryz.prog f5 #[.int .i64 cm.n] w fun e w' => e = .returned (.bool p5) ∧ w' = w) :
    Calls Tryz.prog 58 #[cm.v] w fun e w' => e = .returned (.bool (p0 && (p1 && (p2 && (p3 && (p4 && p5)))))) ∧ Below w.heap.size w w' := by
  have HI := hide hI
  have G0 := hide (And.intro H0 e0)
  have G1 := hide (And.intro H1 e1)
  have G2 := hide (And.intro H2 e2)
  have G3 := hide (And.intro H3 e3)
  have G4 := hide (And.intro H4 e4)
  have G5 := hide (And.intro H5 e5)
  have HX := hide (heap_alloc_new w (.cells cm.cells 54))
  have HB := hide ((Below.refl w.heap.size w).alloc (Nat.le_refl _) (.cells cm.cells 54))
  have HC : Hid (∃ cm' : CM, cm' = cm) := ⟨cm, rfl⟩
  have n1 : ¬ cm.kind < 1 := by omega
  have n2 : ¬ cm.kind > 11 := by omega
  clear hI H0 H1 H2 H3 H4 H5 e0 e1 e2 e3 e4 e5 k1 k2
  simp only [CM.v, CM.cells] at *
  go_enter Tryz.func58, Tryz.ntmps58
  go_upto_region 3 with fail
  rename_i Ko hKo
  refine reg_mono (fk_r3 (cm := cm) (by kernel_rfl) _ (v := ⟨_, _, _⟩) ⟨rfl, rfl, rfl, rfl, rfl⟩ rfl HX.out HI.out fun a' w' b3 hF hB hW => hKo _ _ ?_)
  clear hKo
  refine wp_seq (reg_mono (fk_r4 (by kernel_rfl) _ hF rfl rfl ((hW.block _ (heap_lt HX.out)).trans HX.out) hB G0.out.2 G0.out.1 G1.out.2 G1.out.1 G2.out.2 G2.out.1 G3.out.2 G3.out.1 G4.out.2 G4.out.1 G5.out.2 G5.out.1 fun a2 hF2 => ?_))
  refine wp_ret ?_
  exact fk_ret hF2 rfl ⟨rfl, HB.out.trans (hW.mono HB.out.size)⟩
end Go.Proofs.YtmkkcgkakomacaaGreat
namespace Go.Proofs.YtmkkcgkakomacaaGreat
open Go.RowKit
set_option maxHeartbeats 2000000
set_option maxRecDepth 100000
attribute [local go_sem ↓] Go.wp_at_zero Go.wp_at_succ
set_option linter.unusedSimpArgs false
set_option linter.unusedVariables false
theorem index_1 (w : World) : (Instr.index 131 (.agg needsA) (.int .i64 1)).run Tryz.prog w = .ok (.agg #[fnV 26, fnV 106, fnV 107, fnV 106, fnV 106, fnV 107]) w := by kernel_rfl
theorem index_2 (w : World) : (Instr.index 131 (.agg needsA) (.int .i64 2)).run Tryz.prog w = .ok (.agg #[fnV 26, fnV 26, fnV 57, fnV 108, fnV 109, fnV 107]) w := by kernel_rfl
theorem index_3 (w : World) : (Instr.index 131 (.agg needsA) (.int .i64 3)).run Tryz.prog w = .ok (.agg #[fnV 26, fnV 26, fnV 107, fnV 106, fnV 106, fnV 110]) w := by kernel_rfl
theorem index_4 (w : World) : (Instr.index 131 (.agg needsA) (.int .i64 4)).run Tryz.prog w = .ok (.agg #[fnV 106, fnV 26, fnV 107, fnV 106, fnV 106, fnV 107]) w := by kernel_rfl
theorem index_5 (w : World) : (Instr.index 131 (.agg needsA) (.int .i64 5)).run Tryz.prog w = .ok (.agg #[fnV 106, fnV 26, fnV 107, fnV 106, fnV 106, fnV 111]) w := by kernel_rfl
theorem index_6 (w : World) : (Instr.index 131 (.agg needsA) (.int .i64 6)).run Tryz.prog w = .ok (.agg #[fnV 106, fnV 26, fnV 107, fnV 106, fnV 106, fnV 57]) w := by kernel_rfl
theorem index_7 (w : World) : (Instr.index 131 (.agg needsA) (.int .i64 7)).run Tryz.prog w = .ok (.agg #[fnV 106, fnV 26, fnV 107, fnV 106, fnV 106, fnV 57]) w := by kernel_rfl
theorem index_8 (w : World) : (Instr.index 131 (.agg needsA) (.int .i64 8)).run Tryz.prog w = .ok (.agg #[fnV 26, fnV 106, fnV 107, fnV 106, fnV 106, fnV 57]) w := by kernel_rfl
theorem index_9 (w : World) : (Instr.index 131 (.agg needsA) (.int .i64 9)).run Tryz.prog w = .ok (.agg #[fnV 26, fnV 106, fnV 107, fnV 106, fnV 106, fnV 57]) w := by kernel_rfl
theorem index_10 (w : World) : (Instr.index 131 (.agg needsA) (.int .i64 10)).run Tryz.prog w = .ok (.agg #[fnV 106, fnV 106, fnV 107, fnV 106, fnV 106, fnV 56]) w := by kernel_rfl
theorem index_11 (w : World) : (Instr.index 131 (.agg needsA) (.int .i64 11)).run Tryz.prog w = .ok (.agg #[fnV 106, fnV 106, fnV 107, fnV 106, fnV 106, fnV 56]) w := by kernel_rfl
theorem fits_any (c : CM) (hc : c.ok) (k1 : 1 ≤ c.kind) (k2 : c.kind ≤ 11) (w : World) :
    Calls Tryz.prog 58 #[c.v] w fun e w' => e = .returned (.bool (fitsB c)) ∧ Below w.heap.size w w' := by
  obtain ⟨k, t, m, s, y, v, n, o, a⟩ := c
  have h := hc
  simp only at k1 k2
  have hk : k = 1 ∨ k = 2 ∨ k = 3 ∨ k = 4 ∨ k = 5 ∨ k = 6 ∨ k = 7 ∨ k = 8 ∨ k = 9 ∨ k = 10 ∨ k = 11 := by omega
  rcases hk with rfl | rfl | rfl | rfl | rfl | rfl | rfl | rfl | rfl | rfl | rfl
  · refine (fits_row ⟨1, t, m, s, y, v, n, o, a⟩ w k1 k2 index_1 (enters_of Tryz.func26 (by kernel_rfl) rfl) (fun w => pword t h.t w) (enters_of Tryz.func106 (by kernel_rfl) rfl) (fun w => pnotext m w) (enters_of Tryz.func107 (by kernel_rfl) rfl) (fun w => pnonum s w) (enters_of Tryz.func106 (by kernel_rfl) rfl) (fun w => pnotext y w) (enters_of Tryz.func106 (by kernel_rfl) rfl) (fun w => pnotext v w) (enters_of Tryz.func107 (by kernel_rfl) rfl) (fun w => pnonum n w)).mono ?_
    rintro e w' ⟨rfl, hb⟩
    exact ⟨rfl, hb⟩
  · refine (fits_row ⟨2, t, m, s, y, v, n, o, a⟩ w k1 k2 index_2 (enters_of Tryz.func26 (by kernel_rfl) rfl) (fun w => pword t h.t w) (enters_of Tryz.func26 (by kernel_rfl) rfl) (fun w => pword m h.m w) (enters_of Tryz.func57 (by kernel_rfl) rfl) (fun w => pnumber s w) (enters_of Tryz.func108 (by kernel_rfl) rfl) (fun w => pkey y h.y w) (enters_of Tryz.func109 (by kernel_rfl) rfl) (fun w => pvalue v h.v w) (enters_of Tryz.func107 (by kernel_rfl) rfl) (fun w => pnonum n w)).mono ?_
    rintro e w' ⟨rfl, hb⟩
    exact ⟨rfl, hb⟩
  · refine (fits_row ⟨3, t, m, s, y, v, n, o, a⟩ w k1 k2 index_3 (enters_of Tryz.func26 (by kernel_rfl) rfl) (fun w => pword t h.t w) (enters_of Tryz.func26 (by kernel_rfl) rfl) (fun w => pword m h.m w) (enters_of Tryz.func107 (by kernel_rfl) rfl) (fun w => pnonum s w) (enters_of Tryz.func106 (by kernel_rfl) rfl) (fun w => pnotext y w) (enters_of Tryz.func106 (by kernel_rfl) rfl) (fun w => pnotext v w) (enters_of Tryz.func110 (by kernel_rfl) rfl) (fun w => pminus n w)).mono ?_
    rintro e w' ⟨rfl, hb⟩
    exact ⟨rfl, hb⟩
  · refine (fits_row ⟨4, t, m, s, y, v, n, o, a⟩ w k1 k2 index_4 (enters_of Tryz.func106 (by kernel_rfl) rfl) (fun w => pnotext t w) (enters_of Tryz.func26 (by kernel_rfl) rfl) (fun w => pword m h.m w) (enters_of Tryz.func107 (by kernel_rfl) rfl) (fun w => pnonum s w) (enters_of Tryz.func106 (by kernel_rfl) rfl) (fun w => pnotext y w) (enters_of Tryz.func106 (by kernel_rfl) rfl) (fun w => pnotext v w) (enters_of Tryz.func107 (by kernel_rfl) rfl) (fun w => pnonum n w)).mono ?_
    rintro e w' ⟨rfl, hb⟩
    exact ⟨rfl, hb⟩
  · refine (fits_row ⟨5, t, m, s, y, v, n, o, a⟩ w k1 k2 index_5 (enters_of Tryz.func106 (by kernel_rfl) rfl) (fun w => pnotext t w) (enters_of Tryz.func26 (by kernel_rfl) rfl) (fun w => pword m h.m w) (enters_of Tryz.func107 (by kernel_rfl) rfl) (fun w => pnonum s w) (enters_of Tryz.func106 (by kernel_rfl) rfl) (fun w => pnotext y w) (enters_of Tryz.func106 (by kernel_rfl) rfl) (fun w => pnotext v w) (enters_of Tryz.func111 (by kernel_rfl) rfl) (fun w => pmany n w)).mono ?_
    rintro e w' ⟨rfl, hb⟩
    exact ⟨rfl, hb⟩
  · refine (fits_row ⟨6, t, m, s, y, v, n, o, a⟩ w k1 k2 index_6 (enters_of Tryz.func106 (by kernel_rfl) rfl) (fun w => pnotext t w) (enters_of Tryz.func26 (by kernel_rfl) rfl) (fun w => pword m h.m w) (enters_of Tryz.func107 (by kernel_rfl) rfl) (fun w => pnonum s w) (enters_of Tryz.func106 (by kernel_rfl) rfl) (fun w => pnotext y w) (enters_of Tryz.func106 (by kernel_rfl) rfl) (fun w => pnotext v w) (enters_of Tryz.func57 (by kernel_rfl) rfl) (fun w => pnumber n w)).mono ?_
    rintro e w' ⟨rfl, hb⟩
    exact ⟨rfl, hb⟩
  · refine (fits_row ⟨7, t, m, s, y, v, n, o, a⟩ w k1 k2 index_7 (enters_of Tryz.func106 (by kernel_rfl) rfl) (fun w => pnotext t w) (enters_of Tryz.func26 (by kernel_rfl) rfl) (fun w => pword m h.m w) (enters_of Tryz.func107 (by kernel_rfl) rfl) (fun w => pnonum s w) (enters_of Tryz.func106 (by kernel_rfl) rfl) (fun w => pnotext y w) (enters_of Tryz.func106 (by kernel_rfl) rfl) (fun w => pnotext v w) (enters_of Tryz.func57 (by kernel_rfl) rfl) (fun w => pnumber n w)).mono ?_
    rintro e w' ⟨rfl, hb⟩
    exact ⟨rfl, hb⟩
  · refine (fits_row ⟨8, t, m, s, y, v, n, o, a⟩ w k1 k2 index_8 (enters_of Tryz.func26 (by kernel_rfl) rfl) (fun w => pword t h.t w) (enters_of Tryz.func106 (by kernel_rfl) rfl) (fun w => pnotext m w) (enters_of Tryz.func107 (by kernel_rfl) rfl) (fun w => pnonum s w) (enters_of Tryz.func106 (by kernel_rfl) rfl) (fun w => pnotext y w) (enters_of Tryz.func106 (by kernel_rfl) rfl) (fun w => pnotext v w) (enters_of Tryz.func57 (by kernel_rfl) rfl) (fun w => pnumber n w)).mono ?_
    rintro e w' ⟨rfl, hb⟩
    exact ⟨rfl, hb⟩
  · refine (fits_row ⟨9, t, m, s, y, v, n, o, a⟩ w k1 k2 index_9 (enters_of Tryz.func26 (by kernel_rfl) rfl) (fun w => pword t h.t w) (enters_of Tryz.func106 (by kernel_rfl) rfl) (fun w => pnotext m w) (enters_of Tryz.func107 (by kernel_rfl) rfl) (fun w => pnonum s w) (enters_of Tryz.func106 (by kernel_rfl) rfl) (fun w => pnotext y w) (enters_of Tryz.func106 (by kernel_rfl) rfl) (fun w => pnotext v w) (enters_of Tryz.func57 (by kernel_rfl) rfl) (fun w => pnumber n w)).mono ?_
    rintro e w' ⟨rfl, hb⟩
    exact ⟨rfl, hb⟩
  · refine (fits_row ⟨10, t, m, s, y, v, n, o, a⟩ w k1 k2 index_10 (enters_of Tryz.func106 (by kernel_rfl) rfl) (fun w => pnotext t w) (enters_of Tryz.func106 (by kernel_rfl) rfl) (fun w => pnotext m w) (enters_of Tryz.func107 (by kernel_rfl) rfl) (fun w => pnonum s w) (enters_of Tryz.func106 (by kernel_rfl) rfl) (fun w => pnotext y w) (enters_of Tryz.func106 (by kernel_rfl) rfl) (fun w => pnotext v w) (enters_of Tryz.func56 (by kernel_rfl) rfl) (fun w => pnode n w)).mono ?_
    rintro e w' ⟨rfl, hb⟩
    exact ⟨rfl, hb⟩
  · refine (fits_row ⟨11, t, m, s, y, v, n, o, a⟩ w k1 k2 index_11 (enters_of Tryz.func106 (by kernel_rfl) rfl) (fun w => pnotext t w) (enters_of Tryz.func106 (by kernel_rfl) rfl) (fun w => pnotext m w) (enters_of Tryz.func107 (by kernel_rfl) rfl) (fun w => pnonum s w) (enters_of Tryz.func106 (by kernel_rfl) rfl) (fun w => pnotext y w) (enters_of Tryz.func106 (by kernel_rfl) rfl) (fun w => pnotext v w) (enters_of Tryz.func56 (by kernel_rfl) rfl) (fun w => pnode n w)).mono ?_
    rintro e w' ⟨rfl, hb⟩
    exact ⟨rfl, hb⟩
theorem fits_no (c : CM) (hk : kindOk c.kind = false) (w : World) :
    Calls Tryz.prog 58 #[c.v] w fun e w' => e = .returned (.bool false) ∧ Below w.heap.size w w' := by
  obtain ⟨k, t, m, s, y, v, n, o, a⟩ := c
  simp only [CM.v, CM.cells, kindOk] at *
  by_cases h1 : k < 1
  · clear hk
    go_enter Tryz.func58, Tryz.ntmps58
    go_wp2
    go_ret
    exact ⟨rfl, (Below.refl _ _).alloc (Nat.le_refl _) _⟩
  · have h2 : k > 11 := by
      by_cases h3 : k ≤ 11
      · rw [decide_eq_true (show 1 ≤ k by omega), decide_eq_true h3] at hk
        cases hk
      · omega
    clear hk
    go_enter Tryz.func58, Tryz.ntmps58
    go_wp2
    go_ret
    exact ⟨rfl, (Below.refl _ _).alloc (Nat.le_refl _) _⟩
theorem pfits (c : CM) (hc : c.ok) (w : World) :
    Calls Tryz.prog 58 #[c.v] w fun e w' => e = .returned (.bool (kindOk c.kind && fitsB c)) ∧ Below w.heap.size w w' := by
  by_cases h : kindOk c.kind = true
  · have h' := h
    unfold kindOk at h'
    simp only [Bool.and_eq_true, decide_eq_true_eq] at h'
    rw [h]
    exact fits_any c hc h'.1 h'.2 w
  · rw [Bool.not_eq_true] at h
    rw [h]
    exact fits_no c h w
theorem pright (c : CM) (hc : c.ok) (w : World) :
    Calls Tryz.prog 29 #[c.v] w fun e w' => e = .returned (.bool c.right) ∧ Below w.heap.size w w' := by
  have HN := hide (fun w => pnode c.node w)
  have HA := hide (fun w => pnumber c.ask w)
  have HF := hide (pfits c hc)
  unfold CM.right
  generalize nodeB c.node = p1 at *
  generalize greatB c.ask = p2 at *
  generalize (kindOk c.kind && fitsB c) = p3 at *
  obtain ⟨k, t, m, s, y, v, n, o, a⟩ := c
  clear hc
  simp only [CM.v, CM.cells] at *
  cases p1
  · go_enter Tryz.func29, Tryz.ntmps29
    go_wp2_with fail
    refine (HN.out _).mono ?_
    rintro e w' ⟨rfl, rfl⟩
    go_wp2
    go_ret
    exact ⟨rfl, (Below.refl _ _).alloc (Nat.le_refl _) _⟩
  · cases p2
    · go_enter Tryz.func29, Tryz.ntmps29
      go_wp2_with fail
      refine (HN.out _).mono ?_
      rintro e w' ⟨rfl, rfl⟩
      go_wp2_with fail
      refine (HA.out _).mono ?_
      rintro e w' ⟨rfl, rfl⟩
      go_wp2
      go_ret
      exact ⟨rfl, (Below.refl _ _).alloc (Nat.le_refl _) _⟩
    · go_enter Tryz.func29, Tryz.ntmps29
      go_wp2_with fail
      refine (HN.out _).mono ?_
      rintro e w' ⟨rfl, rfl⟩
      go_wp2_with fail
      refine (HA.out _).mono ?_
      rintro e w' ⟨rfl, rfl⟩
      go_wp2_with fail
      refine (HF.out _).mono ?_
      rintro e w3 ⟨rfl, b3⟩
      have B3 : Hid (Below w.heap.size w w3) := ((Below.refl _ _).alloc (Nat.le_refl _) _).trans (b3.mono (by simp))
      clear b3
      cases p3
      · go_wp2
        go_ret
        exact ⟨rfl, B3.out⟩
      · go_wp2
        go_ret
        exact ⟨rfl, B3.out⟩
end Go.Proofs.YtmkkcgkakomacaaGreat
namespace Go.Proofs.YtmkkcgkakomacaaGreat.Y
open Go.RowKit Go.Maps
set_option maxHeartbeats 2000000
set_option maxRecDepth 100000
def lastR (v : Value) : Option (DataW Nat × List MemPlace) :=
  match v with
  | .agg ⟨[.int .i64 a, .int .i64 b]⟩ => some (.agg [.lit (.int .i64 a), .lit (.int .i64 b)], [])
  | _ => none
theorem lastR_mk (a b : Int) : lastR (.agg #[.int .i64 a, .int .i64 b]) = some (.agg [.lit (.int .i64 a), .lit (.int .i64 b)], []) := rfl
theorem lastR_inv {v : Value} {y : DataW Nat × List MemPlace} (h : lastR v = some y) : ∃ a b : Int, v = .agg #[.int .i64 a, .int .i64 b] ∧ y = (.agg [.lit (.int .i64 a), .lit (.int .i64 b)], []) := by
  unfold lastR at h
  split at h
  · exact ⟨_, _, rfl, (Option.some.inj h).symm⟩
  · cases h
def pget (D : DataW Nat) (k : List UInt8) : Option (Int × Int) :=
  match D.atKey (.string k) .nil with
  | .agg [.lit (.int _ a), .lit (.int _ b)] => some (a, b)
  | _ => none
def pput (D : DataW Nat) (k : List UInt8) (a b : Int) : DataW Nat := D.put (.string k) (.agg [.lit (.int .i64 a), .lit (.int .i64 b)])
theorem pget_put_same {D : DataW Nat} (h : IsMap D) (k : List UInt8) (a b : Int) : pget (pput D k a b) k = some (a, b) := by
  unfold pget pput
  rw [atKey_put_same h (keyLit k)]
theorem pget_put_other (D : DataW Nat) {k k' : List UInt8} (hne : k' ≠ k) (a b : Int) : pget (pput D k a b) k' = pget D k' := by
  unfold pget pput
  rw [atKey_put_other (fun e => hne (by injection e))]
theorem zeroLast (w : World) : (zeroValue 57).run Tryz.prog w = .ok (.agg #[.int .i64 0, .int .i64 0]) w := by kernel_rfl
def gotA (o : Option (Int × Int)) : Int := (o.getD (0, 0)).1
def gotB (o : Option (Int × Int)) : Int := (o.getD (0, 0)).2
theorem plook {w : World} {mb n : Nat} {D : DataW Nat} (hown : w.ownsMap Tryz.prog 9 lastR mb n D) (s : ByteArray) (hs : s.size ≤ maxLen) :
    (Instr.lookup 50 (.map (some mb)) (.string s) true).run Tryz.prog w = .ok (.tuple #[.agg #[.int .i64 (gotA (pget D s.data.toList)), .int .i64 (gotB (pget D s.data.toList))], .bool (pget D s.data.toList).isSome]) w := by
  have hk := Go.WideMaps.keyOf_string_mk (P := Tryz.prog) Tryz.underlying9 (s := s) hs
  obtain ⟨v, ps, hrun, hv⟩ := hown.look_ok keyedS Tryz.underlying50 (zeroLast w) (lastR_mk 0 0) hk
  rw [hrun]
  have hz : ∀ z, Maps.has D (.string s.data.toList) = true → D.atKey (.string s.data.toList) z = D.atKey (.string s.data.toList) (.agg [.lit (.int .i64 0), .lit (.int .i64 0)]) := by
    intro z hh
    obtain ⟨es, rfl⟩ := hown.isMap
    unfold Maps.has at hh
    simp only at hh
    unfold DataW.atKey
    simp only
    cases hf : es.find? (fun p => p.1.sameKey (.string s.data.toList)) with
    | none =>
      rw [List.find?_eq_none] at hf
      rw [List.any_eq_true] at hh
      obtain ⟨p, hp, hp2⟩ := hh
      exact absurd hp2 (by simpa using hf p hp)
    | some p => rfl
  cases hh : Maps.has D (.string s.data.toList) with
  | false =>
    rw [atKey_of_not_has hh] at hv
    obtain ⟨a, b, rfl, e⟩ := lastR_inv hv
    have e1 := congrArg Prod.fst e
    simp only at e1
    injection e1 with e1
    simp at e1
    obtain ⟨rfl, rfl⟩ := e1
    have hp : pget D s.data.toList = none := by unfold pget; rw [atKey_of_not_has hh]
    rw [hp]
    rfl
  | true =>
    obtain ⟨a, b, rfl, e⟩ := lastR_inv hv
    have e1 := congrArg Prod.fst e
    simp only at e1
    have hp : pget D s.data.toList = some (a, b) := by unfold pget; rw [hz _ hh, e1]
    rw [hp]
    rfl
structure TG where
  name : ByteArray
  low : Nat
  fin : Nat
  recs : List Rec
  D : DataW Nat
  n : Nat
def TG.new (name : ByteArray) : TG := ⟨name, 0, 0, [], .map [], 0⟩
structure RightT (G : TG) (r : Rec) : Prop where
  lo : (G.low : Int) ≤ r.off
  hi : r.off < (G.fin : Int)
  s0 : 0 ≤ r.seq
  s1 : r.seq ≤ 9007199254740991
  p : r.prod.size ≤ 20
  k : r.key.size ≤ 100
  v : r.val.size ≤ 1000
structure TG.Ok (c : Nat) (G : TG) : Prop where
  word : wordB G.name = true
  rises : Rises G.recs
  right : ∀ r ∈ G.recs, RightT G r
  low : G.low ≤ G.fin
  fin : G.fin ≤ 9007199254740991 + c
  len : G.recs.length ≤ c
  cnt : G.n ≤ c
  big : c ≤ 100000
theorem TG.Ok.mono {c d : Nat} {G : TG} (h : G.Ok c) (hd : c ≤ d) (hb : d ≤ 100000) : G.Ok d := ⟨h.word, h.rises, h.right, h.low, by have := h.fin; omega, by have := h.len; omega, by have := h.cnt; omega, hb⟩
theorem TG.Ok.ok {c : Nat} {G : TG} (h : G.Ok c) : ∀ r ∈ G.recs, r.ok := by
  intro r hr
  obtain ⟨h1, h2, h3, h4, h5, h6, h7⟩ := h.right r hr
  have h8 := h.fin
  have h9 := h.big
  exact ⟨by omega, by omega, by omega, by omega, by omega, by omega, by omega⟩
structure LOC where
  b : Nat
  mb : Nat
  ro : Option Addr
  rc : Nat
def LOC.rv (L : LOC) (n : Nat) : Value := .slice L.ro n L.rc
def LOC.own (L : LOC) (j : Nat) : Prop := j = L.b ∨ j = L.mb ∨ (L.rv 0).ownBlock = some j
structure TAt (w : World) (L : LOC) (G : TG) : Prop where
  box : w.heap[L.b]? = some (.cells #[.string G.name, .int .i64 G.low, .int .i64 G.fin, .slice L.ro G.recs.length L.rc, .map (some L.mb)] 52 (0, 0))
  row : OwnsQ w 39 5 (.slice L.ro G.recs.length L.rc) G.recs.length (recCells G.recs)
  map : w.ownsMap Tryz.prog 9 lastR L.mb G.n G.D
theorem own_block (ao : Option Addr) (n m c : Nat) : (Value.slice ao n c).ownBlock = (Value.slice ao m c).ownBlock := by cases ao <;> rfl
theorem TAt.keep {w w' : World} {L : LOC} {G : TG} {own : Nat → Prop} (h : TAt w L G) (ht : Touch own w w') (hn : ∀ j, L.own j → ¬ own j) : TAt w' L G :=
  ⟨ht.at h.box (hn _ (.inl rfl)), h.row.keep ht (fun j hj => hn j (.inr (.inr ((own_block _ _ _ _).trans hj)))), ht.map h.map (hn _ (.inr (.inl rfl)))⟩
theorem TAt.below {w w' : World} {L : LOC} {G : TG} (h : TAt w L G) (hb : Below w.heap.size w w') : TAt w' L G := h.keep (own := fun _ => False) (Touch.of_below hb) fun _ _ e => e
theorem TAt.lt {w : World} {L : LOC} {G : TG} (h : TAt w L G) {j : Nat} (hj : L.own j) : j < w.heap.size := by
  rcases hj with rfl | rfl | hj
  · exact heap_lt h.box
  · obtain ⟨es, c, hb, _⟩ := h.map
    exact heap_lt hb
  · exact h.row.lt ((own_block _ _ _ _).trans hj)
theorem TAt.mb_ne {w : World} {L : LOC} {G : TG} (h : TAt w L G) : L.mb ≠ L.b := by
  intro e
  obtain ⟨es, c, hb, _⟩ := h.map
  rw [e, h.box] at hb
  cases hb
theorem TAt.row_ne {w : World} {L : LOC} {G : TG} (h : TAt w L G) : (Value.slice L.ro G.recs.length L.rc).ownBlock ≠ some L.b := by
  intro e
  have := h.row.type e h.box
  exact absurd this (by decide)
theorem TAt.row_mb {w : World} {L : LOC} {G : TG} (h : TAt w L G) : (Value.slice L.ro G.recs.length L.rc).ownBlock ≠ some L.mb := by
  intro e
  obtain ⟨es, c, hb, _⟩ := h.map
  rcases h.row.2 with ⟨hv, _⟩ | ⟨g, off, cap, cur, hv, hg, _⟩
  · rw [hv] at e; cases e
  · rw [hv] at e
    obtain rfl : g = L.mb := Option.some.inj e
    rw [hb] at hg
    cases hg
theorem recs_of_q {w : World} {v : Value} {l : List Rec} (h : OwnsQ w 39 5 v l.length (recCells l)) : RecsAt w v l := by
  rcases h.2 with ⟨h1, h2⟩ | ⟨g, off, cap, cur, hv, hh, hn, hc, hs, ht⟩
  · exact ⟨none, 0, by rw [h1, h2], by omega, fun i hi => by omega⟩
  · refine ⟨some ⟨g, off, none⟩, cap, hv, ?_, fun i hi => ⟨g, off, rfl, (Array.getElem?_eq_some_iff.1 hh).1, ?_⟩⟩
    · unfold maxLen at hc
      omega
    · intro j hj
      rw [Lib.cell_of_heap hh, ← recCells_get l i j hi hj, ← ht (i * 5 + j) (by omega), Nat.add_assoc]
theorem TAt.recs {w : World} {L : LOC} {G : TG} (h : TAt w L G) : RecsAt w (.slice L.ro G.recs.length L.rc) G.recs := recs_of_q h.row
theorem TAt.cells {w : World} {L : LOC} {G : TG} (h : TAt w L G) : w.cell? ⟨L.b, 0, none⟩ = some (.string G.name) ∧ w.cell? ⟨L.b, 1, none⟩ = some (.int .i64 G.low) ∧ w.cell? ⟨L.b, 2, none⟩ = some (.int .i64 G.fin) ∧ w.cell? ⟨L.b, 3, none⟩ = some (.slice L.ro G.recs.length L.rc) ∧ w.cell? ⟨L.b, 4, none⟩ = some (.map (some L.mb)) :=
  ⟨box_cell h.box 0 rfl, box_cell h.box 1 rfl, box_cell h.box 2 rfl, box_cell h.box 3 rfl, box_cell h.box 4 rfl⟩
theorem TAt.free {w : World} {L : LOC} {G : TG} (h : TAt w L G) (o : Nat) : w.frozen? ⟨L.b, o, none⟩ = false := box_free h.box o
def LOC.at (L : LOC) : Value := .pointer (some ⟨L.b, 0, none⟩)
theorem tlow {w : World} {L : LOC} {G : TG} (h : TAt w L G) : Calls Tryz.prog 23 #[.pointer (some ⟨L.b, 0, none⟩)] w fun e w' => e = .returned (.int .i64 G.low) ∧ w' = w := by
  obtain ⟨c0, c1, c2, c3, c4⟩ := h.cells
  go_enter Tryz.func23, Tryz.ntmps23
  go_wp2
  go_ret
  exact ⟨rfl, rfl⟩
theorem tend {w : World} {L : LOC} {G : TG} (h : TAt w L G) : Calls Tryz.prog 24 #[.pointer (some ⟨L.b, 0, none⟩)] w fun e w' => e = .returned (.int .i64 G.fin) ∧ w' = w := by
  obtain ⟨c0, c1, c2, c3, c4⟩ := h.cells
  go_enter Tryz.func24, Tryz.ntmps24
  go_wp2
  go_ret
  exact ⟨rfl, rfl⟩
theorem tplace {w : World} {L : LOC} {G : TG} {c : Nat} (h : TAt w L G) (hk : G.Ok c) (off : Int) : Calls Tryz.prog 33 #[.pointer (some ⟨L.b, 0, none⟩), .int .i64 off] w fun e w' => e = .returned (.int .i64 (placeF G.recs off)) ∧ Below w.heap.size w w' := by
  have HB := hide (bsearch G.recs hk.rises off _ w h.recs (by have := hk.len; have := hk.big; omega))
  obtain ⟨c0, c1, c2, c3, c4⟩ := h.cells
  generalize placeF G.recs off = p at *
  clear h hk c0 c1 c2 c4
  generalize G.recs.length = n at *
  go_enter Tryz.func33, Tryz.ntmps33
  go_wp2_with (go_at_call 59; refine HB.out.mono ?_; rintro e w' ⟨b, rfl, b2⟩)
  go_ret
  exact ⟨rfl, b2⟩
theorem tnew (s : ByteArray) (hs : s.size ≤ 281474976710656) (w : World) : Calls Tryz.prog 7 #[.string s] w fun e w' =>
    Below w.heap.size w w' ∧ ((wordB s = false ∧ e = .returned (.tuple #[.pointer none, .int .i64 5])) ∨ (wordB s = true ∧ ∃ L, e = .returned (.tuple #[.pointer (some ⟨LOC.b L, 0, none⟩), .int .i64 0]) ∧ TAt w' L (TG.new s) ∧ ∀ j, L.own j → w.heap.size ≤ j)) := by
  have HW := hide (fun w => pword s (by omega) w)
  have HC := hide (fun w => clone_any s w hs)
  have hmm := @run_makeMap Tryz.prog
  cases hw : wordB s with
  | false =>
    rw [hw] at HW
    clear hw
    go_enter Tryz.func7, Tryz.ntmps7
    go_wp2_with (go_at_call 26; refine (HW.out _).mono ?_; rintro e w' ⟨rfl, rfl⟩)
    go_ret2
    exact ⟨Below.refl _ _, .inl ⟨by trivial, rfl⟩⟩
  | true =>
    rw [hw] at HW
    clear hw
    go_enter Tryz.func7, Tryz.ntmps7
    go_wp2_with (first | (go_at_call 26; refine (HW.out _).mono ?_; rintro e w' ⟨rfl, rfl⟩) | (go_at_call 27; refine (HC.out _).mono ?_; rintro e w1 ⟨rfl, b1⟩))
    go_ret2
    refine ⟨((b1.alloc b1.size _).alloc (Nat.le_trans b1.size (by simp)) _), .inr ⟨by trivial, ⟨w1.heap.size + 1, w1.heap.size, none, 0⟩, by simp, ⟨?_, OwnsQ.nil _ _ _, ?_⟩, ?_⟩⟩
    · have := heap_alloc_new (w1.alloc (.map #[] 0)) (.cells #[.string s, .int .i64 0, .int .i64 0, .slice none 0 0, .map (some w1.heap.size)] 52)
      simpa [TG.new] using this
    · exact (World.ownsMap_made _ _ _ _).alloc _
    · have := b1.size
      rintro j (rfl | rfl | hj)
      · simp only; omega
      · simp only; omega
      · cases hj
end Go.Proofs.YtmkkcgkakomacaaGreat.Y
