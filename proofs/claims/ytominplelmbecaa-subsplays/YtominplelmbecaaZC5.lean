/-
  fitsKind, of any row of the table (mkc3.py)
-/
import Derived.Test.YtominplelmbecaaZC4
namespace Go.Proofs.Ytominplelmbecaa
open Go.RowKit

attribute [local go_sem ↓] Go.wp_at_zero Go.wp_at_succ
set_option linter.unusedSimpArgs false
set_option linter.unusedVariables false
theorem fk_ret {W : World} {a : Act} {v : Vfk} {b : Bool} {R : Ending → World → Prop} (hF : Ffk a v) (h2 : v.v2 = .bool b) (h : R (.returned (.bool b)) W) :
    bodyPost Try.prog Try.f52 R .ret a W := by
  have g2 := slot_get (hF.s2.trans h2)
  refine bodyPost_ret (v := .bool b) ?_ hF.defers h
  simp [results, Try.results52, go_sem, g2]
set_option maxHeartbeats 4000000 in
theorem fits_row (cm : CM) (w : World) (k1 : 1 ≤ cm.kind) (k2 : cm.kind ≤ 11) {f0 f1 f2 f3 f4 f5 : Nat} {p0 : Bool} {p1 : Bool} {p2 : Bool} {p3 : Bool} {p4 : Bool} {p5 : Bool} (hI : ∀ w, (Instr.index 110 (.agg needsA) (.int .i64 cm.kind)).run Try.prog w = .ok (.agg #[fnV f0, fnV f1, fnV f2, fnV f3, fnV f4, fnV f5]) w) (e0 : ∀ args w, (callFunc f0 args).run Try.prog w = .ok (.enter f0 args) w) (H0 : ∀ w, Calls Try.prog f0 #[.string cm.topic] w fun e w' => e = .returned (.bool p0) ∧ w' = w) (e1 : ∀ args w, (callFunc f1 args).run Try.prog w = .ok (.enter f1 args) w) (H1 : ∀ w, Calls Try.prog f1 #[.string cm.name] w fun e w' => e = .returned (.bool p1) ∧ w' = w) (e2 : ∀ args w, (callFunc f2 args).run Try.prog w = .ok (.enter f2 args) w) (H2 : ∀ w, Calls Try.prog f2 #[.int .i64 cm.seq] w fun e w' => e = .returned (.bool p2) ∧ w' = w) (e3 : ∀ args w, (callFunc f3 args).run Try.prog w = .ok (.enter f3 args) w) (H3 : ∀ w, Calls Try.prog f3 #[.string cm.key] w fun e w' => e = .returned (.bool p3) ∧ w' = w) (e4 : ∀ args w, (callFunc f4 args).run Try.prog w = .ok (.enter f4 args) w) (H4 : ∀ w, Calls Try.prog f4 #[.string cm.val] w fun e w' => e = .returned (.bool p4) ∧ w' = w) (e5 : ∀ args w, (callFunc f5 args).run Try.prog w = .ok (.enter f5 args) w) (H5 : ∀ w, Calls Try.prog f5 #[.int .i64 cm.n] w fun e w' => e = .returned (.bool p5) ∧ w' = w) :
    Calls Try.prog 52 #[cm.v] w fun e w' => e = .returned (.bool (p0 && (p1 && (p2 && (p3 && (p4 && p5)))))) ∧ Below w.heap.size w w' := by
  have HI := hide hI
  have G0 := hide (And.intro H0 e0)
  have G1 := hide (And.intro H1 e1)
  have G2 := hide (And.intro H2 e2)
  have G3 := hide (And.intro H3 e3)
  have G4 := hide (And.intro H4 e4)
  have G5 := hide (And.intro H5 e5)
  have HX := hide (heap_alloc_new w (.cells cm.cells 74))
  have HB := hide ((Below.refl w.heap.size w).alloc (Nat.le_refl _) (.cells cm.cells 74))
  have HC : Hid (∃ cm' : CM, cm' = cm) := ⟨cm, rfl⟩
  have n1 : ¬ cm.kind < 1 := by omega
  have n2 : ¬ cm.kind > 11 := by omega
  clear hI H0 H1 H2 H3 H4 H5 e0 e1 e2 e3 e4 e5 k1 k2
  simp only [CM.v, CM.cells] at *
  go_enter Try.func52, Try.ntmps52
  go_upto_region 3 with fail
  rename_i Ko hKo
  refine reg_mono (fk_r3 (cm := cm) (by kernel_rfl) _ (v := ⟨_, _, _⟩) ⟨rfl, rfl, rfl, rfl, rfl⟩ rfl HX.out HI.out fun a' w' b3 hF hB hW => hKo _ _ ?_)
  clear hKo
  refine wp_seq (reg_mono (fk_r4 (by kernel_rfl) _ hF rfl rfl ((hW.block _ (heap_lt HX.out)).trans HX.out) hB G0.out.2 G0.out.1 G1.out.2 G1.out.1 G2.out.2 G2.out.1 G3.out.2 G3.out.1 G4.out.2 G4.out.1 G5.out.2 G5.out.1 fun a2 hF2 => ?_))
  refine wp_ret ?_
  exact fk_ret hF2 rfl ⟨rfl, HB.out.trans (hW.mono HB.out.size)⟩
end Go.Proofs.Ytominplelmbecaa
