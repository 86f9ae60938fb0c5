/-
  The program's First.
-/
import Derived.Test.YtjnbfopipmglgaaZPN2
namespace Go.Proofs.Ytjnbfopipmglgaa
open Go.RowKit

set_option linter.unusedSimpArgs false
set_option linter.unusedVariables false
set_option maxRecDepth 100000 in
set_option maxHeartbeats 8000000 in
theorem pfirst : FirstSays := by
  intro x ao cp w hM hl
  obtain ⟨num, L⟩ := x
  have HP := hide (fun W (h : MemsAt W ao L) => pright ⟨num, L⟩ ao cp W h hl)
  have X0 := heap_alloc_new w (.cells #[.int .i64 num, .slice ao L.length cp] tView)
  have X1 := heap_alloc_new (w.alloc (.cells #[.int .i64 num, .slice ao L.length cp] tView)) (.cells #[.int .i64 0, .int .i64 0] tMember)
  rw [show (w.alloc (.cells #[.int .i64 num, .slice ao L.length cp] tView)).heap.size = w.heap.size + 1 by simp] at X1
  have HD := hide (box_alloc X0 (.cells #[.int .i64 0, .int .i64 0] tMember))
  have HR := hide X1
  have HB := hide (((Below.refl w.heap.size w).alloc (Nat.le_refl _) (.cells #[.int .i64 num, .slice ao L.length cp] tView)).alloc (by simp) (.cells #[.int .i64 0, .int .i64 0] tMember))
  clear X0 X1
  by_cases hr : (VW.mk num L).right
  · have hf : firstOf ⟨num, L⟩ = L.headD ⟨0, 0⟩ := by unfold firstOf; rw [if_pos hr]
    rw [hf, if_pos hr]
    rw [decide_eq_true hr] at HP
    have h1 : 0 < L.length := hr.2.2.1
    have HM := hide hM
    obtain ⟨b, off, rfl, hb, y0, y1⟩ := hM 0 h1
    simp only [Nat.zero_mul, Nat.add_zero] at y0 y1
    have hh : L.headD ⟨0, 0⟩ = L[0] := by cases L with
      | nil => cases h1
      | cons a l => rfl
    rw [hh]
    generalize L[0] = m at *
    obtain ⟨mn, ml⟩ := m
    simp only [VW.v, MB.v] at *
    have HP2 := hide (HP.out _ (HM.out.below HB.out))
    clear HP HM hr hf hh
    have hi1 : (0 : Int) < (L.length : Int) := by omega
    go_enter Try.func13, Try.ntmps13
    generalize L.length = n at *
    go_wp2_with (go_at_call 17; refine HP2.out.mono ?_; rintro e w2 ⟨rfl, b2⟩; have B2 := hide b2; have D2 := hide ((b2.block _ (heap_lt HD.out)).trans HD.out); have R2 := hide ((b2.block _ (heap_lt HR.out)).trans HR.out); have B3 := hide (HB.out.trans (b2.mono HB.out.size)); clear b2; have c1 := box_cell D2.out 1 rfl; have e0 := box_cell R2.out 0 rfl; have e1 := box_cell R2.out 1 rfl; have f0 := box_free R2.out 0; have f1 := box_free R2.out 1; have z0 := (B3.out.cell (p := ⟨b, _, none⟩) hb).trans y0; have z1 := (B3.out.cell (p := ⟨b, _, none⟩) hb).trans y1)
    have G2 := box_set (box_set R2.out 0 (.int .i64 mn)) 1 (.int .i64 ml)
    have g0 := box_cell G2 0 rfl
    have g1 := box_cell G2 1 rfl
    refine bodyPost_ret (v := .tuple #[.agg #[.int .i64 mn, .int .i64 ml], .int .i64 0]) ?_ rfl ⟨rfl, (B3.out.setCell (p := ⟨w.heap.size + 1, 0, none⟩) (by show _ ≤ w.heap.size + 1; omega) _).setCell (p := ⟨w.heap.size + 1, 1, none⟩) (by show _ ≤ w.heap.size + 1; omega) _⟩
    simp [results, Try.results13, go_sem, g0, g1]
  · have hf : firstOf ⟨num, L⟩ = ⟨0, 0⟩ := by unfold firstOf; rw [if_neg hr]
    rw [hf, if_neg hr]
    rw [decide_eq_false hr] at HP
    simp only [VW.v, MB.v] at *
    have HP2 := hide (HP.out _ (hM.below HB.out))
    clear HP hM hr hf
    go_enter Try.func13, Try.ntmps13
    generalize L.length = n at *
    go_wp2_with (go_at_call 17; refine HP2.out.mono ?_; rintro e w2 ⟨rfl, b2⟩; have B2 := hide b2; have D2 := hide ((b2.block _ (heap_lt HD.out)).trans HD.out); have R2 := hide ((b2.block _ (heap_lt HR.out)).trans HR.out); have B3 := hide (HB.out.trans (b2.mono HB.out.size)); clear b2; have c1 := box_cell D2.out 1 rfl; have e0 := box_cell R2.out 0 rfl; have e1 := box_cell R2.out 1 rfl; have f0 := box_free R2.out 0; have f1 := box_free R2.out 1)
    have G2 := box_set (box_set R2.out 0 (.int .i64 0)) 1 (.int .i64 0)
    have g0 := box_cell G2 0 rfl
    have g1 := box_cell G2 1 rfl
    refine bodyPost_ret (v := .tuple #[.agg #[.int .i64 0, .int .i64 0], .int .i64 1]) ?_ rfl ⟨rfl, (B3.out.setCell (p := ⟨w.heap.size + 1, 0, none⟩) (by show _ ≤ w.heap.size + 1; omega) _).setCell (p := ⟨w.heap.size + 1, 1, none⟩) (by show _ ≤ w.heap.size + 1; omega) _⟩
    simp [results, Try.results13, go_sem, g0, g1]
end Go.Proofs.Ytjnbfopipmglgaa
