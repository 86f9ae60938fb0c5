/-
  The law's views, as it runs, of two that are one.
-/
import Derived.Test.YtjnbfopipmglgaaZVR2
namespace Go.Proofs.Ytjnbfopipmglgaa
open Go.RowKit
set_option linter.unusedSimpArgs false
set_option linter.unusedVariables false

set_option maxHeartbeats 8000000 in
set_option maxRecDepth 100000 in
theorem views_any (x : VW) (ao bo : Option Addr) (cp cq : Nat) (w : World) (hM : MemsAt w ao x.mem) (hN : MemsAt w bo x.mem) (hl : x.mem.length ≤ 4611686018427387904) : Calls Try.prog 10 #[x.v ao cp, x.v bo cq] w fun e w' => e = .returned (.bool true) ∧ Below w.heap.size w w' := by
  have HM := hide hM
  have HN := hide hN
  obtain ⟨num, L⟩ := x
  simp only [VW.v] at *
  obtain ⟨n, hn⟩ : ∃ n, L.length = n := ⟨_, rfl⟩
  have HL := hide hn
  rw [hn] at hl ⊢
  clear hM hN hn
  have X0 := heap_alloc_new w (.cells #[.int .i64 num, .slice ao n cp] tView)
  have X1 := heap_alloc_new (w.alloc (.cells #[.int .i64 num, .slice ao n cp] tView)) (.cells #[.int .i64 num, .slice bo n cq] tView)
  have HD := hide (box_alloc X0 (.cells #[.int .i64 num, .slice bo n cq] tView))
  rw [show (w.alloc (.cells #[.int .i64 num, .slice ao n cp] tView)).heap.size = w.heap.size + 1 by simp] at X1
  have HE := hide X1
  have HB := hide (((Below.refl w.heap.size w).alloc (Nat.le_refl _) (.cells #[.int .i64 num, .slice ao n cp] tView)).alloc (by simp) (.cells #[.int .i64 num, .slice bo n cq] tView))
  clear X0 X1
  go_enter Try.func10, Try.ntmps10
  go_wp2
  generalize (w.alloc (.cells #[.int .i64 num, .slice ao n cp] tView)).alloc (.cells #[.int .i64 num, .slice bo n cq] tView) = w2 at *
  go_loopw [5] (fun iv wv => ∃ i : Nat, iv = .int .i64 i ∧ i ≤ n ∧ Hid (Below w2.heap.size w2 wv)) (fun iv _ => n - (intOf iv).toNat)
  case atStart => exact ⟨0, rfl, Nat.zero_le _, Below.refl _ _⟩
  case round =>
    obtain ⟨i, rfl, hi, R⟩ := hrel
    have D2 := (R.out.block _ (heap_lt HD.out)).trans HD.out
    have E2 := (R.out.block _ (heap_lt HE.out)).trans HE.out
    have c1 := box_cell D2 1 rfl
    have d1 := box_cell E2 1 rfl
    have B2 := hide (HB.out.trans (R.out.mono HB.out.size))
    clear D2 E2
    by_cases hlt : i < n
    · have hiL : i < L.length := by rw [HL.out]; exact hlt
      obtain ⟨b, off, rfl, _, y0, y1⟩ := HM.out.below B2.out i hiL
      obtain ⟨b3, off3, rfl, _, z0, z1⟩ := HN.out.below B2.out i hiL
      have hi0 : (0 : Int) ≤ (i : Int) := by omega
      have hi1 : (i : Int) < (n : Int) := by omega
      generalize L[i] = m at *
      obtain ⟨mn, ml⟩ := m
      simp only at y0 y1 z0 z1
      go_wp2_with fail
      go_quiet (fail)
      go_wp2
      go_roundw
      case rel => exact ⟨i + 1, by go_num, by omega, below_drewN R.out _⟩
      case measure => simp [intOf]; omega
    · have hi1 : ¬ (i : Int) < (n : Int) := by omega
      go_wp2
      go_ret
      exact ⟨rfl, B2.out⟩
end Go.Proofs.Ytjnbfopipmglgaa
