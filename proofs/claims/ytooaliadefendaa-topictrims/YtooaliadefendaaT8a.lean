/-
  The laws' examples (mkt8.py).
-/
import Derived.Test.YtooaliadefendaaT8
namespace Go.Proofs.Ytooaliadefendaa.Y
open Go.RowKit

attribute [local go_sem ↓] Go.wp_at_zero Go.wp_at_succ
set_option linter.unusedSimpArgs false
set_option linter.unusedVariables false
def exG1 : TG := addF (TG.new ⟨#[116]⟩) ⟨0, ⟨#[112]⟩, 1, ⟨#[107]⟩, ⟨#[118]⟩⟩
def exG2 : TG := addF exG1 ⟨0, ⟨#[112]⟩, 5, ⟨#[107]⟩, ⟨#[120]⟩⟩
theorem ex_p1 : pubF (TG.new ⟨#[116]⟩) ⟨#[112]⟩ 1 ⟨#[107]⟩ ⟨#[118]⟩ = (0, 0, exG1) := by kernel_rfl
theorem ex_p2 : pubF exG1 ⟨#[112]⟩ 1 ⟨#[107]⟩ ⟨#[119]⟩ = (0, 0, exG1) := by kernel_rfl
theorem ex_p3 : pubF exG1 ⟨#[112]⟩ 0 ⟨#[107]⟩ ⟨#[119]⟩ = (0, 6, exG1) := by kernel_rfl
theorem ex_p4 : pubF exG1 ⟨#[112]⟩ 5 ⟨#[107]⟩ ⟨#[120]⟩ = (1, 0, exG2) := by kernel_rfl
theorem ex_r : readF (compF exG2 9).recs 0 9 = [⟨1, ⟨#[112]⟩, 5, ⟨#[107]⟩, ⟨#[120]⟩⟩] := by kernel_rfl
theorem ex_t3 : trimF (compF exG2 9) 3 = (7, compF exG2 9) := by kernel_rfl
theorem ex_t2 : (trimF (compF exG2 9) 2).1 = 0 := by kernel_rfl
theorem ex_lo : (trimF (compF exG2 9) 2).2.low = 2 := by kernel_rfl
theorem ex_fi : (trimF (compF exG2 9) 2).2.fin = 2 := by kernel_rfl
theorem ex_w : wordB ⟨#[116]⟩ = true := by kernel_rfl
theorem ex_nw : wordB ⟨#[84]⟩ = false := by kernel_rfl
theorem z1 (b : UInt8) : (⟨#[b]⟩ : ByteArray).size ≤ 281474976710656 := by show 1 ≤ _; omega
set_option maxHeartbeats 4000000 in
set_option maxRecDepth 100000 in
theorem examples_any (w : World) : Calls Try.prog 6 #[] w fun e w' => e = .returned (.bool true) ∧ Below w.heap.size w w' := by
  go_enter Try.func6, Try.ntmps6
  refine wp_seq (reg_mono (ex_r0 (by kernel_rfl) _ (v := ⟨_, _, _, _, _, _, _, _, _, _, _, _, _, _⟩) ⟨rfl, rfl, rfl, rfl, rfl, rfl, rfl, rfl, rfl, rfl, rfl, rfl, rfl, rfl, rfl, rfl⟩ ?_))
  intro a0 F0
  try dsimp only at F0
  refine wp_seq (reg_mono (ex_r1 (by kernel_rfl) _ F0 (held_new ⟨#[116]⟩ (z1 _) ex_w (Below.refl w.heap.size w) (Nat.le_refl _)) ?_))
  rintro a1 w1 L F1 ⟨H1, _, _⟩
  try dsimp only at F1
  refine wp_seq (reg_mono (ex_r2 (by kernel_rfl) _ F1 (R := fun w' => Below w1.heap.size w1 w') ((tnew ⟨#[84]⟩ (z1 _) w1).mono fun e w' ⟨b, h⟩ => by
    rcases h with ⟨_, h⟩ | ⟨h, _⟩
    · exact ⟨h, b⟩
    · rw [ex_nw] at h; cases h) ?_))
  intro a2 w2 F2 b2
  try dsimp only at F2
  have H2 := H1.to b2
  refine wp_seq (wp_seq (reg_mono (ex_r3 (by kernel_rfl) _ F2 rfl rfl rfl ?_)))
  intro a3 F3 g3
  try dsimp only at F3
  refine wp_cond_false g3 (wp_skip ?_)
  have E5 := held_pub H2 (by omega) ⟨#[112]⟩ 1 ⟨#[107]⟩ ⟨#[118]⟩ (z1 _) (z1 _) (z1 _)
  rw [ex_p1] at E5
  dsimp only at E5
  refine wp_seq (reg_mono (ex_r5 (by kernel_rfl) _ F3 rfl (x := 0) (y := 0) E5 ?_))
  rintro a5 w5 F5 ⟨L5, e5, H5, _⟩
  try dsimp only at F5
  rw [← e5] at F5
  have E6 := held_pub H5 (by omega) ⟨#[112]⟩ 1 ⟨#[107]⟩ ⟨#[119]⟩ (z1 _) (z1 _) (z1 _)
  rw [ex_p2] at E6
  dsimp only at E6
  refine wp_seq (reg_mono (ex_r6 (by kernel_rfl) _ F5 rfl (x := 0) (y := 0) E6 ?_))
  rintro a6 w6 F6 ⟨L6, e6, H6, _⟩
  try dsimp only at F6
  rw [← e6] at F6
  have E7 := held_pub H6 (by omega) ⟨#[112]⟩ 0 ⟨#[107]⟩ ⟨#[119]⟩ (z1 _) (z1 _) (z1 _)
  rw [ex_p3] at E7
  dsimp only at E7
  refine wp_seq (reg_mono (ex_r7 (by kernel_rfl) _ F6 rfl (x := 0) (y := 6) E7 ?_))
  rintro a7 w7 F7 ⟨L7, e7, H7, _⟩
  try dsimp only at F7
  rw [← e7] at F7
  have E8 := held_pub H7 (by omega) ⟨#[112]⟩ 5 ⟨#[107]⟩ ⟨#[120]⟩ (z1 _) (z1 _) (z1 _)
  rw [ex_p4] at E8
  dsimp only at E8
  refine wp_seq (reg_mono (ex_r8 (by kernel_rfl) _ F7 rfl (x := 1) (y := 0) E8 ?_))
  rintro a8 w8 F8 ⟨L8, e8, H8, _⟩
  try dsimp only at F8
  rw [← e8] at F8
  refine wp_seq (reg_mono (ex_r9 (by kernel_rfl) _ F8 rfl (held_comp H8 9) ?_))
  rintro a9 w9 F9 ⟨L9, e9, H9, _⟩
  try dsimp only at F9
  rw [← e9] at F9
  have HR := held_read H9 0 9 (by omega)
  rw [ex_r] at HR
  refine wp_seq (reg_mono (ex_r10 (by kernel_rfl) _ F9 rfl (n := 1) HR ?_))
  rintro a10 w10 ao cp F10 ⟨O10, H10, _⟩
  try dsimp only at F10
  have R10 := recs_of_own (l := [⟨1, ⟨#[112]⟩, 5, ⟨#[107]⟩, ⟨#[120]⟩⟩]) O10
  have E11 := held_trim H10 3
  rw [ex_t3] at E11
  dsimp only at E11
  refine wp_seq (reg_mono (ex_r11 (by kernel_rfl) _ F10 rfl (x := 7) E11 ?_))
  rintro a11 w11 F11 ⟨L11, e11, H11, s11⟩
  try dsimp only at F11
  rw [← e11] at F11
  have E12 := held_trim H11 2
  rw [ex_t2] at E12
  refine wp_seq (reg_mono (ex_r12 (by kernel_rfl) _ F11 rfl (x := 0) E12 ?_))
  rintro a12 w12 F12 ⟨L12, e12, H12, s12⟩
  try dsimp only at F12
  rw [← e12] at F12
  obtain ⟨_, bb, off, rfl, hbb, c0, _⟩ := R10.five 0 (by decide)
  have hnot : ¬ L9.own bb := fun e => by
    have h1 := H9.at_.lt e
    have h2 := (O10.lt bb rfl).1
    omega
  have d1 := s11.touch.cell _ c0 hnot
  have d2 := s12.touch.cell _ d1 (fun e => (s11.own _ e).elim hnot (fun e => by have e2 : w10.heap.size ≤ bb := e; omega))
  refine wp_seq (reg_mono (ex_r13 (by kernel_rfl) _ F12 rfl rfl rfl rfl rfl rfl rfl rfl rfl rfl rfl d2 (by have := tlow H12.at_; rw [ex_lo] at this; exact this) (by have := tend H12.at_; rw [ex_fi] at this; exact this) ?_))
  intro a13 F13
  try dsimp only at F13
  refine wp_ret ?_
  refine bodyPost_ret (v := .bool true) ?_ F13.defers ⟨rfl, H12.below⟩
  simp [results, Try.results6, go_sem, slot_get F13.s0]
end Go.Proofs.Ytooaliadefendaa.Y
