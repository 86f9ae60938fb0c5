/-
  The laws' examples (mksx.py).
-/
import Derived.Test.YtominplelmbecaaZGS
namespace Go.Proofs.Ytominplelmbecaa.Y
open Go.RowKit

attribute [local go_sem ↓] Go.wp_at_zero Go.wp_at_succ
set_option linter.unusedSimpArgs false
set_option linter.unusedVariables false
theorem cell_put {W w1 : World} {ad : Addr} {v : Value} {sb : Nat} (h : W.cell? ad = some v) (hn : ad.block ≠ sb) (b : Below W.heap.size W w1) {x0 x1 x2 x3 : Value} : (set4 w1 sb x0 x1 x2 x3).cell? ad = some v := (set4_touch _ _).cell ad ((Touch.of_below (own := fun _ => False) b).cell ad h (fun e => e)) hn
theorem cell_below {W w1 : World} {ad : Addr} {v : Value} (h : W.cell? ad = some v) (b : Below W.heap.size W w1) : w1.cell? ad = some v := (Touch.of_below (own := fun _ => False) b).cell ad h (fun e => e)
def exN : Nat → TG
  | 0 => TG.new tB
  | i + 1 => (pubF (exN i) pB i eB eB).2.2
theorem z1 (b : UInt8) : (⟨#[b]⟩ : ByteArray).size ≤ 281474976710656 := by show 1 ≤ _; omega
theorem z0 : eB.size ≤ 281474976710656 := by show 0 ≤ _; omega
theorem sok {c x : Int} : SB.ok ⟨sBy, tB, c, x⟩ := ⟨z1 _, z1 _⟩
theorem ex_w : wordB tB = true := by kernel_rfl
def xl1 : List Rec := (pollF ⟨sBy, tB, 2, 2⟩ (exN 10) 3).2.1
def xl2 : List Rec := (pollF ⟨sBy, tB, 2, 5⟩ (exN 10) 1).2.1
def xl3 : List Rec := (pollF ⟨sBy, tB, 4, 4⟩ (exN 10) 1).2.1
set_option maxRecDepth 100000 in
theorem ex_new : newF sBy (exN 10) 2 = (⟨sBy, tB, 2, 2⟩, 0) := by kernel_rfl
set_option maxRecDepth 100000 in
theorem ex_q1 : pollF ⟨sBy, tB, 2, 2⟩ (exN 10) 3 = (⟨sBy, tB, 2, 5⟩, xl1, 0) := by kernel_rfl
set_option maxRecDepth 100000 in
theorem ex_q2 : pollF ⟨sBy, tB, 2, 5⟩ (exN 10) 1 = (⟨sBy, tB, 2, 6⟩, xl2, 0) := by kernel_rfl
theorem ex_a1 : ackF ⟨sBy, tB, 2, 6⟩ 3 = (⟨sBy, tB, 4, 6⟩, 0) := by kernel_rfl
set_option maxRecDepth 100000 in
theorem ex_q3 : pollF ⟨sBy, tB, 4, 4⟩ (exN 10) 1 = (⟨sBy, tB, 4, 5⟩, xl3, 0) := by kernel_rfl
theorem ex_a2 : ackF ⟨sBy, tB, 4, 5⟩ 9 = (⟨sBy, tB, 4, 5⟩, 7) := by kernel_rfl
set_option maxRecDepth 100000 in
theorem ex_s : seekF ⟨sBy, tB, 4, 5⟩ (exN 10) 11 = (⟨sBy, tB, 4, 5⟩, 7) := by kernel_rfl
theorem ex_r : SB.right ⟨sBy, tB, 4, 5⟩ = true := by kernel_rfl
set_option maxRecDepth 100000 in
theorem ex_l1 : xl1.length = 3 := by kernel_rfl
set_option maxRecDepth 100000 in
theorem ex_l2 : xl2.length = 1 := by kernel_rfl
set_option maxRecDepth 100000 in
theorem ex_l3 : xl3.length = 1 := by kernel_rfl
set_option maxRecDepth 100000 in
theorem ex_o1 : (xl1[0]'(by rw [ex_l1]; omega)).off = 2 := by kernel_rfl
set_option maxRecDepth 100000 in
theorem ex_o2 : (xl2[0]'(by rw [ex_l2]; omega)).off = 5 := by kernel_rfl
set_option maxRecDepth 100000 in
theorem ex_o3 : (xl3[0]'(by rw [ex_l3]; omega)).off = 4 := by kernel_rfl
theorem ex_ret {W : World} {a : Act} {v : Vex} {R : Ending → World → Prop} (hF : Fex a v) (h2 : v.v0 = .bool true) (h : R (.returned (.bool true)) W) :
    bodyPost Try.prog Try.f5 R .ret a W := by
  have g2 := slot_get (hF.s0.trans h2)
  refine bodyPost_ret (v := .bool true) ?_ hF.defers h
  simp [results, Try.results5, go_sem, g2]
set_option maxHeartbeats 4000000 in
set_option maxRecDepth 100000 in
theorem examples_any (w : World) : Calls Try.prog 5 #[] w fun e w' => e = .returned (.bool true) ∧ Below w.heap.size w w' := by
  go_enter Try.func5, Try.ntmps5
  refine wp_seq (reg_mono (ex_r0 (by kernel_rfl) _ (v := ⟨_, _, _, _, _, _, _, _, _, _, _, _⟩) ⟨rfl, rfl, rfl, rfl, rfl, rfl, rfl, rfl, rfl, rfl, rfl, rfl, rfl, rfl⟩ ?_))
  intro a0 F0
  try dsimp only at F0
  refine wp_seq (reg_mono (ex_r1 (by kernel_rfl) _ F0 (held_new tB (z1 _) ex_w (Below.refl w.heap.size w) (Nat.le_refl _)) ?_))
  rintro a1 w1 L F1 ⟨H1, _, _⟩
  try dsimp only at F1
  refine wp_seq (wp_seq (reg_mono (ex_r2 (by kernel_rfl) _ F1 rfl ?_)))
  intro a2 F2 g2
  refine wp_cond_false g2 (wp_skip ?_)
  show Code.wp _ _ _ _ _
  refine wp_seq (wp_seq (reg_mono (ex_r4 (by kernel_rfl) _ F2 ?_)))
  intro a4 F4
  try dsimp only at F4
  refine wp_block (wp_loop (fun a W => ∃ (i : Nat) (v : Vex) (L : LOC), i ≤ 10 ∧ Fex a v ∧ v.v1 = .pointer (some ⟨L.b, 0, none⟩) ∧ v.v3 = .int .i64 (i : Int) ∧ Held w.heap.size w W L (exN i) i) (fun a _ => 10 - (intOf (a.tmps.getD 3 undef)).toNat) ⟨0, _, L, by omega, F4, rfl, rfl, H1⟩ ?_)
  clear F0 F1 F2 F4 g2 H1
  rintro a W ⟨i, v, L, hi, F, q1, q3, M⟩
  have hmi : (intOf (a.tmps.getD 3 undef)).toNat = i := by rw [F.s3, q3]; simp [intOf]
  refine wp_seq (wp_seq (reg_mono (ex_r5 (by kernel_rfl) _ F q3 ?_)))
  intro a5 F5 g5
  by_cases hlt : i < 10
  case pos =>
    rw [decide_eq_true (show (i : Int) < 10 by omega)] at g5
    refine wp_cond_true g5 (wp_skip ?_)
    show Code.wp _ _ _ _ _
    have E8 := held_pub M (by omega) pB i eB eB (z1 _) z0 z0
    refine wp_seq (wp_block (reg_all (ex_r7 (R := fun w' => ∃ L', L'.b = L.b ∧ Held w.heap.size w w' L' (exN (i + 1)) (i + 1)) (by kernel_rfl) _ F5 q1 q3 (E8.mono fun e w' ⟨h1, L', h2, h3, _⟩ => ⟨⟨_, _, h1⟩, L', h2, h3⟩) ?_)))
    rintro a8 w8 F8 ⟨L8, e8, H8⟩
    show Code.wp _ _ _ _ _
    refine reg_mono (ex_r6 (by kernel_rfl) _ F8 q3 (by omega) ?_)
    intro a9 F9
    try dsimp only at F9
    refine ⟨⟨i + 1, _, L8, by omega, F9, by rw [e8]; exact q1, rfl, H8⟩, ?_⟩
    rw [hmi, F9.s3]
    simp [intOf]
    omega
  obtain rfl : i = 10 := by omega
  rw [decide_eq_false (show ¬ ((10 : Nat) : Int) < 10 by omega)] at g5
  refine wp_cond_false g5 (wp_exit ?_)
  show Code.wp _ _ _ _ _
  obtain ⟨v0, v1, v3, v4, v5, v6, v7, v8, v10, v11, v14, v16⟩ := v
  simp only at q1 q3
  subst q1 q3
  clear hmi hlt hi F
  have EN := snew M.at_ M.ok sBy (z1 _) 2
  rw [ex_new] at EN
  simp only [SB.v] at EN
  refine wp_seq (reg_mono (ex_r8 (m := 0) (by kernel_rfl) _ F5 rfl EN ?_))
  intro a8 w8 F8 b8
  try dsimp only at F8
  have H8 := HSB.mk' (M.to b8) ⟨sBy, tB, 2, 2⟩
  dsimp only at H8
  generalize w8.heap.size = sb at *
  generalize hw8 : w8.alloc _ = W8 at *
  clear hw8
  have E9 := spoll H8.held.at_ H8.held.ok ⟨sBy, tB, 2, 2⟩ sok 3 (by omega)
  rw [ex_q1] at E9
  simp only [SB.v] at E9
  rw [ex_l1] at E9
  refine wp_seq (reg_mono (ex_r9 (by kernel_rfl) _ F8 rfl rfl H8.box (R := fun ao ln cp w' => ln = 3 ∧ RecsAt w' (.slice ao 3 cp) xl1 ∧ ∀ g, (Value.slice ao 0 cp).ownBlock = some g → W8.heap.size ≤ g) (E9.mono fun e w' ⟨ao, cp, h1, h2, h3, h4⟩ => ⟨ao, _, cp, h1, h3, rfl, h2, h4⟩) ?_))
  rintro a9 w9 ao9 ln9 cp9 F9 b9 ⟨rfl, r9, n9⟩
  try dsimp only at F9
  have H9 := (H8.to b9).put (⟨sBy, tB, 2, 5⟩ : SB)
  dsimp only at H9
  obtain ⟨_, g9, of9, rfl, hg9, p9, _⟩ := r9.five 0 (by rw [ex_l1]; omega)
  rw [ex_o1, Nat.zero_mul, Nat.add_zero] at p9
  have ne9 : g9 ≠ sb := by have := n9 g9 rfl; have := heap_lt H8.box; omega
  have p9' : (set4 w9 sb (.string (⟨sBy, tB, 2, 5⟩ : SB).name) (.string (⟨sBy, tB, 2, 5⟩ : SB).top) (.int .i64 (⟨sBy, tB, 2, 5⟩ : SB).cur) (.int .i64 (⟨sBy, tB, 2, 5⟩ : SB).next)).cell? ⟨g9, of9, none⟩ = some (.int .i64 2) := (set4_touch _ _).cell _ p9 ne9
  generalize hw9 : set4 w9 sb _ _ _ _ = WX9 at *
  clear hw9
  have E10 := spoll H9.held.at_ H9.held.ok ⟨sBy, tB, 2, 5⟩ sok 1 (by omega)
  rw [ex_q2] at E10
  simp only [SB.v] at E10
  rw [ex_l2] at E10
  refine wp_seq (reg_mono (ex_r10 (by kernel_rfl) _ F9 rfl rfl H9.box (R := fun ao ln cp w' => ln = 1 ∧ RecsAt w' (.slice ao 1 cp) xl2 ∧ ∀ g, (Value.slice ao 0 cp).ownBlock = some g → WX9.heap.size ≤ g) (E10.mono fun e w' ⟨ao, cp, h1, h2, h3, h4⟩ => ⟨ao, _, cp, h1, h3, rfl, h2, h4⟩) ?_))
  rintro a10 w10 ao10 ln10 cp10 F10 b10 ⟨rfl, r10, n10⟩
  try dsimp only at F10
  have H10 := (H9.to b10).put (⟨sBy, tB, 2, 6⟩ : SB)
  dsimp only at H10
  obtain ⟨_, g10, of10, rfl, hg10, p10, _⟩ := r10.five 0 (by rw [ex_l2]; omega)
  rw [ex_o2, Nat.zero_mul, Nat.add_zero] at p10
  have ne10 : g10 ≠ sb := by have := n10 g10 rfl; have := heap_lt H9.box; omega
  have p10' : (set4 w10 sb (.string (⟨sBy, tB, 2, 6⟩ : SB).name) (.string (⟨sBy, tB, 2, 6⟩ : SB).top) (.int .i64 (⟨sBy, tB, 2, 6⟩ : SB).cur) (.int .i64 (⟨sBy, tB, 2, 6⟩ : SB).next)).cell? ⟨g10, of10, none⟩ = some (.int .i64 5) := (set4_touch _ _).cell _ p10 ne10
  have p9b := cell_put (sb := sb) p9' ne9 b10 (x0 := .string sBy) (x1 := .string tB) (x2 := .int .i64 2) (x3 := .int .i64 6)
  generalize hw10 : set4 w10 sb _ _ _ _ = WX10 at *
  clear hw10
  have EA := sackP (w := WX10) ⟨sBy, tB, 2, 6⟩ sok 3
  rw [ex_a1] at EA
  simp only [SB.v] at EA
  refine wp_seq (reg_mono (ex_r11 (by kernel_rfl) _ F10 rfl H10.box EA ?_))
  intro a11 w11 F11 b11
  try dsimp only at F11
  have H11 := (H10.to b11).put ⟨sBy, tB, 4, 6⟩
  dsimp only at H11
  have p9c := cell_put (sb := sb) p9b ne9 b11 (x0 := .string sBy) (x1 := .string tB) (x2 := .int .i64 4) (x3 := .int .i64 6)
  have p10c := cell_put (sb := sb) p10' ne10 b11 (x0 := .string sBy) (x1 := .string tB) (x2 := .int .i64 4) (x3 := .int .i64 6)
  generalize hw11 : set4 w11 sb _ _ _ _ = W11 at *
  clear hw11
  have ET := sattach (w := W11) ⟨sBy, tB, 4, 6⟩ sok
  simp only [SB.v] at ET
  refine wp_seq (reg_mono (ex_r12 (by kernel_rfl) _ F11 rfl H11.box ET ?_))
  intro a12 w12 F12 b12
  try dsimp only at F12
  have H12 := (H11.to b12).put ⟨sBy, tB, 4, 4⟩
  dsimp only at H12
  have p9d := cell_put (sb := sb) p9c ne9 b12 (x0 := .string sBy) (x1 := .string tB) (x2 := .int .i64 4) (x3 := .int .i64 4)
  have p10d := cell_put (sb := sb) p10c ne10 b12 (x0 := .string sBy) (x1 := .string tB) (x2 := .int .i64 4) (x3 := .int .i64 4)
  generalize hw12 : set4 w12 sb _ _ _ _ = W12 at *
  clear hw12
  have E13 := spoll H12.held.at_ H12.held.ok ⟨sBy, tB, 4, 4⟩ sok 1 (by omega)
  rw [ex_q3] at E13
  simp only [SB.v] at E13
  rw [ex_l3] at E13
  refine wp_seq (reg_mono (ex_r13 (by kernel_rfl) _ F12 rfl rfl H12.box (R := fun ao ln cp w' => ln = 1 ∧ RecsAt w' (.slice ao 1 cp) xl3 ∧ ∀ g, (Value.slice ao 0 cp).ownBlock = some g → W12.heap.size ≤ g) (E13.mono fun e w' ⟨ao, cp, h1, h2, h3, h4⟩ => ⟨ao, _, cp, h1, h3, rfl, h2, h4⟩) ?_))
  rintro a13 w13 ao13 ln13 cp13 F13 b13 ⟨rfl, r13, n13⟩
  try dsimp only at F13
  have H13 := (H12.to b13).put (⟨sBy, tB, 4, 5⟩ : SB)
  dsimp only at H13
  obtain ⟨_, g13, of13, rfl, hg13, p13, _⟩ := r13.five 0 (by rw [ex_l3]; omega)
  rw [ex_o3, Nat.zero_mul, Nat.add_zero] at p13
  have ne13 : g13 ≠ sb := by have := n13 g13 rfl; have := heap_lt H12.box; omega
  have p13' : (set4 w13 sb (.string (⟨sBy, tB, 4, 5⟩ : SB).name) (.string (⟨sBy, tB, 4, 5⟩ : SB).top) (.int .i64 (⟨sBy, tB, 4, 5⟩ : SB).cur) (.int .i64 (⟨sBy, tB, 4, 5⟩ : SB).next)).cell? ⟨g13, of13, none⟩ = some (.int .i64 4) := (set4_touch _ _).cell _ p13 ne13
  have p9e := cell_put (sb := sb) p9d ne9 b13 (x0 := .string sBy) (x1 := .string tB) (x2 := .int .i64 4) (x3 := .int .i64 5)
  have p10e := cell_put (sb := sb) p10d ne10 b13 (x0 := .string sBy) (x1 := .string tB) (x2 := .int .i64 4) (x3 := .int .i64 5)
  generalize hw13 : set4 w13 sb _ _ _ _ = WX13 at *
  clear hw13
  have EB := sackP (w := WX13) ⟨sBy, tB, 4, 5⟩ sok 9
  rw [ex_a2] at EB
  simp only [SB.v] at EB
  refine wp_seq (reg_mono (ex_r14 (by kernel_rfl) _ F13 rfl H13.box EB ?_))
  intro a14 w14 F14 b14
  try dsimp only at F14
  have H14 := H13.to b14
  have ES := sseekP H14.held.at_ H14.held.ok ⟨sBy, tB, 4, 5⟩ sok 11
  rw [ex_s] at ES
  simp only [SB.v] at ES
  refine wp_seq (reg_mono (ex_r15 (by kernel_rfl) _ F14 rfl rfl H14.box ES ?_))
  intro a15 w15 F15 b15
  try dsimp only at F15
  have H15 := H14.to b15
  have ER := srightP ⟨sBy, tB, 4, 5⟩ sok w15
  rw [ex_r] at ER
  simp only [SB.v] at ER
  refine wp_seq (reg_mono (ex_r16 (by kernel_rfl) _ F15 rfl rfl rfl rfl rfl rfl rfl rfl rfl H15.box (cell_below (cell_below p9e b14) b15) (cell_below (cell_below p10e b14) b15) (cell_below (cell_below p13' b14) b15) ER ?_))
  intro a16 w16 F16 b16
  try dsimp only at F16
  exact wp_ret (ex_ret F16 rfl ⟨rfl, (H15.to b16).held.below⟩)
end Go.Proofs.Ytominplelmbecaa.Y
