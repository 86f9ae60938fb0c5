/-
  SubsCredit's walk (mkcr.py).
-/
import Derived.Test.YtoafjgioknkeiaaCrR
namespace Go.Proofs.Ytoafjgioknkeiaa.Y
open Go.RowKit

attribute [local go_sem ↓] Go.wp_at_zero Go.wp_at_succ
set_option linter.unusedSimpArgs false
set_option linter.unusedVariables false
theorem cr_ret {W : World} {a : Act} {v : Vcr} {R : Ending → World → Prop} (hF : Fcr a v) (h2 : v.v6 = .bool true) (h : R (.returned (.bool true)) W) :
    bodyPost Try.prog Try.f5 R .ret a W := by
  have g2 := slot_get (hF.s6.trans h2)
  refine bodyPost_ret (v := .bool true) ?_ hF.defers h
  simp [results, Try.results5, go_sem, g2]
set_option maxHeartbeats 4000000 in
set_option maxRecDepth 100000 in
theorem credit_walk (c0 c1 : Int) (ao : Option Addr) (cap : Nat) (us : List Int) (p0 : -9223372036854775808 ≤ c0 ∧ c0 ≤ 9223372036854775807) (p1 : -9223372036854775808 ≤ c1 ∧ c1 ≤ 9223372036854775807) (w : World) (hus : ∀ i (hi : i < us.length), ∃ b off, ao = some ⟨b, off, none⟩ ∧ b < w.heap.size ∧ w.cell? ⟨b, off + i, none⟩ = some (.int .i64 us[i])) (hin : ∀ m ∈ us, -9223372036854775808 ≤ m ∧ m ≤ 9223372036854775807) :
    Calls Try.prog 5 #[.int .i64 c0, .int .i64 c1, .slice ao us.length cap] w fun e w' => e = .returned (.bool true) ∧ Below w.heap.size w w' := by
  obtain ⟨n, hn⟩ : ∃ n : Nat, pickF c0 301 = (n : Int) := ⟨(pickF c0 301).toNat, by have := pickF_range c0 301 (by omega); omega⟩
  have hn2 : n ≤ 300 := by have := pickF_range c0 301 (by omega); omega
  obtain ⟨x0, hx⟩ : ∃ x : Nat, pickF c1 ((n : Int) + 1) = (x : Int) := ⟨(pickF c1 ((n : Int) + 1)).toNat, by have := pickF_range c1 ((n : Int) + 1) (by omega); omega⟩
  have hx2 : x0 ≤ n := by have := pickF_range c1 ((n : Int) + 1) (by omega); omega
  go_enter Try.func5, Try.ntmps5
  refine wp_seq (reg_mono (cr_r0 (by kernel_rfl) _ (v := ⟨_, _, _, _, _, _, _, _, _, _, _, _⟩) ⟨rfl, rfl, rfl, rfl, rfl, rfl, rfl, rfl, rfl, rfl, rfl, rfl, rfl, rfl⟩ ?_))
  intro a0 F0
  try dsimp only at F0
  refine wp_seq (reg_mono (cr_r1 (by kernel_rfl) _ F0 (examples_any w) ?_))
  intro a1 w1 F1 b1
  try dsimp only at F1
  refine wp_seq (reg_mono (cr_r2 (by kernel_rfl) _ F1 (held_new tB (z1 _) ex_w b1 (Nat.le_refl _)) ?_))
  rintro a2 w2 L F2 ⟨H2, _, _⟩
  try dsimp only at F2
  refine wp_seq (wp_seq (reg_mono (cr_r3 (by kernel_rfl) _ F2 rfl ?_)))
  intro a3 F3 g3
  refine wp_cond_false g3 (wp_skip ?_)
  show Code.wp _ _ _ _ _
  refine wp_seq (reg_mono (cr_r5 (n := n) (by kernel_rfl) _ F3 rfl (by rw [← hn]; exact pick_any c0 301 p0.1 p0.2 (by omega) (by omega) w2) ?_))
  rintro a5 _ F5 rfl
  try dsimp only at F5
  refine wp_seq (wp_seq (reg_mono (cr_r6 (by kernel_rfl) _ F5 ?_)))
  intro a6 F6
  try dsimp only at F6
  refine wp_block (wp_loop (fun a W => ∃ (i : Nat) (v : Vcr) (L : LOC) (G : TG), i ≤ n ∧ Fcr a v ∧ v.v1 = .int .i64 c1 ∧ v.v2 = .slice ao us.length cap ∧ v.v7 = .bool true ∧ v.v8 = .pointer (some ⟨L.b, 0, none⟩) ∧ v.v10 = .int .i64 (n : Int) ∧ v.v11 = .int .i64 (i : Int) ∧ Held w.heap.size w W L G i ∧ PN G i) (fun a _ => n - (intOf (a.tmps.getD 11 undef)).toNat) ⟨0, _, L, _, Nat.zero_le _, F6, rfl, rfl, rfl, rfl, rfl, rfl, H2, pn_new⟩ ?_)
  clear F0 F1 F2 F3 F5 F6 g3 H2 b1
  rintro a W ⟨i, v, L, G, hi, F, q1, q2, q7, q8, q10, q11, M, PP⟩
  have hmi : (intOf (a.tmps.getD 11 undef)).toNat = i := by rw [F.s11, q11]; simp [intOf]
  refine wp_seq (wp_seq (reg_mono (cr_r7 (by kernel_rfl) _ F q11 q10 ?_)))
  intro a7 F7 g7
  by_cases hlt : i < n
  case pos =>
    rw [decide_eq_true hlt] at g7
    refine wp_cond_true g7 (wp_skip ?_)
    show Code.wp _ _ _ _ _
    have E8 := held_pub M (by omega) pB i eB eB (z1 _) z0 z0
    have P8 := pn_pub PP (by omega) eB eB (by show 0 ≤ _; omega) (by show 0 ≤ _; omega)
    refine wp_seq (wp_block (reg_all (cr_r9 (R := fun w' => ∃ L', L'.b = L.b ∧ Held w.heap.size w w' L' (pubF G pB i eB eB).2.2 (i + 1)) (by kernel_rfl) _ F7 q8 q11 (E8.mono fun e w' ⟨h1, L', h2, h3, _⟩ => ⟨⟨_, _, h1⟩, L', h2, h3⟩) ?_)))
    rintro a8 w8 F8 ⟨L8, e8, H8⟩
    show Code.wp _ _ _ _ _
    refine reg_mono (cr_r8 (by kernel_rfl) _ F8 q11 (by omega) ?_)
    intro a9 F9
    try dsimp only at F9
    refine ⟨⟨i + 1, _, L8, _, by omega, F9, q1, q2, q7, by rw [e8]; exact q8, q10, rfl, H8, P8⟩, ?_⟩
    rw [hmi, F9.s11]
    simp [intOf]
    omega
  obtain rfl : n = i := by omega
  rw [decide_eq_false hlt] at g7
  refine wp_cond_false g7 (wp_exit ?_)
  show Code.wp _ _ _ _ _
  obtain ⟨v0, v1, v2, v6, v7, v8, v10, v11, v12, v14, v15, v16⟩ := v
  simp only at q1 q2 q7 q8 q10 q11
  subst q1 q2 q7 q8 q10 q11
  clear hmi hlt hi F
  refine wp_seq (reg_mono (cr_r10 (x := x0) (by kernel_rfl) _ F7 rfl rfl (by omega) (by rw [← hx]; exact pick_any c1 _ p1.1 p1.2 (by omega) (by omega) W) ?_))
  rintro a10 _ F10 rfl
  try dsimp only at F10
  have EN := snew M.at_ M.ok sBy (z1 _) (x0 : Int)
  rw [pn_new2 PP hx2] at EN
  simp only [SB.v] at EN
  refine wp_seq (reg_mono (cr_r11 (by kernel_rfl) _ F10 rfl rfl EN ?_))
  intro a11 w8 F11 b8
  try dsimp only at F11
  have H8 := HSB.mk' (M.to b8) ⟨sBy, tB, x0, x0⟩
  dsimp only at H8
  generalize w8.heap.size = sb at *
  generalize hw8 : w8.alloc _ = W8 at *
  clear hw8
  refine wp_seq (reg_mono (cr_r12 (by kernel_rfl) _ F11 ?_))
  intro a12 F12
  try dsimp only at F12
  refine wp_seq (wp_seq (reg_mono (cr_r13 (by kernel_rfl) _ F12 ?_)))
  intro a13 F13
  try dsimp only at F13
  refine wp_block (wp_loop (fun a W => ∃ (i td : Nat) (v : Vcr), i ≤ us.length ∧ td ≤ 100 ∧ x0 + td ≤ n ∧ Fcr a v ∧ v.v1 = .int .i64 (x0 : Int) ∧ v.v2 = .slice ao us.length cap ∧ v.v7 = .bool true ∧ v.v8 = .pointer (some ⟨L.b, 0, none⟩) ∧ v.v10 = .int .i64 (n : Int) ∧ v.v12 = .pointer (some ⟨sb, 0, none⟩) ∧ v.v14 = .int .i64 (td : Int) ∧ v.v15 = .int .i64 (i : Int) ∧ HSB w.heap.size w W L G n sb ⟨sBy, tB, x0, ((x0 + td : Nat) : Int)⟩) (fun a _ => us.length - (intOf (a.tmps.getD 15 undef)).toNat) ⟨0, 0, _, Nat.zero_le _, by omega, by omega, F13, rfl, rfl, rfl, rfl, rfl, rfl, rfl, rfl, H8⟩ ?_)
  clear F7 F10 F11 F12 F13 g7 H8 b8 EN M
  rintro a W ⟨i, td, v, hi, htd, hxn, F, q1, q2, q7, q8, q10, q12, q14, q15, M⟩
  have hmi : (intOf (a.tmps.getD 15 undef)).toNat = i := by rw [F.s15, q15]; simp [intOf]
  obtain ⟨v0, v1, v2, v6, v7, v8, v10, v11, v12, v14, v15, v16⟩ := v
  simp only at q1 q2 q7 q8 q10 q12 q14 q15
  subst q1 q2 q7 q8 q10 q12 q14 q15
  refine wp_seq (wp_seq (reg_mono (cr_r14 (by kernel_rfl) _ F rfl rfl ?_)))
  intro a14 F14 g14
  by_cases hlt : i < us.length ∧ i < 60
  case pos =>
    rw [show (decide (i < us.length) && decide (i < 60)) = true by rw [decide_eq_true hlt.1, decide_eq_true hlt.2]; rfl] at g14
    refine wp_cond_true g14 (wp_skip ?_)
    show Code.wp _ _ _ _ _
    refine wp_seq (wp_block ?_)
    refine wp_seq (reg_mono (cr_r16 (by kernel_rfl) _ F14 ?_))
    intro a16 F16
    try dsimp only at F16
    obtain ⟨bq, oq, hao, hbq, hcq⟩ := hus i hlt.1
    have hcW := (M.held.below.cell (p := ⟨bq, oq + i, none⟩) hbq).trans hcq
    have hbW : bq < W.heap.size := Nat.lt_of_lt_of_le hbq M.held.below.size
    have hmb := hin _ (List.getElem_mem hlt.1)
    generalize us[i] = mq at *
    obtain ⟨m, hm⟩ : ∃ m : Nat, pickF mq 50 = (m : Int) := ⟨(pickF mq 50).toNat, by have := pickF_range mq 50 (by omega); omega⟩
    have hm2 : m < 50 := by have := pickF_range mq 50 (by omega); omega
    obtain ⟨RL, e18, hl18, ho18⟩ := pn_poll PP (by omega) x0 (x0 + td) (1 + m) (Nat.le_add_right _ _) hxn (by omega) (by omega) (by omega)
    have E18 : ∀ W', Below W.heap.size W W' → Calls Try.prog 15 #[.agg #[.string sBy, .string tB, .int .i64 x0, .int .i64 ((x0 + td : Nat) : Int)], .pointer (some ⟨L.b, 0, none⟩), .int .i64 (1 + (m : Int))] W' fun e w' => ∃ ao cp, e = .returned (.tuple #[.agg #[.string sBy, .string tB, .int .i64 x0, .int .i64 ((x0 + td + RL.length : Nat) : Int)], .slice ao RL.length cp, .int .i64 0]) ∧ RecsAt w' (.slice ao RL.length cp) RL ∧ Below W'.heap.size W' w' ∧ ∀ g, (Value.slice ao 0 cp).ownBlock = some g → W.heap.size ≤ g := fun W' hW => by
      have E := spoll (M.held.to hW).at_ M.held.ok ⟨sBy, tB, x0, ((x0 + td : Nat) : Int)⟩ sok ((1 + m : Nat) : Int) (by omega)
      rw [e18] at E
      simp only [SB.v] at E
      rw [show ((1 + m : Nat) : Int) = 1 + (m : Int) by omega] at E
      exact E.mono fun e w' ⟨ao, cp, h1, h2, h3, h4⟩ => ⟨ao, cp, h1, h2, h3, fun g hg => Nat.le_trans hW.size (h4 g hg)⟩
    rw [hao] at F16
    refine wp_seq (reg_mono (cr_r17 (RL := RL) (by kernel_rfl) _ F16 rfl rfl rfl rfl M.box hlt.1 hbW hcW (pk := (m : Int)) (fun W' => by rw [← hm]; exact pick_any mq 50 hmb.1 hmb.2 (by omega) (by omega) W') (by omega) (by omega) E18 ?_))
    intro a18 w18 ao2 cp F18 t18 x18 r18
    try dsimp only at F18
    rw [← hao] at F18
    have M18 : HSB w.heap.size w w18 L G n sb ⟨sBy, tB, x0, ((x0 + (td + RL.length) : Nat) : Int)⟩ := ⟨M.held.touch t18 (fun j hj e => by subst e; exact M.held.at_.apart M.box hj) (fun j e => by subst e; exact M.new), by rw [← Nat.add_assoc]; exact x18, M.new⟩
    refine wp_seq (reg_mono (cr_r18 (by kernel_rfl) _ F18 rfl rfl (by omega) (by omega) ?_))
    intro a19 F19
    try dsimp only at F19
    refine wp_seq (reg_mono (cr_r19 (by kernel_rfl) _ F19 rfl rfl rfl rfl rfl M18.box (by omega) (by omega) (by omega) (by omega) rfl (fun e => by omega) ?_))
    intro a20 F20 g20
    refine wp_cond_false g20 (wp_skip ?_)
    show Code.wp _ _ _ _ _
    refine reg_mono (cr_r15 (by kernel_rfl) _ F20 rfl (by omega) ?_)
    intro a15 F15
    try dsimp only at F15
    refine ⟨⟨i + 1, td + RL.length, _, by omega, by omega, by omega, F15, rfl, rfl, rfl, rfl, rfl, rfl, rfl, rfl, M18⟩, ?_⟩
    rw [hmi, F15.s15]
    simp [intOf]
    omega
  have e : (decide (i < us.length) && decide (i < 60)) = false := by
    rw [Bool.and_eq_false_iff]
    by_cases h1 : i < us.length
    · right; exact decide_eq_false (fun h2 => hlt ⟨h1, h2⟩)
    · left; exact decide_eq_false h1
  rw [e] at g14
  refine wp_cond_false g14 (wp_exit ?_)
  show Code.wp _ _ _ _ _
  refine wp_seq (reg_mono (cr_r21 (by kernel_rfl) _ F14 rfl ?_))
  intro a21 F21
  try dsimp only at F21
  exact wp_ret (cr_ret F21 rfl ⟨rfl, M.held.below⟩)
end Go.Proofs.Ytoafjgioknkeiaa.Y
