/-
  SubsSeeks' walk (mkse2.py).
-/
import Derived.Test.YtoafjgioknkeiaaSeR
import Derived.Test.YtoafjgioknkeiaaTKD
namespace Go.Proofs.Ytoafjgioknkeiaa.Y
open Go.RowKit

attribute [local go_sem ↓] Go.wp_at_zero Go.wp_at_succ
set_option linter.unusedSimpArgs false
set_option linter.unusedVariables false
theorem pn_poll_any {G : TG} {n : Nat} (P : PN G n) (hn : n ≤ 1000) (c x : Nat) (m : Int) (hcx : c ≤ x) (hxn : x ≤ n) (hx2 : x ≤ c + 100) :
    ∃ (x' : Nat) (l : List Rec) (cd : Int), pollF ⟨sBy, tB, c, x⟩ G m = (⟨sBy, tB, c, (x' : Int)⟩, l, cd) ∧ c ≤ x' ∧ x' ≤ n ∧ x' ≤ c + 100 := by
  by_cases h : 1 ≤ m ∧ m ≤ 50
  · obtain ⟨l, e, hl, _⟩ := pn_poll P hn c x m.toNat hcx hxn hx2 (by omega) (by omega)
    rw [show ((m.toNat : Nat) : Int) = m by omega] at e
    exact ⟨_, l, 0, e, by omega, by omega, by omega⟩
  · refine ⟨x, [], 7, ?_, hcx, hxn, hx2⟩
    have ok : pollOk ⟨sBy, tB, c, x⟩ G m = false := by
      unfold pollOk
      by_cases h1 : 1 ≤ m
      · rw [decide_eq_false (show ¬ m ≤ 50 from fun q => h ⟨h1, q⟩), Bool.and_false]
      · rw [decide_eq_false h1, Bool.and_false, Bool.false_and]
    have e : pollI ⟨sBy, tB, c, x⟩ G m = (⟨sBy, tB, c, x⟩, [], false) := by rw [pollI, if_neg (by rw [ok]; simp)]
    rw [pollF, e]
    simp
theorem pn_ack_any (c x : Nat) (m : Int) (hcx : c ≤ x) (hx : x ≤ 1000) : ∃ (c' : Nat) (cd : Int), ackF ⟨sBy, tB, c, x⟩ m = (⟨sBy, tB, (c' : Int), x⟩, cd) ∧ c ≤ c' ∧ c' ≤ x := by
  by_cases h : 0 ≤ m ∧ m < (x : Int)
  · refine ⟨(max (c : Int) (m + 1)).toNat, 0, ?_, by omega, by omega⟩
    have e : ackI ⟨sBy, tB, c, x⟩ m = (⟨sBy, tB, max (c : Int) (m + 1), x⟩, true) := by rw [ackI, if_pos h]
    rw [ackF, e, pn_right hcx hx, show (((max (c : Int) (m + 1)).toNat : Nat) : Int) = max (c : Int) (m + 1) by omega]
    rfl
  · refine ⟨c, 7, ?_, Nat.le_refl _, hcx⟩
    have e : ackI ⟨sBy, tB, c, x⟩ m = (⟨sBy, tB, c, x⟩, false) := by rw [ackI, if_neg h]
    rw [ackF, e]
    simp
theorem pn_seek {G : TG} {n c x y : Nat} (P : PN G n) (hcx : c ≤ x) (hx : x ≤ 1000) (hy : y ≤ n) : seekF ⟨sBy, tB, c, x⟩ G (y : Int) = (⟨sBy, tB, y, y⟩, 0) := by
  have e : seekI ⟨sBy, tB, c, x⟩ G (y : Int) = (⟨sBy, tB, y, y⟩, true) := by
    rw [seekI, if_pos ⟨by rw [P.name]; kernel_rfl, by omega, by rw [P.fin]; omega⟩]
  rw [seekF, e, pn_right hcx hx]
  rfl
theorem se_ret {W : World} {a : Act} {v : Vse} {R : Ending → World → Prop} (hF : Fse a v) (h2 : v.v8 = .bool true) (h : R (.returned (.bool true)) W) :
    bodyPost Try.prog Try.f6 R .ret a W := by
  have g2 := slot_get (hF.s8.trans h2)
  refine bodyPost_ret (v := .bool true) ?_ hF.defers h
  simp [results, Try.results6, go_sem, g2]
set_option maxHeartbeats 4000000 in
set_option maxRecDepth 100000 in
theorem seeks_walk (c0 : Int) (ao : Option Addr) (cap : Nat) (us : List DE) (c2 c3 : Int) (p0 : -9223372036854775808 ≤ c0 ∧ c0 ≤ 9223372036854775807) (p2 : -9223372036854775808 ≤ c2 ∧ c2 ≤ 9223372036854775807) (p3 : -9223372036854775808 ≤ c3 ∧ c3 ≤ 9223372036854775807) (w : World) (hus : DEs w ao us) :
    Calls Try.prog 6 #[.int .i64 c0, .slice ao us.length cap, .int .i64 c2, .int .i64 c3] w fun e w' => e = .returned (.bool true) ∧ Below w.heap.size w w' := by
  obtain ⟨n, hn⟩ : ∃ n : Nat, pickF c0 201 = (n : Int) := ⟨(pickF c0 201).toNat, by have := pickF_range c0 201 (by omega); omega⟩
  have hn2 : n ≤ 200 := by have := pickF_range c0 201 (by omega); omega
  obtain ⟨y, hy⟩ : ∃ y : Nat, pickF c2 ((n : Int) + 1) = (y : Int) := ⟨(pickF c2 ((n : Int) + 1)).toNat, by have := pickF_range c2 ((n : Int) + 1) (by omega); omega⟩
  have hy2 : y ≤ n := by have := pickF_range c2 ((n : Int) + 1) (by omega); omega
  obtain ⟨p, hp⟩ : ∃ p : Nat, pickF c3 50 = (p : Int) := ⟨(pickF c3 50).toNat, by have := pickF_range c3 50 (by omega); omega⟩
  have hp2 : p < 50 := by have := pickF_range c3 50 (by omega); omega
  go_enter Try.func6, Try.ntmps6
  refine wp_seq (reg_mono (se_r0 (by kernel_rfl) _ (v := ⟨_, _, _, _, _, _, _, _, _, _, _, _, _, _, _, _⟩) ⟨rfl, rfl, rfl, rfl, rfl, rfl, rfl, rfl, rfl, rfl, rfl, rfl, rfl, rfl, rfl, rfl, rfl, rfl⟩ ?_))
  intro a0 F0
  try dsimp only at F0
  refine wp_seq (reg_mono (se_r1 (by kernel_rfl) _ F0 (examples_any w) ?_))
  intro a1 w1 F1 b1
  try dsimp only at F1
  refine wp_seq (reg_mono (se_r2 (by kernel_rfl) _ F1 (held_new tB (z1 _) ex_w b1 (Nat.le_refl _)) ?_))
  rintro a2 w2 L F2 ⟨H2, _, _⟩
  try dsimp only at F2
  refine wp_seq (wp_seq (reg_mono (se_r3 (by kernel_rfl) _ F2 rfl ?_)))
  intro a3 F3 g3
  refine wp_cond_false g3 (wp_skip ?_)
  show Code.wp _ _ _ _ _
  refine wp_seq (reg_mono (se_r5 (n := n) (by kernel_rfl) _ F3 rfl (by rw [← hn]; exact pick_any c0 201 p0.1 p0.2 (by omega) (by omega) w2) ?_))
  rintro a5 _ F5 rfl
  try dsimp only at F5
  refine wp_seq (wp_seq (reg_mono (se_r6 (by kernel_rfl) _ F5 ?_)))
  intro a6 F6
  try dsimp only at F6
  refine wp_block (wp_loop (fun a W => ∃ (i : Nat) (v : Vse) (L : LOC) (G : TG), i ≤ n ∧ Fse a v ∧ v.v1 = .slice ao us.length cap ∧ v.v2 = .int .i64 c2 ∧ v.v3 = .int .i64 c3 ∧ v.v9 = .bool true ∧ v.v10 = .pointer (some ⟨L.b, 0, none⟩) ∧ v.v12 = .int .i64 (n : Int) ∧ v.v13 = .int .i64 (i : Int) ∧ Held w.heap.size w W L G i ∧ PN G i) (fun a _ => n - (intOf (a.tmps.getD 13 undef)).toNat) ⟨0, _, L, _, Nat.zero_le _, F6, rfl, rfl, rfl, rfl, rfl, rfl, rfl, H2, pn_new⟩ ?_)
  clear F0 F1 F2 F3 F5 F6 g3 H2 b1
  rintro a W ⟨i, v, L, G, hi, F, q1, q2, q3, q9, q10, q12, q13, M, PP⟩
  have hmi : (intOf (a.tmps.getD 13 undef)).toNat = i := by rw [F.s13, q13]; simp [intOf]
  refine wp_seq (wp_seq (reg_mono (se_r7 (by kernel_rfl) _ F q13 q12 ?_)))
  intro a7 F7 g7
  by_cases hlt : i < n
  case pos =>
    rw [decide_eq_true hlt] at g7
    refine wp_cond_true g7 (wp_skip ?_)
    show Code.wp _ _ _ _ _
    have E8 := held_pub M (by omega) pB i eB eB (z1 _) z0 z0
    have P8 := pn_pub PP (by omega) eB eB (by show 0 ≤ _; omega) (by show 0 ≤ _; omega)
    refine wp_seq (wp_block (reg_all (se_r9 (R := fun w' => ∃ L', L'.b = L.b ∧ Held w.heap.size w w' L' (pubF G pB i eB eB).2.2 (i + 1)) (by kernel_rfl) _ F7 q10 q13 (E8.mono fun e w' ⟨h1, L', h2, h3, _⟩ => ⟨⟨_, _, h1⟩, L', h2, h3⟩) ?_)))
    rintro a8 w8 F8 ⟨L8, e8, H8⟩
    show Code.wp _ _ _ _ _
    refine reg_mono (se_r8 (by kernel_rfl) _ F8 q13 (by omega) ?_)
    intro a9 F9
    try dsimp only at F9
    refine ⟨⟨i + 1, _, L8, _, by omega, F9, q1, q2, q3, q9, by rw [e8]; exact q10, q12, rfl, H8, P8⟩, ?_⟩
    rw [hmi, F9.s13]
    simp [intOf]
    omega
  obtain rfl : n = i := by omega
  rw [decide_eq_false hlt] at g7
  refine wp_cond_false g7 (wp_exit ?_)
  show Code.wp _ _ _ _ _
  obtain ⟨v0, v1, v2, v3, v8, v9, v10, v12, v13, v14, v16, v17, v18, v19, v20, v58⟩ := v
  simp only at q1 q2 q3 q9 q10 q12 q13
  subst q1 q2 q3 q9 q10 q12 q13
  clear hmi hlt hi F
  have EN := snew M.at_ M.ok sBy (z1 _) 0
  rw [show (0 : Int) = ((0 : Nat) : Int) from rfl, pn_new2 PP (Nat.zero_le _)] at EN
  simp only [SB.v, Int.natCast_zero, Int.ofNat_zero] at EN
  refine wp_seq (reg_mono (se_r10 (by kernel_rfl) _ F7 rfl EN ?_))
  intro a10 w8 F10 b8
  try dsimp only at F10
  have H8 := HSB.mk' (M.to b8) ⟨sBy, tB, ((0 : Nat) : Int), ((0 : Nat) : Int)⟩
  dsimp only at H8
  generalize w8.heap.size = sb at *
  generalize hw8 : w8.alloc _ = W8 at *
  have hw8' : w8.alloc (.cells #[.string sBy, .string tB, .int .i64 ((0 : Nat) : Int), .int .i64 ((0 : Nat) : Int)] 33) = W8 := hw8
  refine wp_seq (wp_seq (reg_mono (se_r11 (by kernel_rfl) _ F10 ?_)))
  intro a11 F11
  try dsimp only at F11
  refine wp_block (wp_loop (fun a W => ∃ (i c x : Nat) (v : Vse), i ≤ us.length ∧ c ≤ x ∧ x ≤ n ∧ x ≤ c + 100 ∧ Fse a v ∧ v.v1 = .slice ao us.length cap ∧ v.v2 = .int .i64 c2 ∧ v.v3 = .int .i64 c3 ∧ v.v9 = .bool true ∧ v.v10 = .pointer (some ⟨L.b, 0, none⟩) ∧ v.v12 = .int .i64 (n : Int) ∧ v.v14 = .pointer (some ⟨sb, 0, none⟩) ∧ v.v16 = .int .i64 (i : Int) ∧ HSB w.heap.size w W L G n sb ⟨sBy, tB, c, x⟩) (fun a _ => us.length - (intOf (a.tmps.getD 16 undef)).toNat) ⟨0, 0, 0, _, Nat.zero_le _, Nat.le_refl _, Nat.zero_le _, Nat.zero_le _, F11, rfl, rfl, rfl, rfl, rfl, rfl, rfl, rfl, H8⟩ ?_)
  clear F7 F10 F11 g7 H8 b8 EN M hw8 hw8'
  rintro a W ⟨i, c, x, v, hi, hcx, hxn, hx2, F, q1, q2, q3, q9, q10, q12, q14, q16, M⟩
  have hmi : (intOf (a.tmps.getD 16 undef)).toNat = i := by rw [F.s16, q16]; simp [intOf]
  obtain ⟨v0, v1, v2, v3, v8, v9, v10, v12, v13, v14, v16, v17, v18, v19, v20, v58⟩ := v
  simp only at q1 q2 q3 q9 q10 q12 q14 q16
  subst q1 q2 q3 q9 q10 q12 q14 q16
  refine wp_seq (wp_seq (reg_mono (se_r12 (by kernel_rfl) _ F rfl rfl ?_)))
  intro a12 F12 g12
  by_cases hlt : i < us.length ∧ i < 30
  case pos =>
    rw [show (decide (i < us.length) && decide (i < 30)) = true by rw [decide_eq_true hlt.1, decide_eq_true hlt.2]; rfl] at g12
    refine wp_cond_true g12 (wp_skip ?_)
    show Code.wp _ _ _ _ _
    obtain ⟨bq, oq, hao, hbq, hd⟩ := hus.all i hlt.1
    have hdk := hus.ok _ (List.getElem_mem hlt.1)
    generalize us[i] = d at *
    have hc0 := (M.held.below.cell (p := ⟨bq, oq + i * 2, none⟩) hbq).trans hd.c0
    have hc1 := (M.held.below.cell (p := ⟨bq, oq + i * 2 + 1, none⟩) hbq).trans hd.c1
    have hbW : bq < W.heap.size := Nat.lt_of_lt_of_le hbq M.held.below.size
    obtain ⟨kk, nn⟩ := d
    obtain ⟨hk1, hk2⟩ := hdk
    simp only at hk1 hk2 hc0 hc1
    have hk2b : nn ≤ 9223372036854775807 := hk2.2
    refine wp_mid (fun a W => ∃ (c x : Nat) (v : Vse), c ≤ x ∧ x ≤ n ∧ x ≤ c + 100 ∧ Fse a v ∧ v.v1 = .slice ao us.length cap ∧ v.v2 = .int .i64 c2 ∧ v.v3 = .int .i64 c3 ∧ v.v9 = .bool true ∧ v.v10 = .pointer (some ⟨L.b, 0, none⟩) ∧ v.v12 = .int .i64 (n : Int) ∧ v.v14 = .pointer (some ⟨sb, 0, none⟩) ∧ v.v16 = .int .i64 (i : Int) ∧ HSB w.heap.size w W L G n sb ⟨sBy, tB, c, x⟩) (wp_block ?_) ?_
    case _ =>
      rw [hao] at F12
      refine wp_seq (reg_mono (se_r14 (pk := pickF kk 3) (by kernel_rfl) _ F12 rfl rfl hlt.1 hc0 (pick_any kk 3 hk1.1 hk1.2 (by omega) (by omega) W) ?_))
      rintro a14 Wr F14 hwr
      obtain rfl := hwr.symm
      try dsimp only at F14
      refine wp_block ?_
      refine wp_seq (reg_mono (se_r16 (by kernel_rfl) _ F14 rfl ?_))
      intro a16 F16 g16
      by_cases e0 : pickF kk 3 = 0
      case pos =>
        rw [show (pickF kk 3 == 0) = true by rw [e0]; rfl] at g16
        refine wp_cond_true g16 ?_
        obtain ⟨x', RL, cd, e17, k1, k2, k3⟩ := pn_poll_any PP (by omega) c x nn hcx hxn hx2
        have E17 : ∀ W', Below W.heap.size W W' → Calls Try.prog 15 #[.agg #[.string sBy, .string tB, .int .i64 c, .int .i64 x], .pointer (some ⟨L.b, 0, none⟩), .int .i64 nn] W' fun e w' => ∃ ao cp, e = .returned (.tuple #[.agg #[.string sBy, .string tB, .int .i64 c, .int .i64 x'], .slice ao RL.length cp, .int .i64 cd]) ∧ RecsAt w' (.slice ao RL.length cp) RL ∧ Below W'.heap.size W' w' ∧ ∀ g, (Value.slice ao 0 cp).ownBlock = some g → W.heap.size ≤ g := fun W' hW => by
          have E := spoll (M.held.to hW).at_ M.held.ok ⟨sBy, tB, c, x⟩ sok nn hk2b
          rw [e17] at E
          simp only [SB.v] at E
          exact E.mono fun e w' ⟨ao, cp, h1, h2, h3, h4⟩ => ⟨ao, cp, h1, h2, h3, fun g hg => Nat.le_trans hW.size (h4 g hg)⟩
        refine reg_all (se_r17 (RL := RL) (by kernel_rfl) _ F16 rfl rfl rfl rfl M.box hlt.1 hbW hc1 E17 ?_)
        intro a17 w17 F17 t17 x17
        try dsimp only at F17
        rw [← hao] at F17
        exact ⟨c, x', _, k1, k2, k3, F17, rfl, rfl, rfl, rfl, rfl, rfl, rfl, rfl, ⟨M.held.touch t17 (fun j hj e => by subst e; exact M.held.at_.apart M.box hj) (fun j e => by subst e; exact M.new), x17, M.new⟩⟩
      rw [show (pickF kk 3 == 0) = false from beq_eq_false_iff_ne.2 e0] at g16
      refine wp_cond_false g16 ?_
      refine wp_seq (reg_mono (se_r18 (by kernel_rfl) _ F16 rfl ?_))
      intro a18 F18 g18
      by_cases e1 : pickF kk 3 = 1
      case pos =>
        rw [show (pickF kk 3 == 1) = true by rw [e1]; rfl] at g18
        refine wp_cond_true g18 ?_
        obtain ⟨c', cd, e19, k1, k2⟩ := pn_ack_any c x nn hcx (by omega)
        have E19 : ∀ W', Below W.heap.size W W' → Calls Try.prog 16 #[.agg #[.string sBy, .string tB, .int .i64 c, .int .i64 x], .int .i64 nn] W' fun e w' => e = .returned (.tuple #[.agg #[.string sBy, .string tB, .int .i64 c', .int .i64 x], .int .i64 cd]) ∧ Below W'.heap.size W' w' := fun W' hW => by
          have E := sackP (w := W') ⟨sBy, tB, c, x⟩ sok nn
          rw [e19] at E
          simp only [SB.v] at E
          exact E
        refine reg_all (se_r19 (by kernel_rfl) _ F18 rfl rfl rfl M.box hlt.1 hbW hc1 E19 ?_)
        intro a19 w19 F19 t19 x19
        try dsimp only at F19
        rw [← hao] at F19
        exact ⟨c', x, _, k2, hxn, by omega, F19, rfl, rfl, rfl, rfl, rfl, rfl, rfl, rfl, ⟨M.held.touch t19 (fun j hj e => by subst e; exact M.held.at_.apart M.box hj) (fun j e => by subst e; exact M.new), x19, M.new⟩⟩
      rw [show (pickF kk 3 == 1) = false from beq_eq_false_iff_ne.2 e1] at g18
      refine wp_cond_false g18 ?_
      have E15 := sattach (w := W) ⟨sBy, tB, c, x⟩ sok
      simp only [SB.v] at E15
      refine reg_all (se_r15 (by kernel_rfl) _ F18 rfl M.box E15 ?_)
      intro a15 w15 F15 b15
      try dsimp only at F15
      rw [← hao] at F15
      exact ⟨c, c, _, Nat.le_refl _, by omega, by omega, F15, rfl, rfl, rfl, rfl, rfl, rfl, rfl, rfl, (M.to b15).put ⟨sBy, tB, c, c⟩⟩
    clear F F12 g12 M hc0 hc1 hbW hcx hxn hx2 c x
    rintro a1 W1 ⟨c, x, v, hcx, hxn, hx2, F1, q1, q2, q3, q9, q10, q12, q14, q16, M⟩
    refine reg_mono (se_r13 (by kernel_rfl) _ F1 q16 (by omega) ?_)
    intro a13 F13
    try dsimp only at F13
    refine ⟨⟨i + 1, c, x, _, by omega, hcx, hxn, hx2, F13, q1, q2, q3, q9, q10, q12, q14, rfl, M⟩, ?_⟩
    rw [hmi, F13.s16]
    simp [intOf]
    omega
  have e : (decide (i < us.length) && decide (i < 30)) = false := by
    rw [Bool.and_eq_false_iff]
    by_cases h1 : i < us.length
    · right; exact decide_eq_false (fun h2 => hlt ⟨h1, h2⟩)
    · left; exact decide_eq_false h1
  rw [e] at g12
  refine wp_cond_false g12 (wp_exit ?_)
  show Code.wp _ _ _ _ _
  refine wp_seq (reg_mono (se_r20 (x := y) (by kernel_rfl) _ F12 rfl rfl (by omega) (by rw [← hy]; exact pick_any c2 _ p2.1 p2.2 (by omega) (by omega) W) ?_))
  rintro a20 Wr F20 hwr
  obtain rfl := hwr.symm
  try dsimp only at F20
  refine wp_seq (reg_mono (se_r21 (p := p) (by kernel_rfl) _ F20 rfl (by omega) (by rw [← hp]; exact pick_any c3 50 p3.1 p3.2 (by omega) (by omega) W) ?_))
  rintro a21 Wr F21 hwr
  obtain rfl := hwr.symm
  try dsimp only at F21
  have E22 := sseekP M.held.at_ M.held.ok ⟨sBy, tB, c, x⟩ sok (y : Int)
  rw [pn_seek PP hcx (by omega) hy2] at E22
  simp only [SB.v] at E22
  refine wp_seq (reg_mono (se_r22 (by kernel_rfl) _ F21 rfl rfl rfl M.box E22 ?_))
  intro a22 w22 F22 b22
  try dsimp only at F22
  have M22 := (M.to b22).put ⟨sBy, tB, y, y⟩
  dsimp only at M22
  generalize hw22 : set4 w22 sb _ _ _ _ = W22 at *
  clear hw22
  refine wp_seq (wp_seq (reg_mono (se_r23 (by kernel_rfl) _ F22 rfl rfl rfl M22.box ?_)))
  intro a23 F23 g23
  refine wp_cond_false g23 (wp_skip ?_)
  show Code.wp _ _ _ _ _
  obtain ⟨RL, e25, hl25, ho25⟩ := pn_poll PP (by omega) y y (1 + p) (Nat.le_refl _) hy2 (by omega) (by omega) (by omega)
  have E25 := spoll M22.held.at_ M22.held.ok ⟨sBy, tB, y, y⟩ sok ((1 + p : Nat) : Int) (by omega)
  rw [e25] at E25
  simp only [SB.v] at E25
  rw [show ((1 + p : Nat) : Int) = 1 + (p : Int) by omega, show ((y + RL.length : Nat) : Int) = (y : Int) + (RL.length : Int) by omega] at E25
  refine wp_seq (reg_mono (se_r25 (R := fun ao ln cp w' => ln = RL.length ∧ RecsAt w' (.slice ao RL.length cp) RL ∧ ∀ g, (Value.slice ao 0 cp).ownBlock = some g → W22.heap.size ≤ g) (by kernel_rfl) _ F23 rfl rfl rfl M22.box (E25.mono fun e w' ⟨ao, cp, h1, h2, h3, h4⟩ => ⟨ao, _, cp, h1, h3, rfl, h2, h4⟩) ?_))
  rintro a25 w25 ao2 ln cp2 F25 b25 ⟨rfl, r25, n25⟩
  try dsimp only at F25
  have M25 := (M22.to b25).put ⟨sBy, tB, y, (y : Int) + (RL.length : Int)⟩
  have T25 : Touch (fun j => j = sb) w25 (set4 w25 sb (.string sBy) (.string tB) (.int .i64 y) (.int .i64 ((y : Int) + (RL.length : Int)))) := set4_touch _ _
  have R25 : RecsAt (set4 w25 sb (.string sBy) (.string tB) (.int .i64 y) (.int .i64 ((y : Int) + (RL.length : Int)))) (.slice ao2 RL.length cp2) RL := recs_touch r25 T25 fun j hj e => by
    subst e
    have h1 := n25 j ((own_block _ _ _ _).trans hj)
    have h2 := heap_lt M22.box
    omega
  dsimp only at M25
  generalize hw25 : set4 w25 sb _ _ _ _ = W25 at *
  clear hw25 T25
  refine wp_seq (reg_mono (se_r26 (mm := (RL.length : Int)) (by kernel_rfl) _ F25 rfl rfl rfl (by omega) (by omega) (by omega) (by rw [hl25]; omega) ?_))
  intro a26 F26
  try dsimp only at F26
  refine wp_seq (wp_seq (reg_mono (se_r27 (by kernel_rfl) _ F26 rfl rfl rfl rfl rfl M25.box (by omega) (by omega) (by omega) ?_)))
  intro a27 F27 g27
  refine wp_cond_false g27 (wp_skip ?_)
  show Code.wp _ _ _ _ _
  refine wp_seq (wp_seq (reg_mono (se_r29 (by kernel_rfl) _ F27 ?_)))
  intro a29 F29
  try dsimp only at F29
  refine wp_block (wp_loop (fun a W' => ∃ (k : Nat) (v : Vse), k ≤ RL.length ∧ Fse a v ∧ v.v2 = .int .i64 (y : Int) ∧ v.v9 = .bool true ∧ v.v18 = .slice ao2 RL.length cp2 ∧ v.v20 = .int .i64 (k : Int) ∧ W' = W25) (fun a _ => RL.length - (intOf (a.tmps.getD 20 undef)).toNat) ⟨0, _, Nat.zero_le _, F29, rfl, rfl, rfl, rfl, rfl⟩ ?_)
  clear F F12 F20 F21 F22 F23 F25 F26 F27 F29 g12 g23 g27
  rintro a W' ⟨k, v, hk, F, q2, q9, q18, q20, rfl⟩
  have hmk : (intOf (a.tmps.getD 20 undef)).toNat = k := by rw [F.s20, q20]; simp [intOf]
  obtain ⟨v0, v1, v2, v3, v8, v9, v10, v12, v13, v14, v16, v17, v18, v19, v20, v58⟩ := v
  simp only at q2 q9 q18 q20
  subst q2 q9 q18 q20
  refine wp_seq (wp_seq (reg_mono (se_r30 (by kernel_rfl) _ F rfl rfl ?_)))
  intro a30 F30 g30
  by_cases hk2 : k < RL.length
  case pos =>
    rw [decide_eq_true hk2] at g30
    refine wp_cond_true g30 (wp_skip ?_)
    show Code.wp _ _ _ _ _
    obtain ⟨_, b, of, rfl, hb, p0', _⟩ := R25.five k hk2
    rw [ho25 k hk2, show ((y + k : Nat) : Int) = (y : Int) + (k : Int) by omega] at p0'
    refine wp_seq (wp_block ?_)
    refine wp_seq (reg_mono (se_r32 (by kernel_rfl) _ F30 rfl rfl rfl hk2 p0' (by omega) (by omega) (by omega) ?_))
    intro a32 F32 g32
    refine wp_cond_false g32 (wp_skip ?_)
    show Code.wp _ _ _ _ _
    refine reg_mono (se_r31 (by kernel_rfl) _ F32 rfl (by omega) ?_)
    intro a31 F31
    try dsimp only at F31
    refine ⟨⟨k + 1, _, by omega, F31, rfl, rfl, rfl, rfl, rfl⟩, ?_⟩
    rw [hmk, F31.s20]
    simp [intOf]
    omega
  rw [decide_eq_false hk2] at g30
  refine wp_cond_false g30 (wp_exit ?_)
  show Code.wp _ _ _ _ _
  refine wp_seq (reg_mono (se_r34 (by kernel_rfl) _ F30 rfl ?_))
  intro a34 F34
  try dsimp only at F34
  exact wp_ret (se_ret F34 rfl ⟨rfl, M25.held.below⟩)
end Go.Proofs.Ytoafjgioknkeiaa.Y
