/-
  SubsAll's walk (mkal2.py).
-/
import Derived.Test.YtoafjgioknkeiaaAlS
namespace Go.Proofs.Ytoafjgioknkeiaa.Y
open Go.RowKit

attribute [local go_sem ↓] Go.wp_at_zero Go.wp_at_succ
set_option linter.unusedSimpArgs false
set_option linter.unusedVariables false
theorem pn_right {c x : Nat} (h1 : c ≤ x) (h2 : x ≤ 1000) : SB.right ⟨sBy, tB, c, x⟩ = true := by
  unfold SB.right
  simp only
  rw [show wordB sBy = true by kernel_rfl, show wordB tB = true by kernel_rfl, decide_eq_true (show (0 : Int) ≤ (c : Int) by omega), decide_eq_true (show (c : Int) ≤ (x : Int) by omega), decide_eq_true (show (x : Int) ≤ 9007199254740991 by omega)]
  rfl
theorem pn_poll {G : TG} {n : Nat} (P : PN G n) (hn : n ≤ 1000) (c x m : Nat) (hcx : c ≤ x) (hxn : x ≤ n) (hx2 : x ≤ c + 100) (m1 : 1 ≤ m) (m2 : m ≤ 50) :
    ∃ l, pollF ⟨sBy, tB, c, x⟩ G (m : Int) = (⟨sBy, tB, c, ((x + l.length : Nat) : Int)⟩, l, 0) ∧ l.length = min (min m (n - x)) (c + 100 - x) ∧ ∀ k (h : k < l.length), l[k].off = ((x + k : Nat) : Int) := by
  obtain ⟨h1, h2⟩ := pn_grant P ⟨sBy, tB, c, x⟩ c x m rfl rfl hcx hxn hx2
  refine ⟨_, ?_, h1, h2⟩
  have ok : pollOk ⟨sBy, tB, c, x⟩ G (m : Int) = true := by
    unfold pollOk
    simp only
    rw [P.name, P.fin, decide_eq_true (show (x : Int) ≤ (n : Int) by omega), decide_eq_true (show (1 : Int) ≤ (m : Int) by omega), decide_eq_true (show (m : Int) ≤ 50 by omega)]
    kernel_rfl
  have e : pollI ⟨sBy, tB, c, x⟩ G (m : Int) = (⟨sBy, tB, c, nextF ⟨sBy, tB, c, x⟩ (grantF G ⟨sBy, tB, c, x⟩ m)⟩, grantF G ⟨sBy, tB, c, x⟩ m, true) := by rw [pollI, if_pos ok]
  have nx : nextF ⟨sBy, tB, c, x⟩ (grantF G ⟨sBy, tB, c, x⟩ m) = ((x + (grantF G ⟨sBy, tB, c, x⟩ m).length : Nat) : Int) := by
    generalize grantF G ⟨sBy, tB, c, x⟩ m = l at *
    cases hl : l.length with
    | zero =>
      obtain rfl := List.eq_nil_of_length_eq_zero hl
      rfl
    | succ k =>
      rw [nextF_last _ hl (by omega), h2]
      omega
  rw [pollF, e, pn_right hcx (by omega)]
  simp only [Bool.and_self, if_true]
  rw [nx]
theorem pn_ack {c x : Nat} (h1 : c < x) (h2 : x ≤ 1000) : ackF ⟨sBy, tB, c, x⟩ ((x : Int) - 1) = (⟨sBy, tB, x, x⟩, 0) := by
  have e : ackI ⟨sBy, tB, c, x⟩ ((x : Int) - 1) = (⟨sBy, tB, x, x⟩, true) := by
    rw [ackI, if_pos ⟨by omega, by simp only; omega⟩]
    simp only
    rw [show max (c : Int) ((x : Int) - 1 + 1) = (x : Int) by omega]
  rw [ackF, e, pn_right (by omega) h2]
  rfl
theorem pn_new2 {G : TG} {n x : Nat} (P : PN G n) (hx : x ≤ n) : newF sBy G (x : Int) = (⟨sBy, tB, x, x⟩, 0) := by
  have e1 : seekF ⟨sBy, G.name, 0, 0⟩ G (x : Int) = (⟨sBy, tB, x, x⟩, 0) := by
    have e : seekI ⟨sBy, tB, 0, 0⟩ G (x : Int) = (⟨sBy, tB, x, x⟩, true) := by
      rw [seekI, if_pos ⟨by rw [P.name]; kernel_rfl, by omega, by rw [P.fin]; omega⟩]
    rw [P.name, seekF, e, show SB.right ⟨sBy, tB, 0, 0⟩ = true by kernel_rfl]
    rfl
  have e0 : (if (x : Int) < 0 then (G.fin : Int) else (x : Int)) = (x : Int) := if_neg (by omega)
  unfold newF
  rw [e0, e1]
  rfl
theorem al_ret {W : World} {a : Act} {v : Val} {R : Ending → World → Prop} (hF : Fal a v) (h2 : v.v6 = .bool true) (h : R (.returned (.bool true)) W) :
    bodyPost Try.prog Try.f4 R .ret a W := by
  have g2 := slot_get (hF.s6.trans h2)
  refine bodyPost_ret (v := .bool true) ?_ hF.defers h
  simp [results, Try.results4, go_sem, g2]
set_option maxHeartbeats 4000000 in
set_option maxRecDepth 100000 in
theorem all_walk (c0 c1 c2 : Int) (p0 : -9223372036854775808 ≤ c0 ∧ c0 ≤ 9223372036854775807) (p1 : -9223372036854775808 ≤ c1 ∧ c1 ≤ 9223372036854775807) (p2 : -9223372036854775808 ≤ c2 ∧ c2 ≤ 9223372036854775807) (w : World) :
    Calls Try.prog 4 #[.int .i64 c0, .int .i64 c1, .int .i64 c2] w fun e w' => e = .returned (.bool true) ∧ Below w.heap.size w w' := by
  obtain ⟨n, hn⟩ : ∃ n : Nat, pickF c0 301 = (n : Int) := ⟨(pickF c0 301).toNat, by have := pickF_range c0 301 (by omega); omega⟩
  have hn2 : n ≤ 300 := by have := pickF_range c0 301 (by omega); omega
  obtain ⟨x0, hx⟩ : ∃ x : Nat, pickF c1 ((n : Int) + 1) = (x : Int) := ⟨(pickF c1 ((n : Int) + 1)).toNat, by have := pickF_range c1 ((n : Int) + 1) (by omega); omega⟩
  have hx2 : x0 ≤ n := by have := pickF_range c1 ((n : Int) + 1) (by omega); omega
  obtain ⟨m, hm⟩ : ∃ m : Nat, pickF c2 50 = (m : Int) := ⟨(pickF c2 50).toNat, by have := pickF_range c2 50 (by omega); omega⟩
  have hm2 : m < 50 := by have := pickF_range c2 50 (by omega); omega
  go_enter Try.func4, Try.ntmps4
  refine wp_seq (reg_mono (al_r0 (by kernel_rfl) _ (v := ⟨_, _, _, _, _, _, _, _, _, _, _, _, _, _⟩) ⟨rfl, rfl, rfl, rfl, rfl, rfl, rfl, rfl, rfl, rfl, rfl, rfl, rfl, rfl, rfl, rfl⟩ ?_))
  intro a0 F0
  try dsimp only at F0
  refine wp_seq (reg_mono (al_r1 (by kernel_rfl) _ F0 (examples_any w) ?_))
  intro a1 w1 F1 b1
  try dsimp only at F1
  refine wp_seq (reg_mono (al_r2 (by kernel_rfl) _ F1 (held_new tB (z1 _) ex_w b1 (Nat.le_refl _)) ?_))
  rintro a2 w2 L F2 ⟨H2, _, _⟩
  try dsimp only at F2
  refine wp_seq (wp_seq (reg_mono (al_r3 (by kernel_rfl) _ F2 rfl ?_)))
  intro a3 F3 g3
  refine wp_cond_false g3 (wp_skip ?_)
  show Code.wp _ _ _ _ _
  refine wp_seq (reg_mono (al_r5 (n := n) (by kernel_rfl) _ F3 rfl (by rw [← hn]; exact pick_any c0 301 p0.1 p0.2 (by omega) (by omega) w2) ?_))
  rintro a5 _ F5 rfl
  try dsimp only at F5
  refine wp_seq (wp_seq (reg_mono (al_r6 (by kernel_rfl) _ F5 ?_)))
  intro a6 F6
  try dsimp only at F6
  refine wp_block (wp_loop (fun a W => ∃ (i : Nat) (v : Val) (L : LOC) (G : TG), i ≤ n ∧ Fal a v ∧ v.v1 = .int .i64 c1 ∧ v.v2 = .int .i64 c2 ∧ v.v7 = .bool true ∧ v.v8 = .pointer (some ⟨L.b, 0, none⟩) ∧ v.v10 = .int .i64 (n : Int) ∧ v.v11 = .int .i64 (i : Int) ∧ Held w.heap.size w W L G i ∧ PN G i) (fun a _ => n - (intOf (a.tmps.getD 11 undef)).toNat) ⟨0, _, L, _, Nat.zero_le _, F6, rfl, rfl, rfl, rfl, rfl, rfl, H2, pn_new⟩ ?_)
  clear F0 F1 F2 F3 F5 F6 g3 H2 b1
  rintro a W ⟨i, v, L, G, hi, F, q1, q2, q7, q8, q10, q11, M, PP⟩
  have hmi : (intOf (a.tmps.getD 11 undef)).toNat = i := by rw [F.s11, q11]; simp [intOf]
  refine wp_seq (wp_seq (reg_mono (al_r7 (by kernel_rfl) _ F q11 q10 ?_)))
  intro a7 F7 g7
  by_cases hlt : i < n
  case pos =>
    rw [decide_eq_true hlt] at g7
    refine wp_cond_true g7 (wp_skip ?_)
    show Code.wp _ _ _ _ _
    have E8 := held_pub M (by omega) pB i eB eB (z1 _) z0 z0
    have P8 := pn_pub PP (by omega) eB eB (by show 0 ≤ _; omega) (by show 0 ≤ _; omega)
    refine wp_seq (wp_block (reg_all (al_r9 (R := fun w' => ∃ L', L'.b = L.b ∧ Held w.heap.size w w' L' (pubF G pB i eB eB).2.2 (i + 1)) (by kernel_rfl) _ F7 q8 q11 (E8.mono fun e w' ⟨h1, L', h2, h3, _⟩ => ⟨⟨_, _, h1⟩, L', h2, h3⟩) ?_)))
    rintro a8 w8 F8 ⟨L8, e8, H8⟩
    show Code.wp _ _ _ _ _
    refine reg_mono (al_r8 (by kernel_rfl) _ F8 q11 (by omega) ?_)
    intro a9 F9
    try dsimp only at F9
    refine ⟨⟨i + 1, _, L8, _, by omega, F9, q1, q2, q7, by rw [e8]; exact q8, q10, rfl, H8, P8⟩, ?_⟩
    rw [hmi, F9.s11]
    simp [intOf]
    omega
  obtain rfl : n = i := by omega
  rw [decide_eq_false hlt] at g7
  refine wp_cond_false g7 (wp_exit ?_)
  show Code.wp _ _ _ _ _
  obtain ⟨v0, v1, v2, v6, v7, v8, v10, v11, v12, v14, v15, v16, v17, v18⟩ := v
  simp only at q1 q2 q7 q8 q10 q11
  subst q1 q2 q7 q8 q10 q11
  clear hmi hlt hi F
  refine wp_seq (reg_mono (al_r10 (x := x0) (by kernel_rfl) _ F7 rfl rfl (by omega) (by rw [← hx]; exact pick_any c1 _ p1.1 p1.2 (by omega) (by omega) W) ?_))
  rintro a10 _ F10 rfl
  try dsimp only at F10
  have EN := snew M.at_ M.ok sBy (z1 _) (x0 : Int)
  rw [pn_new2 PP hx2] at EN
  simp only [SB.v] at EN
  refine wp_seq (reg_mono (al_r11 (by kernel_rfl) _ F10 rfl rfl EN ?_))
  intro a11 w8 F11 b8
  try dsimp only at F11
  have H8 := HSB.mk' (M.to b8) ⟨sBy, tB, x0, x0⟩
  dsimp only at H8
  generalize w8.heap.size = sb at *
  generalize hw8 : w8.alloc _ = W8 at *
  clear hw8
  refine wp_seq (reg_mono (al_r12 (by kernel_rfl) _ F11 rfl ?_))
  intro a12 F12
  try dsimp only at F12
  refine wp_seq (wp_seq (reg_mono (al_r13 (by kernel_rfl) _ F12 ?_)))
  intro a13 F13
  try dsimp only at F13
  refine wp_block (wp_loop (fun a W => ∃ (r x : Nat) (v : Val), r ≤ x ∧ x ≤ n ∧ Fal a v ∧ v.v2 = .int .i64 c2 ∧ v.v7 = .bool true ∧ v.v8 = .pointer (some ⟨L.b, 0, none⟩) ∧ v.v10 = .int .i64 (n : Int) ∧ v.v12 = .pointer (some ⟨sb, 0, none⟩) ∧ v.v14 = .int .i64 (x : Int) ∧ v.v15 = .int .i64 (r : Int) ∧ HSB w.heap.size w W L G n sb ⟨sBy, tB, x, x⟩) (fun a _ => 1000 - (intOf (a.tmps.getD 15 undef)).toNat) ⟨0, x0, _, Nat.zero_le _, hx2, F13, rfl, rfl, rfl, rfl, rfl, rfl, rfl, H8⟩ ?_)
  clear F7 F10 F11 F12 F13 g7 H8 b8 EN M
  rintro a W ⟨r, x, v, hr, hxn, F, q2, q7, q8, q10, q12, q14, q15, M⟩
  have hmi : (intOf (a.tmps.getD 15 undef)).toNat = r := by rw [F.s15, q15]; simp [intOf]
  obtain ⟨v0, v1, v2, v6, v7, v8, v10, v11, v12, v14, v15, v16, v17, v18⟩ := v
  simp only at q2 q7 q8 q10 q12 q14 q15
  subst q2 q7 q8 q10 q12 q14 q15
  refine wp_seq (wp_seq (reg_mono (al_r14 (by kernel_rfl) _ F rfl rfl (by omega) ?_)))
  intro a14 F14 g14
  rw [decide_eq_true (show (r : Int) ≤ (n : Int) + 1 by omega)] at g14
  refine wp_cond_true g14 (wp_skip ?_)
  show Code.wp _ _ _ _ _
  refine wp_seq (wp_block ?_)
  refine wp_seq (reg_mono (al_r16 (by kernel_rfl) _ F14 ?_))
  intro a16 F16
  try dsimp only at F16
  refine wp_seq (reg_mono (al_r17 (by kernel_rfl) _ F16 ?_))
  intro a17 F17
  try dsimp only at F17
  obtain ⟨RL, e18, hl18, ho18⟩ := pn_poll PP (by omega) x x (1 + m) (Nat.le_refl _) hxn (by omega) (by omega) (by omega)
  have E18 : ∀ W', Below W.heap.size W W' → Calls Try.prog 15 #[.agg #[.string sBy, .string tB, .int .i64 x, .int .i64 x], .pointer (some ⟨L.b, 0, none⟩), .int .i64 (1 + (m : Int))] W' fun e w' => ∃ ao cp, e = .returned (.tuple #[.agg #[.string sBy, .string tB, .int .i64 x, .int .i64 ((x + RL.length : Nat) : Int)], .slice ao RL.length cp, .int .i64 0]) ∧ RecsAt w' (.slice ao RL.length cp) RL ∧ Below W'.heap.size W' w' ∧ ∀ g, (Value.slice ao 0 cp).ownBlock = some g → W.heap.size ≤ g := fun W' hW => by
    have E := spoll (M.held.to hW).at_ M.held.ok ⟨sBy, tB, x, x⟩ sok ((1 + m : Nat) : Int) (by omega)
    rw [e18] at E
    simp only [SB.v] at E
    rw [show ((1 + m : Nat) : Int) = 1 + (m : Int) by omega] at E
    exact E.mono fun e w' ⟨ao, cp, h1, h2, h3, h4⟩ => ⟨ao, cp, h1, h2, h3, fun g hg => Nat.le_trans hW.size (h4 g hg)⟩
  refine wp_seq (reg_mono (al_r18 (RL := RL) (by kernel_rfl) _ F17 rfl rfl rfl M.box (pk := (m : Int)) (fun W' => by rw [← hm]; exact pick_any c2 50 p2.1 p2.2 (by omega) (by omega) W') (by omega) (by omega) E18 ?_))
  intro a18 w18 ao cp F18 t18 x18 r18
  try dsimp only at F18
  have M18 : HSB w.heap.size w w18 L G n sb ⟨sBy, tB, x, ((x + RL.length : Nat) : Int)⟩ := ⟨M.held.touch t18 (fun j hj e => by subst e; exact M.held.at_.apart M.box hj) (fun j e => by subst e; exact M.new), x18, M.new⟩
  refine wp_seq (wp_seq (reg_mono (al_r19 (by kernel_rfl) _ F18 rfl ?_)))
  intro a19 F19 g19
  refine wp_cond_false g19 (wp_skip ?_)
  show Code.wp _ _ _ _ _
  refine wp_seq (wp_seq (reg_mono (al_r21 (by kernel_rfl) _ F19 rfl ?_)))
  intro a21 F21 g21
  by_cases hz : RL.length = 0
  case pos =>
    rw [decide_eq_true hz] at g21
    refine wp_cond_true g21 ?_
    obtain rfl : x = n := by omega
    rw [hz] at x18
    refine wp_seq (reg_mono (al_r22 (by kernel_rfl) _ F21 rfl rfl rfl rfl x18 ?_))
    intro a22 F22
    try dsimp only at F22
    refine wp_ret ?_
    simp only [Exit.then, Exit.inBlock]
    exact al_ret F22 rfl ⟨rfl, M18.held.below⟩
  rw [decide_eq_false hz] at g21
  refine wp_cond_false g21 (wp_skip ?_)
  show Code.wp _ _ _ _ _
  refine wp_seq (wp_seq (reg_mono (al_r23 (by kernel_rfl) _ F21 ?_)))
  intro a23 F23
  try dsimp only at F23
  refine wp_block (wp_loop (fun a W' => ∃ (k : Nat) (v : Val), k ≤ RL.length ∧ Fal a v ∧ v.v2 = .int .i64 c2 ∧ v.v7 = .bool true ∧ v.v8 = .pointer (some ⟨L.b, 0, none⟩) ∧ v.v10 = .int .i64 (n : Int) ∧ v.v12 = .pointer (some ⟨sb, 0, none⟩) ∧ v.v14 = .int .i64 ((x + k : Nat) : Int) ∧ v.v15 = .int .i64 (r : Int) ∧ v.v16 = .slice ao RL.length cp ∧ v.v18 = .int .i64 (k : Int) ∧ W' = w18) (fun a _ => RL.length - (intOf (a.tmps.getD 18 undef)).toNat) ⟨0, _, Nat.zero_le _, F23, rfl, rfl, rfl, rfl, rfl, rfl, rfl, rfl, rfl, rfl⟩ ?_)
  clear F F14 F16 F17 F18 F19 F21 F23 g14 g19 g21
  rintro a W' ⟨k, v, hk, F, q2, q7, q8, q10, q12, q14, q15, q16, q18, rfl⟩
  have hmk : (intOf (a.tmps.getD 18 undef)).toNat = k := by rw [F.s18, q18]; simp [intOf]
  obtain ⟨v0, v1, v2, v6, v7, v8, v10, v11, v12, v14, v15, v16, v17, v18⟩ := v
  simp only at q2 q7 q8 q10 q12 q14 q15 q16 q18
  subst q2 q7 q8 q10 q12 q14 q15 q16 q18
  refine wp_seq (wp_seq (reg_mono (al_r24 (by kernel_rfl) _ F rfl rfl ?_)))
  intro a24 F24 g24
  by_cases hlt : k < RL.length
  case pos =>
    rw [decide_eq_true hlt] at g24
    refine wp_cond_true g24 (wp_skip ?_)
    show Code.wp _ _ _ _ _
    obtain ⟨_, b, of, rfl, hb, p0', _⟩ := r18.five k hlt
    rw [ho18 k hlt] at p0'
    refine wp_seq (wp_block ?_)
    refine wp_seq (wp_seq (reg_mono (al_r26 (by kernel_rfl) _ F24 rfl rfl rfl hlt p0' ?_)))
    intro a26 F26 g26
    refine wp_cond_false g26 (wp_skip ?_)
    refine reg_all (al_r28 (by kernel_rfl) _ F26 rfl (by omega) ?_)
    intro a28 F28
    try dsimp only at F28
    show Code.wp _ _ _ _ _
    refine reg_mono (al_r25 (by kernel_rfl) _ F28 rfl (by omega) ?_)
    intro a25 F25
    try dsimp only at F25
    refine ⟨⟨k + 1, _, by omega, F25, rfl, rfl, rfl, rfl, rfl, rfl, rfl, rfl, rfl, rfl⟩, ?_⟩
    rw [hmk, F25.s18]
    simp [intOf]
    omega
  obtain rfl : k = RL.length := by omega
  rw [decide_eq_false hlt] at g24
  refine wp_cond_false g24 (wp_exit ?_)
  show Code.wp _ _ _ _ _
  have EA := sackP (w := W') ⟨sBy, tB, x, ((x + RL.length : Nat) : Int)⟩ sok (((x + RL.length : Nat) : Int) - 1)
  rw [pn_ack (by omega) (by omega)] at EA
  simp only [SB.v] at EA
  refine wp_seq (reg_mono (al_r29 (x := ((x + RL.length : Nat) : Int) - 1) (by kernel_rfl) _ F24 rfl (by rw [Int.sub_add_cancel]) (by omega) (by omega) M18.box EA ?_))
  intro a29 w29 F29 b29
  try dsimp only at F29
  have M29 := (M18.to b29).put ⟨sBy, tB, ((x + RL.length : Nat) : Int), ((x + RL.length : Nat) : Int)⟩
  dsimp only at M29
  generalize hw29 : set4 w29 sb _ _ _ _ = W29 at *
  clear hw29
  refine wp_seq (reg_mono (al_r30 (by kernel_rfl) _ F29 rfl rfl rfl M29.box ?_))
  intro a30 F30 g30
  refine wp_cond_false g30 (wp_skip ?_)
  show Code.wp _ _ _ _ _
  refine reg_mono (al_r15 (by kernel_rfl) _ F30 rfl (by omega) ?_)
  intro a15 F15
  try dsimp only at F15
  refine ⟨⟨r + 1, x + RL.length, _, by omega, by omega, F15, rfl, rfl, rfl, rfl, rfl, rfl, rfl, M29⟩, ?_⟩
  rw [hmi, F15.s15]
  simp [intOf]
  omega
end Go.Proofs.Ytoafjgioknkeiaa.Y
