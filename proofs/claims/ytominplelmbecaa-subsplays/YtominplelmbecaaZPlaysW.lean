/-
  SubsPlays' walk (mkpy2.py).
-/
import Derived.Test.YtominplelmbecaaZPyS
import Derived.Test.YtominplelmbecaaZPyL
import Derived.Test.YtominplelmbecaaZTKD
namespace Go.Proofs.Ytominplelmbecaa.Y
open Go.RowKit

attribute [local go_sem ↓] Go.wp_at_zero Go.wp_at_succ
set_option linter.unusedSimpArgs false
set_option linter.unusedVariables false
theorem py_ret {W : World} {a : Act} {v : Vpy} {R : Ending → World → Prop} (hF : Fpy a v) (h2 : v.v12 = .bool true) (h : R (.returned (.bool true)) W) :
    bodyPost Try.prog Try.f3 R .ret a W := by
  have g2 := slot_get (hF.s12.trans h2)
  refine bodyPost_ret (v := .bool true) ?_ hF.defers h
  simp [results, Try.results3, go_sem, g2]
set_option maxHeartbeats 8000000 in
set_option maxRecDepth 100000 in
theorem plays_walk (p : ByteArray) (c1 c2 : Int) (S0 : SB) (raw : Bool) (ao : Option Addr) (cap : Nat) (us : List DE) (zp : p.size ≤ 281474976710656) (p1 : -9223372036854775808 ≤ c1 ∧ c1 ≤ 9223372036854775807) (ok0 : S0.ok) (w : World) (hus : DEs w ao us) :
    Calls Try.prog 3 #[.string p, .int .i64 c1, .int .i64 c2, S0.v, .bool raw, .slice ao us.length cap] w fun e w' => e = .returned (.bool true) ∧ Below w.heap.size w w' := by
  obtain ⟨n, hn⟩ : ∃ n : Nat, pickF c1 201 = (n : Int) := ⟨(pickF c1 201).toNat, by have := pickF_range c1 201 (by omega); omega⟩
  have hn2 : n ≤ 200 := by have := pickF_range c1 201 (by omega); omega
  obtain ⟨fn, ft, fc, fx⟩ := S0
  simp only [SB.v]
  have F9 := heap_alloc_new w (.cells #[.string fn, .string ft, .int .i64 fc, .int .i64 fx] 23)
  have b01 : Below w.heap.size w (w.alloc (.cells #[.string fn, .string ft, .int .i64 fc, .int .i64 fx] 23)) := (Below.refl _ _).alloc (Nat.le_refl _) _
  have hus1 := hus.all.below b01
  go_enter Try.func3, Try.ntmps3
  refine wp_seq (reg_mono (py_r0 (by kernel_rfl) _ (v := ⟨_, _, _, _, _, _, _, _, _, _, _, _, _, _, _, _, _, _, _, _, _, _, _, _⟩) ⟨rfl, rfl, rfl, rfl, rfl, rfl, rfl, rfl, rfl, rfl, rfl, rfl, rfl, rfl, rfl, rfl, rfl, rfl, rfl, rfl, rfl, rfl, rfl, rfl, rfl, rfl⟩ rfl ?_))
  intro a0 F0
  try dsimp only at F0
  generalize w.alloc _ = w1 at *
  generalize hfb : w.heap.size = fb at F9 F0
  have hfbl : fb < w1.heap.size := heap_lt F9
  refine wp_seq (reg_mono (py_r1 (by kernel_rfl) _ F0 (examples_any w1) ?_))
  intro a1 w2 F1 b1
  try dsimp only at F1
  refine wp_seq (reg_mono (py_r2 (by kernel_rfl) _ F1 (held_new tB (z1 _) ex_w b1 (Nat.le_refl _)) ?_))
  rintro a2 w3 L F2 ⟨H2, b3, _⟩
  try dsimp only at F2
  refine wp_seq (reg_mono (py_r3 (R := fun X w' => XAt w' X ⟨tB, 0, 0, [], []⟩ ∧ Below w3.heap.size w3 w' ∧ ∀ j, X.own j → w3.heap.size ≤ j) (by kernel_rfl) _ F2 ((xnew tB (z1 _) w3).mono fun e w' h => ?_) ?_))
  · rcases h with ⟨h, _⟩ | ⟨_, X, h1, h2, h3, h4⟩
    · rw [ex_w] at h; cases h
    · exact ⟨X, h1, h2, h3, h4⟩
  rintro a3 w4 X F3 ⟨hX, b4, nX⟩
  try dsimp only at F3
  have M0 : PT2 w1.heap.size w1 w4 L (TG.new tB) 0 X ⟨tB, 0, 0, [], []⟩ := ⟨H2.to b4, hX, fun j hj hl => by have := H2.at_.lt hl; have := nX j hj; omega, fun j hj => by have := nX j hj; have := H2.below.size; omega, px_new⟩
  refine wp_seq (wp_seq (reg_mono (py_r4 (by kernel_rfl) _ F3 rfl ?_)))
  intro a4 F4 g4
  refine wp_cond_false g4 (wp_skip ?_)
  show Code.wp _ _ _ _ _
  refine wp_seq (reg_mono (py_r6 (by kernel_rfl) _ F4 ?_))
  intro a6 F6
  try dsimp only at F6
  refine wp_seq (wp_block (wp_loop (fun a W => ∃ (sq : Nat) (v : Vpy) (L : LOC) (G : TG) (X : XL) (Y : XG), sq ≤ n ∧ Fpy a v ∧ v.v0 = .string p ∧ v.v1 = .int .i64 c1 ∧ v.v2 = .int .i64 c2 ∧ v.v4 = .bool raw ∧ v.v5 = .slice ao us.length cap ∧ v.v9 = .pointer (some ⟨fb, 0, none⟩) ∧ v.v13 = .bool true ∧ v.v14 = .pointer (some ⟨L.b, 0, none⟩) ∧ v.v16 = .pointer (some ⟨X.b, 0, none⟩) ∧ v.v17 = .int .i64 (sq : Int) ∧ PT2 w1.heap.size w1 W L G sq X Y) (fun a _ => n - (intOf (a.tmps.getD 17 undef)).toNat) ⟨0, _, L, _, X, _, Nat.zero_le _, F6, rfl, rfl, rfl, rfl, rfl, rfl, rfl, rfl, rfl, rfl, M0⟩ ?_))
  clear F0 F1 F2 F3 F4 F6 g4 H2 b1 b3 b4 hX nX M0
  rintro a W ⟨sq, v, L, G, X, Y, hi, F, q0, q1, q2, q4, q5, q9, q13, q14, q16, q17, M⟩
  have hmi : (intOf (a.tmps.getD 17 undef)).toNat = sq := by rw [F.s17, q17]; simp [intOf]
  refine wp_seq (wp_seq (reg_mono (py_r7 (n := n) (by kernel_rfl) _ F q1 q17 (by rw [← hn]; exact pick_any c1 201 p1.1 p1.2 (by omega) (by omega) W) ?_)))
  intro a7 W7 F7 g7 hw7
  obtain rfl := hw7.symm
  by_cases hlt : sq < n
  case pos =>
    rw [decide_eq_true hlt] at g7
    refine wp_cond_true g7 (wp_skip ?_)
    show Code.wp _ _ _ _ _
    have hlen := M.held.ok.len
    have hple : Y.prods.length ≤ 100000 := by
      rcases M.px.prod with ⟨_, h, _⟩ | ⟨_, _, h, _⟩
      · rw [h]; exact Nat.zero_le _
      · rw [h]; simp
    have hfle := M.px.le
    have hffi := M.px.fin
    have E8 := held_pub M.held (by omega) pB (sq : Int) eB eB (z1 _) z0 z0
    refine wp_block (wp_seq (reg_mono (py_r8 (R := fun w' => ∃ L', LOC.b L' = L.b ∧ Held w1.heap.size w1 w' L' (pubF G pB (sq : Int) eB eB).2.2 (sq + 1) ∧ TStep W w' L L') (by kernel_rfl) _ F7 q14 q17 (E8.mono fun e w' ⟨h1, h2⟩ => ⟨⟨_, _, h1⟩, h2⟩) ?_)))
    rintro a8 w8 F8 ⟨L8, e8, H8, s8⟩
    try dsimp only at F8
    obtain ⟨_, x8, ap8⟩ := M.one H8 s8
    have E9 := xpub x8 hple (by rw [M.px.recs]; omega) (by omega) (by omega) pB (sq : Int) eB eB (z1 _) z0 z0
    refine wp_seq (reg_mono (py_r9 (R := fun w' => ∃ X', XAt w' X' (xpubF Y pB (sq : Int) eB eB).2.2 ∧ XStep w8 w' X X') (by kernel_rfl) _ F8 q16 q17 (E9.mono fun e w' ⟨h1, h2⟩ => ⟨⟨_, _, h1⟩, h2⟩) ?_))
    rintro a9 w9 F9' ⟨X9, hx9, s9⟩
    try dsimp only at F9'
    have N9 := two_of H8 x8 ap8 M.xnew hx9 s9 (px_pub M.px (by omega))
    refine reg_all (py_r10 (by kernel_rfl) _ F9' q17 (by omega) ?_)
    intro a10 F10
    try dsimp only at F10
    refine ⟨⟨sq + 1, _, L8, _, X9, _, by omega, F10, q0, q1, q2, q4, q5, q9, q13, by rw [e8]; exact q14, by rw [s9.b]; exact q16, rfl, N9⟩, ?_⟩
    rw [hmi, F10.s17]
    simp [intOf]
    omega
  obtain rfl : n = sq := by omega
  rw [decide_eq_false hlt] at g7
  refine wp_cond_false g7 (wp_exit ?_)
  show Code.wp _ _ _ _ _
  obtain ⟨v0, v1, v2, v3, v4, v5, v9, v12, v13, v14, v16, v17, v18, v19, v20, v21, v22, v23, v24, v25, v26, v27, v28, v99⟩ := v
  simp only at q0 q1 q2 q4 q5 q9 q13 q14 q16 q17
  subst q0 q1 q2 q4 q5 q9 q13 q14 q16 q17
  clear hmi hlt hi F
  have hgn : G.name.size ≤ 281474976710656 := by have := word_size M.held.ok.word; omega
  have hnok : (newZ p G.name G.fin c2).1.ok := new_ok zp hgn
  have EN := snew M.held.at_ M.held.ok p zp c2
  rw [new_eq M.held.ok] at EN
  obtain ⟨⟨⟨yn, yt, yc, yx⟩, cd⟩, hP⟩ : ∃ P : SB × Int, newZ p G.name G.fin c2 = P := ⟨_, rfl⟩
  rw [hP] at EN hnok
  simp only [SB.v] at EN hnok
  refine wp_seq (reg_mono (py_r11 (by kernel_rfl) _ F7 rfl rfl rfl EN ?_))
  intro a11 w11 F11 b11
  try dsimp only at F11
  have s11 := heap_alloc_new w11 (.cells #[.string yn, .string yt, .int .i64 yc, .int .i64 yx] 23)
  have M11 := (M.to b11).to ((Below.refl w11.heap.size w11).alloc (Nat.le_refl _) (.cells #[.string yn, .string yt, .int .i64 yc, .int .i64 yx] 23))
  have hsb : w1.heap.size ≤ w11.heap.size := (M.to b11).held.below.size
  generalize w11.heap.size = sb at *
  generalize w11.alloc _ = W11 at *
  obtain ⟨hy0, _, hy2, _, _⟩ := xcells M11.xat
  have EZ := znew (heap_lt M11.xat.box) hy0 hy2 p zp c2
  rw [M11.px.name, M11.px.fin, hP] at EZ
  simp only [SB.v] at EZ
  refine wp_seq (reg_mono (py_r12 (by kernel_rfl) _ F11 rfl rfl rfl EZ ?_))
  intro a12 w12 F12 b12
  try dsimp only at F12
  have z12 := heap_alloc_new w12 (.cells #[.string yn, .string yt, .int .i64 yc, .int .i64 yx] 37)
  have b12' := (Below.refl w12.heap.size w12).alloc (Nat.le_refl _) (.cells #[.string yn, .string yt, .int .i64 yc, .int .i64 yx] 37)
  have s12 := Below.at b12' (Below.at b12 s11)
  have M12 := (M11.to b12).to b12'
  have hzb : w1.heap.size ≤ w12.heap.size := (M11.to b12).held.below.size
  generalize w12.heap.size = zb at *
  generalize w12.alloc _ = W12 at *
  have PB12 : PB w1.heap.size w1 W12 L G n X Y sb zb ⟨yn, yt, yc, yx⟩ := ⟨M12, s12, z12, hsb, hzb⟩
  clear EN EZ M11 M12 s11 s12 z12 b11 b12 b12' hy0 hy2
  refine wp_seq (wp_seq (reg_mono (py_r13 (by kernel_rfl) _ F12 rfl rfl rfl rfl PB12.sbox PB12.zbox (csame yn yt yc yx) ?_)))
  intro a13 w13 F13 g13 b13
  refine wp_cond_false g13 (wp_skip ?_)
  show Code.wp _ _ _ _ _
  have PB13 := PB12.to b13
  refine wp_mid (fun a W => ∃ (S : SB) (v : Vpy), Fpy a v ∧ v.v5 = .slice ao us.length cap ∧ v.v13 = .bool true ∧ v.v14 = .pointer (some ⟨L.b, 0, none⟩) ∧ v.v16 = .pointer (some ⟨X.b, 0, none⟩) ∧ v.v17 = .int .i64 (n : Int) ∧ v.v18 = .pointer (some ⟨sb, 0, none⟩) ∧ v.v20 = .pointer (some ⟨zb, 0, none⟩) ∧ S.ok ∧ PB w1.heap.size w1 W L G n X Y sb zb S) ?raw ?_
  case raw =>
    refine wp_seq (reg_mono (py_r15 (by kernel_rfl) _ F13 rfl ?_))
    intro a15 F15 g15
    cases raw with
    | false =>
      refine wp_cond_false g15 (wp_skip ?_)
      exact ⟨⟨yn, yt, yc, yx⟩, _, F15, rfl, rfl, rfl, rfl, rfl, rfl, rfl, hnok, PB13⟩
    | true =>
      refine wp_cond_true g15 ?_
      have f13 := (PB13.two.held.below.block fb hfbl).trans F9
      refine wp_seq (reg_mono (py_r16 (by kernel_rfl) _ F15 rfl rfl f13 PB13.sbox ?_))
      intro a16 F16
      try dsimp only at F16
      obtain ⟨N16, z16⟩ := PB13.mid (Below.refl _ _) (.string fn) (.string ft) (.int .i64 fc) (.int .i64 fx)
      have E16 := fun b2 => PB13.subs (Below.refl _ _) ⟨fn, ft, fc, fx⟩ (w2 := b2)
      generalize set4 w13 sb _ _ _ _ = W16 at *
      have f16 := (N16.held.below.block fb hfbl).trans F9
      refine reg_all (py_r17 (by kernel_rfl) _ F16 rfl rfl f16 z16 ?_)
      intro a17 F17
      try dsimp only at F17
      exact ⟨⟨fn, ft, fc, fx⟩, _, F17, rfl, rfl, rfl, rfl, rfl, rfl, rfl, ok0, E16 _ (Below.refl _ _)⟩
  clear F7 F11 F12 F13 g7 g13 PB12 PB13 M b13 hP hnok
  rintro a W ⟨S, v, F, q5, q13, q14, q16, q17, q18, q20, hok, M⟩
  refine wp_seq (wp_seq (reg_mono (py_r18 (by kernel_rfl) _ F ?_)))
  intro a18 F18
  try dsimp only at F18
  refine wp_block (wp_loop (fun a W => ∃ (i sq : Nat) (L : LOC) (G : TG) (X : XL) (Y : XG) (S : SB) (v : Vpy), i ≤ us.length ∧ i ≤ 100 ∧ sq ≤ 200 + i ∧ Fpy a v ∧ v.v5 = .slice ao us.length cap ∧ v.v13 = .bool true ∧ v.v14 = .pointer (some ⟨L.b, 0, none⟩) ∧ v.v16 = .pointer (some ⟨X.b, 0, none⟩) ∧ v.v17 = .int .i64 (sq : Int) ∧ v.v18 = .pointer (some ⟨sb, 0, none⟩) ∧ v.v20 = .pointer (some ⟨zb, 0, none⟩) ∧ v.v22 = .int .i64 (i : Int) ∧ S.ok ∧ PB w1.heap.size w1 W L G sq X Y sb zb S) (fun a _ => us.length - (intOf (a.tmps.getD 22 undef)).toNat) ⟨0, n, L, G, X, Y, S, _, Nat.zero_le _, Nat.zero_le _, by omega, F18, q5, q13, q14, q16, q17, q18, q20, rfl, hok, M⟩ ?_)
  clear F F18 q5 q13 q14 q16 q17 q18 q20 M hok
  rintro a W ⟨i, sq, L, G, X, Y, S, v, hi, hi2, hsq, F, q5, q13, q14, q16, q17, q18, q20, q22, hok, M⟩
  have hmi : (intOf (a.tmps.getD 22 undef)).toNat = i := by rw [F.s22, q22]; simp [intOf]
  obtain ⟨v0, v1, v2, v3, v4, v5, v9, v12, v13, v14, v16, v17, v18, v19, v20, v21, v22, v23, v24, v25, v26, v27, v28, v99⟩ := v
  simp only at q5 q13 q14 q16 q17 q18 q20 q22
  subst q5 q13 q14 q16 q17 q18 q20 q22
  refine wp_seq (wp_seq (reg_mono (py_r19 (by kernel_rfl) _ F rfl rfl ?_)))
  intro a19 F19 g19
  by_cases hlt : i < us.length ∧ i < 100
  case pos =>
    rw [show (decide (i < us.length) && decide (i < 100)) = true by rw [decide_eq_true hlt.1, decide_eq_true hlt.2]; rfl] at g19
    refine wp_cond_true g19 (wp_skip ?_)
    show Code.wp _ _ _ _ _
    obtain ⟨bq, oq, hao, hbq, hd⟩ := hus1 i hlt.1
    have hdk := hus.ok _ (List.getElem_mem hlt.1)
    generalize us[i] = d at *
    have hc0 := (M.two.held.below.cell (p := ⟨bq, oq + i * 2, none⟩) hbq).trans hd.c0
    have hc1 := (M.two.held.below.cell (p := ⟨bq, oq + i * 2 + 1, none⟩) hbq).trans hd.c1
    obtain ⟨kk, nn⟩ := d
    obtain ⟨hk1, hk2⟩ := hdk
    simp only at hk1 hk2 hc0 hc1
    clear hd
    refine wp_seq (wp_block ?_)
    rw [hao] at F19
    refine wp_seq (reg_mono (py_r21 (by kernel_rfl) _ F19 rfl rfl hlt.1 hc0 hc1 ?_))
    intro a21 F21
    try dsimp only at F21
    rw [← hao] at F21
    have D := heap_alloc_new W (.cells #[.int .i64 kk, .int .i64 nn] 42)
    have M := M.to ((Below.refl _ _).alloc (Nat.le_refl _) (.cells #[.int .i64 kk, .int .i64 nn] 42))
    generalize W.heap.size = db at *
    generalize W.alloc _ = W at *
    clear hc0 hc1
    have hdl : db < W.heap.size := heap_lt D
    have hD0 : W.cell? ⟨db, 0, none⟩ = some (.int .i64 kk) := box_cell D 0 rfl
    have hD1 : W.cell? ⟨db, 1, none⟩ = some (.int .i64 nn) := box_cell D 1 rfl
    have hds : ¬ db = sb := fun e => by
      subst e
      have := D.symm.trans M.sbox
      simp at this
    refine wp_seq (reg_mono (py_r22 (by kernel_rfl) _ F21 ?_))
    intro a22 F22
    try dsimp only at F22
    refine wp_seq (reg_mono (py_r23 (by kernel_rfl) _ F22 ?_))
    intro a23 F23
    try dsimp only at F23
    refine wp_seq (reg_mono (py_r24 (by kernel_rfl) _ F23 ?_))
    intro a24 F24
    try dsimp only at F24
    refine wp_seq (reg_mono (py_r25 (by kernel_rfl) _ F24 ?_))
    intro a25 F25
    try dsimp only at F25
    refine wp_mid (fun a W => ∃ (sq : Nat) (L : LOC) (G : TG) (X : XL) (Y : XG) (S : SB) (cd : Int) (o1 o2 : Option Addr) (c1 c2 : Nat) (RL : List Rec) (v : Vpy), sq ≤ 200 + (i + 1) ∧ RL.length ≤ 100000 ∧ Fpy a v ∧ v.v5 = .slice ao us.length cap ∧ v.v13 = .bool true ∧ v.v14 = .pointer (some ⟨L.b, 0, none⟩) ∧ v.v16 = .pointer (some ⟨X.b, 0, none⟩) ∧ v.v17 = .int .i64 (sq : Int) ∧ v.v18 = .pointer (some ⟨sb, 0, none⟩) ∧ v.v20 = .pointer (some ⟨zb, 0, none⟩) ∧ v.v22 = .int .i64 (i : Int) ∧ v.v24 = .int .i64 cd ∧ v.v25 = .int .i64 cd ∧ v.v26 = .slice o1 RL.length c1 ∧ v.v27 = .slice o2 RL.length c2 ∧ RecsAt W (.slice o1 RL.length c1) RL ∧ RecsAt W (.slice o2 RL.length c2) RL ∧ S.ok ∧ PB w1.heap.size w1 W L G sq X Y sb zb S) ?sw ?_
    case sw =>
      refine wp_seq (reg_mono (py_r26 (pk := pickF kk 6) (by kernel_rfl) _ F25 rfl hD0 (pick_any kk 6 hk1.1 hk1.2 (by omega) (by omega) W) ?_))
      rintro a26 Wr F26 hwr
      obtain rfl := hwr.symm
      try dsimp only at F26
      generalize pickF kk 6 = pk at *
      clear F F19 F21 F22 F23 F24 F25 g19
      refine wp_block ?_
      refine wp_seq (reg_mono (py_r29 (by kernel_rfl) _ F26 rfl ?_))
      intro a29 F29 g29
      by_cases e0 : pk = 0
      case pos =>
        subst e0
        refine wp_cond_true g29 ?_
        have hlen := M.two.held.ok.len
        have hple : Y.prods.length ≤ 100000 := by
          rcases M.two.px.prod with ⟨_, h, _⟩ | ⟨_, _, h, _⟩
          · rw [h]; exact Nat.zero_le _
          · rw [h]; simp
        have hfle := M.two.px.le
        have hffi := M.two.px.fin
        have E8 := held_pub M.two.held (by omega) pB (sq : Int) eB eB (z1 _) z0 z0
        refine wp_seq (reg_mono (py_r30 (R := fun w' => ∃ L', LOC.b L' = L.b ∧ Held w1.heap.size w1 w' L' (pubF G pB (sq : Int) eB eB).2.2 (sq + 1) ∧ TStep W w' L L') (by kernel_rfl) _ F29 rfl rfl (E8.mono fun e w' ⟨h1, h2⟩ => ⟨⟨_, _, h1⟩, h2⟩) ?_))
        rintro a8 w8 F8 ⟨L8, e8, H8, s8⟩
        try dsimp only at F8
        obtain ⟨_, x8, ap8⟩ := M.two.one H8 s8
        have E9 := xpub x8 hple (by rw [M.two.px.recs]; omega) (by omega) (by omega) pB (sq : Int) eB eB (z1 _) z0 z0
        refine wp_seq (reg_mono (py_r31 (R := fun w' => ∃ X', XAt w' X' (xpubF Y pB (sq : Int) eB eB).2.2 ∧ XStep w8 w' X X') (by kernel_rfl) _ F8 rfl rfl (E9.mono fun e w' ⟨h1, h2⟩ => ⟨⟨_, _, h1⟩, h2⟩) ?_))
        rintro a9 w9 F9' ⟨X9, hx9, s9⟩
        try dsimp only at F9'
        have N9 := two_of H8 x8 ap8 M.two.xnew hx9 s9 (px_pub M.two.px (by omega))
        refine reg_all (py_r32 (by kernel_rfl) _ F9' rfl (by omega) ?_)
        intro a32 F32
        try dsimp only at F32
        exact ⟨sq + 1, L8, _, X9, _, S, 0, none, none, 0, 0, [], _, by omega, Nat.zero_le _, F32, rfl, rfl, by rw [e8], by rw [s9.b], rfl, rfl, rfl, rfl, rfl, rfl, rfl, rfl, recs_nil _, recs_nil _, hok, M.topics s8 x8 s9 N9⟩
      rw [show (pk == 0) = false from beq_eq_false_iff_ne.2 e0] at g29
      refine wp_cond_false g29 ?_
      refine wp_seq (reg_mono (py_r33 (by kernel_rfl) _ F29 rfl ?_))
      intro a33 F33 g33
      obtain ⟨xn, xt, xc, xx⟩ := S
      by_cases e1 : pk = 1
      case pos =>
        subst e1
        refine wp_cond_true g33 ?_
        have E1 := sattach (w := W) ⟨xn, xt, xc, xx⟩ hok
        simp only [SB.v] at E1
        refine wp_seq (reg_mono (py_r34 (by kernel_rfl) _ F33 rfl M.sbox E1 ?_))
        intro b1a b1w FB1 bb1
        try dsimp only at FB1
        obtain ⟨N1, z1b⟩ := M.mid bb1 (.string xn) (.string xt) (.int .i64 xc) (.int .i64 xc)
        have E2 := fun b2 => M.subs bb1 ⟨xn, xt, xc, xc⟩ (w2 := b2)
        generalize set4 b1w sb _ _ _ _ = V1 at *
        have E3 := zattach ⟨xn, xt, xc, xx⟩ V1
        simp only [SB.v] at E3
        refine reg_all (py_r35 (by kernel_rfl) _ FB1 rfl z1b E3 ?_)
        intro b2a b2w FB2 bb2
        try dsimp only at FB2
        exact ⟨sq, L, G, X, Y, ⟨xn, xt, xc, xc⟩, 0, none, none, 0, 0, [], _, by omega, Nat.zero_le _, FB2, rfl, rfl, rfl, rfl, rfl, rfl, rfl, rfl, rfl, rfl, rfl, rfl, recs_nil _, recs_nil _, ok_of hok rfl rfl, E2 _ bb2⟩
      rw [show (pk == 1) = false from beq_eq_false_iff_ne.2 e1] at g33
      refine wp_cond_false g33 ?_
      refine wp_seq (reg_mono (py_r36 (by kernel_rfl) _ F33 rfl ?_))
      intro a36 F36 g36
      by_cases e2 : pk = 2
      case pos =>
        subst e2
        refine wp_cond_true g36 ?_
        have hlen := M.two.held.ok.len
        have hnm := poll_names ⟨xn, xt, xc, xx⟩ G.name G.low G.fin G.recs nn
        have hpl := poll_len ⟨xn, xt, xc, xx⟩ G.name G.low G.fin G.recs nn
        obtain ⟨⟨⟨yn, yt, yc, yx⟩, RL, cd⟩, hP⟩ : ∃ P : SB × List Rec × Int, zpollF ⟨xn, xt, xc, xx⟩ G.name G.low G.fin G.recs nn = P := ⟨_, rfl⟩
        rw [hP] at hnm hpl
        simp only at hnm hpl
        have E1 := spoll M.two.held.at_ M.two.held.ok ⟨xn, xt, xc, xx⟩ hok nn hk2.2
        rw [poll_eq M.two.held.ok, hP] at E1
        simp only [SB.v] at E1
        refine wp_seq (reg_mono (py_r37 (R := fun ao ln cp w' => ln = RL.length ∧ RecsAt w' (.slice ao RL.length cp) RL ∧ ∀ g, (Value.slice ao 0 cp).ownBlock = some g → W.heap.size ≤ g) (by kernel_rfl) _ F36 rfl rfl rfl hD1 M.sbox (E1.mono fun e w' ⟨ao, cp, h1, h2, h3, h4⟩ => ⟨ao, _, cp, h1, h3, rfl, h2, h4⟩) ?_))
        rintro b1a b1w o1 ln1 k1 FB1 bb1 ⟨rfl, r1, n1⟩
        try dsimp only at FB1
        obtain ⟨N1, z1b⟩ := M.mid bb1 (.string yn) (.string yt) (.int .i64 yc) (.int .i64 yx)
        have E2 := fun b2 => M.subs bb1 ⟨yn, yt, yc, yx⟩ (w2 := b2)
        have t1 : Touch (fun j => j = sb) b1w (set4 b1w sb (.string yn) (.string yt) (.int .i64 yc) (.int .i64 yx)) := set4_touch _ _
        have hDb : (set4 b1w sb (.string yn) (.string yt) (.int .i64 yc) (.int .i64 yx)).cell? ⟨db, 1, none⟩ = some (.int .i64 nn) := box_cell (t1.at (Below.at bb1 D) hds) 1 rfl
        have hsl : sb < W.heap.size := heap_lt M.sbox
        have hzl : zb < W.heap.size := heap_lt M.zbox
        have r1' := recs_touch r1 t1 fun j hj e => by have := n1 j ((own_block _ _ _ _).trans hj); omega
        have hV1 : W.heap.size ≤ (set4 b1w sb (.string yn) (.string yt) (.int .i64 yc) (.int .i64 yx)).heap.size := Nat.le_trans bb1.size t1.size
        generalize set4 b1w sb _ _ _ _ = V1 at *
        have hYr : Rises Y.recs := by rw [N1.px.recs]; exact N1.held.ok.rises
        have E3 := zpoll N1.xat hYr (by rw [N1.px.recs]; have := N1.held.ok.big; omega) (fun r hr => by
          rw [N1.px.recs] at hr
          have h1 := N1.held.ok.right r hr
          have h2 := h1.lo
          have h3 := h1.hi
          have h4 := N1.px.le
          exact ⟨by omega, by omega⟩) (by rw [N1.px.low]; omega) (by rw [N1.px.low]; have h1 := N1.held.ok.low; have h4 := N1.px.le; omega) ⟨xn, xt, xc, xx⟩ hok nn
        rw [N1.px.name, N1.px.low, N1.px.fin, N1.px.recs, hP] at E3
        simp only [SB.v] at E3
        refine reg_all (py_r38 (R := fun ao ln cp w' => ln = RL.length ∧ RecsAt w' (.slice ao RL.length cp) RL ∧ ∀ g, (Value.slice ao 0 cp).ownBlock = some g → V1.heap.size ≤ g) (by kernel_rfl) _ FB1 rfl rfl rfl hDb z1b (E3.mono fun e w' ⟨ao, cp, h1, h2, h3, h4⟩ => ⟨ao, _, cp, h1, h3, rfl, h2, h4⟩) ?_)
        rintro b2a b2w o2 ln2 k2 FB2 bb2 ⟨rfl, r2, n2⟩
        try dsimp only at FB2
        have t2 : Touch (fun j => j = zb) b2w (set4 b2w zb (.string yn) (.string yt) (.int .i64 yc) (.int .i64 yx)) := set4_touch _ _
        exact ⟨sq, L, G, X, Y, ⟨yn, yt, yc, yx⟩, cd, o1, o2, k1, k2, RL, _, by omega, by omega, FB2, rfl, rfl, rfl, rfl, rfl, rfl, rfl, rfl, rfl, rfl, rfl, rfl, recs_touch (r1'.below bb2) t2 fun j hj e => by have := n1 j ((own_block _ _ _ _).trans hj); omega, recs_touch r2 t2 fun j hj e => by have := n2 j ((own_block _ _ _ _).trans hj); omega, ok_of hok hnm.1 hnm.2, E2 _ bb2⟩
      rw [show (pk == 2) = false from beq_eq_false_iff_ne.2 e2] at g36
      refine wp_cond_false g36 ?_
      refine wp_seq (reg_mono (py_r39 (by kernel_rfl) _ F36 rfl ?_))
      intro a39 F39 g39
      by_cases e3 : pk = 3
      case pos =>
        subst e3
        refine wp_cond_true g39 ?_
        have FK := F39
        obtain ⟨nm1, nm2⟩ := ack_names ⟨xn, xt, xc, xx⟩ nn
        obtain ⟨⟨⟨yn, yt, yc, yx⟩, cd⟩, hP⟩ : ∃ P : SB × Int, ackF ⟨xn, xt, xc, xx⟩ nn = P := ⟨_, rfl⟩
        rw [hP] at nm1 nm2
        simp only at nm1 nm2
        have E1 := sackP (w := W) ⟨xn, xt, xc, xx⟩ hok nn
        rw [hP] at E1
        simp only [SB.v] at E1
        refine wp_seq (reg_mono (py_r40 (by kernel_rfl) _ FK rfl rfl hD1 M.sbox E1 ?_))
        intro b1a b1w FB1 bb1
        try dsimp only at FB1
        obtain ⟨N1, z1b⟩ := M.mid bb1 (.string yn) (.string yt) (.int .i64 yc) (.int .i64 yx)
        have E2 := fun b2 => M.subs bb1 ⟨yn, yt, yc, yx⟩ (w2 := b2)
        have hDb : (set4 b1w sb (.string yn) (.string yt) (.int .i64 yc) (.int .i64 yx)).cell? ⟨db, 1, none⟩ = some (.int .i64 nn) := box_cell (Touch.at (own := fun j => j = sb) (set4_touch _ _) (Below.at bb1 D) hds) 1 rfl
        generalize set4 b1w sb _ _ _ _ = V1 at *
        have E3 := zack ⟨xn, xt, xc, xx⟩ hok nn V1
        rw [hP] at E3
        simp only [SB.v] at E3
        refine reg_all (py_r41 (by kernel_rfl) _ FB1 rfl rfl hDb z1b E3 ?_)
        intro b2a b2w FB2 bb2
        try dsimp only at FB2
        exact ⟨sq, L, G, X, Y, ⟨yn, yt, yc, yx⟩, cd, none, none, 0, 0, [], _, by omega, Nat.zero_le _, FB2, rfl, rfl, rfl, rfl, rfl, rfl, rfl, rfl, rfl, rfl, rfl, rfl, recs_nil _, recs_nil _, ok_of hok nm1 nm2, E2 _ bb2⟩
      rw [show (pk == 3) = false from beq_eq_false_iff_ne.2 e3] at g39
      refine wp_cond_false g39 ?_
      refine wp_seq (reg_mono (py_r42 (by kernel_rfl) _ F39 rfl ?_))
      intro a42 F42 g42
      by_cases e4 : pk = 4
      case pos =>
        subst e4
        refine wp_cond_true g42 ?_
        have FK := F42
        obtain ⟨nm1, nm2⟩ := seek_names ⟨xn, xt, xc, xx⟩ G.name G.fin nn
        obtain ⟨⟨⟨yn, yt, yc, yx⟩, cd⟩, hP⟩ : ∃ P : SB × Int, zseekF ⟨xn, xt, xc, xx⟩ G.name G.fin nn = P := ⟨_, rfl⟩
        rw [hP] at nm1 nm2
        simp only at nm1 nm2
        have E1 := sseekP M.two.held.at_ M.two.held.ok ⟨xn, xt, xc, xx⟩ hok nn
        rw [seek_eq, hP] at E1
        simp only [SB.v] at E1
        refine wp_seq (reg_mono (py_r43 (by kernel_rfl) _ FK rfl rfl rfl hD1 M.sbox E1 ?_))
        intro b1a b1w FB1 bb1
        try dsimp only at FB1
        obtain ⟨N1, z1b⟩ := M.mid bb1 (.string yn) (.string yt) (.int .i64 yc) (.int .i64 yx)
        have E2 := fun b2 => M.subs bb1 ⟨yn, yt, yc, yx⟩ (w2 := b2)
        have hDb : (set4 b1w sb (.string yn) (.string yt) (.int .i64 yc) (.int .i64 yx)).cell? ⟨db, 1, none⟩ = some (.int .i64 nn) := box_cell (Touch.at (own := fun j => j = sb) (set4_touch _ _) (Below.at bb1 D) hds) 1 rfl
        generalize set4 b1w sb _ _ _ _ = V1 at *
        have E3 := zseek (heap_lt N1.xat.box) (xcells N1.xat).1 (xcells N1.xat).2.2.1 ⟨xn, xt, xc, xx⟩ hok nn
        rw [N1.px.name, N1.px.fin, hP] at E3
        simp only [SB.v] at E3
        refine reg_all (py_r44 (by kernel_rfl) _ FB1 rfl rfl rfl hDb z1b E3 ?_)
        intro b2a b2w FB2 bb2
        try dsimp only at FB2
        exact ⟨sq, L, G, X, Y, ⟨yn, yt, yc, yx⟩, cd, none, none, 0, 0, [], _, by omega, Nat.zero_le _, FB2, rfl, rfl, rfl, rfl, rfl, rfl, rfl, rfl, rfl, rfl, rfl, rfl, recs_nil _, recs_nil _, ok_of hok nm1 nm2, E2 _ bb2⟩
      rw [show (pk == 4) = false from beq_eq_false_iff_ne.2 e4] at g42
      refine wp_cond_false g42 ?_
      obtain ⟨hcd, hpx⟩ := px_trim M.two.px M.two.held.ok nn
      refine wp_seq (reg_mono (py_r27 (R := fun w' => ∃ L', LOC.b L' = L.b ∧ Held w1.heap.size w1 w' L' (trimF G nn).2 sq ∧ TStep W w' L L') (by kernel_rfl) _ F42 rfl rfl hD1 (held_trim M.two.held nn) ?_))
      rintro a27 w27 F27 ⟨L8, e8, H8, s8⟩
      try dsimp only at F27
      obtain ⟨_, x8, ap8⟩ := M.two.one H8 s8
      have hDb : w27.cell? ⟨db, 1, none⟩ = some (.int .i64 nn) := box_cell (s8.touch.at D (M.two.held.at_.apartT D (by decide) (by decide))) 1 rfl
      have E28 := xtrim x8 (by rw [M.two.px.recs]; have := M.two.held.ok.len; omega) nn
      refine reg_all (py_r28 (by kernel_rfl) _ F27 rfl rfl hDb E28 ?_)
      rintro a28 w28 F28 ⟨X9, hx9, s9⟩
      try dsimp only at F28
      have N9 := two_of H8 x8 ap8 M.two.xnew hx9 s9 hpx
      rw [← hcd] at F28
      exact ⟨sq, L8, _, X9, _, ⟨xn, xt, xc, xx⟩, _, none, none, 0, 0, [], _, by omega, Nat.zero_le _, F28, rfl, rfl, by rw [e8], by rw [s9.b], rfl, rfl, rfl, rfl, rfl, rfl, rfl, rfl, recs_nil _, recs_nil _, hok, M.topics s8 x8 s9 N9⟩
    clear F F19 F21 F22 F23 F24 F25 g19 M D hD0 hD1 hdl hds hsq hok
    rintro a1 W1 ⟨sq, L, G, X, Y, S, cd, o1, o2, k1, k2, RL, v, hsq, hRL, F1, q5, q13, q14, q16, q17, q18, q20, q22, q24, q25, q26, q27, r1, r2, hok, M⟩
    obtain ⟨v0, v1, v2, v3, v4, v5, v9, v12, v13, v14, v16, v17, v18, v19, v20, v21, v22, v23, v24, v25, v26, v27, v28, v99⟩ := v
    simp only at q5 q13 q14 q16 q17 q18 q20 q22 q24 q25 q26 q27
    subst q5 q13 q14 q16 q17 q18 q20 q22 q24 q25 q26 q27
    refine wp_seq (reg_mono (py_r45 (by kernel_rfl) _ F1 rfl rfl (records_below RL _ _ W1 (by omega) r1 r2) ?_))
    intro a45 w45 F45 b45
    try dsimp only at F45
    have M45 := M.to b45
    obtain ⟨xn, xt, xc, xx⟩ := S
    refine wp_seq (reg_mono (py_r46 (rr := SB.right ⟨xn, xt, xc, xx⟩) (by kernel_rfl) _ F45 rfl rfl rfl rfl rfl M45.sbox M45.zbox (csame xn xt xc xx) (fun W' => srightP ⟨xn, xt, xc, xx⟩ hok W') (fun W' => zright ⟨xn, xt, xc, xx⟩ hok W') ?_))
    intro a46 w46 F46 g46 b46
    refine wp_cond_false g46 (wp_skip ?_)
    show Code.wp _ _ _ _ _
    refine reg_mono (py_r20 (by kernel_rfl) _ F46 rfl (by omega) ?_)
    intro a20 F20
    try dsimp only at F20
    refine ⟨⟨i + 1, sq, L, G, X, Y, ⟨xn, xt, xc, xx⟩, _, by omega, by omega, by omega, F20, rfl, rfl, rfl, rfl, rfl, rfl, rfl, rfl, hok, M45.to b46⟩, ?_⟩
    rw [hmi, F20.s22]
    simp [intOf]
    omega
  have e : (decide (i < us.length) && decide (i < 100)) = false := by
    rw [Bool.and_eq_false_iff]
    by_cases h1 : i < us.length
    · right; exact decide_eq_false (fun h2 => hlt ⟨h1, h2⟩)
    · left; exact decide_eq_false h1
  rw [e] at g19
  refine wp_cond_false g19 (wp_exit ?_)
  show Code.wp _ _ _ _ _
  refine wp_seq (reg_mono (py_r48 (by kernel_rfl) _ F19 rfl ?_))
  intro a48 F48
  try dsimp only at F48
  exact wp_ret (py_ret F48 rfl ⟨rfl, by rw [← hfb]; exact b01.trans (M.two.held.below.mono b01.size)⟩)
end Go.Proofs.Ytominplelmbecaa.Y
