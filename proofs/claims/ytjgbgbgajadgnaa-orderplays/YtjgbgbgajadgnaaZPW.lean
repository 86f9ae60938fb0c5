/-
  OrderPlays: the walk (mkpw.py).
-/
import Derived.Test.YtjgbgbgajadgnaaZPN
namespace Go.Proofs.Ytjgbgbgajadgnaa
open Go.RowKit

set_option linter.unusedSimpArgs false
set_option linter.unusedVariables false
set_option maxHeartbeats 16000000 in
set_option maxRecDepth 100000 in
theorem plays_walk (sf : Int) (ao lo dao : Option Addr) (cp lc dcp : Nat) (nodes : List Int) (log : List ByteArray) (ds : List DE) (w : World) (hN : IntsAt w ao nodes) (hnl : nodes.length ≤ 17592186043904) (hnc : ao = none → cp = 0) (hL : TextsAt w lo log) (hs : ∀ s ∈ log, s.size ≤ 140737488351232) (hll : log.length ≤ 8796093021952) (hlc : lo = none → lc = 0) (hD : DEs w dao ds) :
    Calls Try.prog 3 #[.int .i64 sf, .slice ao nodes.length cp, .slice lo log.length lc, .slice dao ds.length dcp] w fun e w' => e = .returned (.bool true) ∧ Below w.heap.size w w' := by
  go_enter Try.func3, Try.ntmps3
  refine wp_seq (reg_mono (pl_r0 (by kernel_rfl) _ (v := ⟨_, _, _, _, _, _, _, _, _, _, _, _, _, _, _, _, _, _, _, _, _, _, _, _, _, _, _, _, _⟩) ⟨rfl, rfl, rfl, rfl, rfl, rfl, rfl, rfl, rfl, rfl, rfl, rfl, rfl, rfl, rfl, rfl, rfl, rfl, rfl, rfl, rfl, rfl, rfl, rfl, rfl, rfl, rfl, rfl, rfl, rfl, rfl⟩ ?_))
  intro a0 F0
  try dsimp only at F0
  refine wp_seq (reg_mono (pl_r1 (by kernel_rfl) _ F0 (pexamples w) ?_))
  intro a1 w1 F1 b1
  try dsimp only at F1
  obtain ⟨ta, tc, w2, hr2, row2, b2⟩ := app_ints (hN.below b1) hnc hnl
  refine wp_seq (reg_mono (pl_r2 (by kernel_rfl) _ F1 rfl hr2 ?_))
  intro a2 F2
  try dsimp only at F2
  have B2 := b1.trans (b2.mono b1.size)
  obtain ⟨tb, tbc, w3, hr3, row3, b3⟩ := app_texts (hL.below B2) hlc (by omega)
  refine wp_seq (reg_mono (pl_r3 (by kernel_rfl) _ F2 rfl hr3 ?_))
  intro a3 F3
  try dsimp only at F3
  have B3 := B2.trans (b3.mono B2.size)
  have rA := below_row b3 row2
  have iA : IntsAt w3 ta nodes := ints_own rA
  have iB : TextsAt w3 tb log := texts_own row3
  have hta : ∀ j, ta.map Addr.block = some j → j < w3.heap.size := fun j hj => row_lt rA (by rw [ownBlock_slice]; exact hj)
  have htb : ∀ j, tb.map Addr.block = some j → j < w3.heap.size := fun j hj => row_lt row3 (by rw [ownBlock_slice]; exact hj)
  have rA0 := row_base rA b1.size
  have rB0 := row_base row3 B2.size
  clear rA row2 row3 hr2 hr3 b2 b3 F0 F1 F2
  cases hok : newOk sf nodes with
  | false =>
    have hn : Calls Try.prog 8 #[.int .i64 sf, .slice ta nodes.length tc, .slice tb log.length tbc] w3 fun e w' => ∃ (po : Option Addr) (ec : Int), e = .returned (.tuple #[.pointer po, .int .i64 ec]) ∧ (po = none ∧ ec = 1 ∧ w' = w3) := by
      refine (pnew_no sf ta tb tc tbc nodes log w3 iA (by omega) hok).mono ?_
      rintro e w' ⟨h1, h2⟩
      exact ⟨none, 1, h1, rfl, rfl, h2⟩
    refine wp_seq (reg_mono (pl_r4 (by kernel_rfl) _ F3 rfl rfl rfl hn ?_))
    rintro a4 w4 po ec F4 ⟨rfl, rfl, rfl⟩
    try dsimp only at F4
    have hn2 : Calls Try.prog 9 #[.int .i64 sf, .slice ao nodes.length cp, .slice lo log.length lc] w4 fun e w' => ∃ (ro : Option Addr), e = .returned (.pointer ro) ∧ (ro = none ∧ Below w4.heap.size w4 w') := by
      refine (rnew sf ao lo cp lc nodes log w4 (hN.below B3) hnl hnc (hL.below B3) hs hll hlc).mono ?_
      rintro e w' (⟨_, h1, h2⟩ | ⟨h1, _⟩)
      · exact ⟨none, h1, rfl, h2⟩
      · rw [hok] at h1; cases h1
    refine wp_seq (reg_mono (pl_r5 (by kernel_rfl) _ F4 rfl rfl rfl hn2 ?_))
    rintro a5 w5 ro F5 ⟨rfl, b5⟩
    try dsimp only at F5
    refine wp_seq (wp_seq (reg_mono (pl_r6n (by kernel_rfl) _ F5 rfl ?_)))
    intro a6 F6 g6
    refine wp_cond_true g6 ?_
    refine wp_seq (reg_mono (pl_r7 (by kernel_rfl) _ F6 rfl rfl rfl ?_))
    intro a7 F7
    refine wp_ret ?_
    try dsimp only [Exit.then, Exit.inBlock]
    refine pl_ret (x := true) F7 rfl ?_
    exact ⟨rfl, B3.trans (b5.mono B3.size)⟩
  | true =>
    have hn : Calls Try.prog 8 #[.int .i64 sf, .slice ta nodes.length tc, .slice tb log.length tbc] w3 fun e w' => ∃ (po : Option Addr) (ec : Int), e = .returned (.tuple #[.pointer po, .int .i64 ec]) ∧ (ec = 0 ∧ ∃ (L : OL) (b : Nat), po = some ⟨b, 0, none⟩ ∧ NW w3 w' L (OS.new sf nodes log) b) :=
      (pnew sf ta tb tc tbc nodes log w3 iA iB hs hll hok).mono fun e w' ⟨L, b, h1, h2⟩ => ⟨some ⟨b, 0, none⟩, 0, h1, rfl, L, b, rfl, h2⟩
    refine wp_seq (reg_mono (pl_r4 (by kernel_rfl) _ F3 rfl rfl rfl hn ?_))
    rintro a4 w4 po ec F4 ⟨rfl, L0, lb, rfl, hn4⟩
    try dsimp only at F4
    have B4 := B3.trans (hn4.below.mono B3.size)
    have hn2 : Calls Try.prog 9 #[.int .i64 sf, .slice ao nodes.length cp, .slice lo log.length lc] w4 fun e w' => ∃ (ro : Option Addr), e = .returned (.pointer ro) ∧ (∃ R, ro = some ⟨R.b, 0, none⟩ ∧ RA w' R (OS.new sf nodes log) ∧ Below w4.heap.size w4 w' ∧ ∀ j, R.all j → w4.heap.size ≤ j) := by
      refine (rnew sf ao lo cp lc nodes log w4 (hN.below B4) hnl hnc (hL.below B4) hs hll hlc).mono ?_
      rintro e w' (⟨h1, _⟩ | ⟨_, R, h1, h2, h3, h4⟩)
      · rw [hok] at h1; cases h1
      · exact ⟨_, h1, R, rfl, h2, h3, h4⟩
    refine wp_seq (reg_mono (pl_r5 (by kernel_rfl) _ F4 rfl rfl rfl hn2 ?_))
    rintro a5 w5 ro F5 ⟨R0, rfl, hR0, b5, hRn⟩
    try dsimp only at F5
    have hfine := Fine.new hok hs
    have hlog : (OS.new sf nodes log).log.length = log.length := rfl
    have G4 := (Group.nil (X := fun _ => False) B3 (fun _ h => h.elim)).snoc hn4
    have hLb := hn4.b'
    have hLn := hn4.new
    have w34 : w3.heap.size ≤ w4.heap.size := hn4.below.size
    generalize OS.new sf nodes log = o0 at *
    have G4' : Group w w4 (fun _ => False) [(L0, o0)] := G4
    subst hLb
    have I5 := G4'.toI hR0 b5 hRn
    have rA5 := below_row b5 (below_row hn4.below rA0)
    have rB5 := below_row b5 (below_row hn4.below rB0)
    have hRn3 : ∀ j, R0.all j → w3.heap.size ≤ j := fun j hj => Nat.le_trans w34 (hRn j hj)
    clear G4 G4' hn hn2 hn4 rA0 rB0
    refine wp_seq (wp_seq (reg_mono (pl_r6y (by kernel_rfl) _ F5 rfl ?_)))
    intro a6 F6 g6
    refine wp_cond_false g6 (wp_skip ?_)
    show Code.wp _ _ _ _ _
    have f1 := (gfirst I5.grp (i := 0) (by simp) rfl hfine.ok).mono (R' := fun e w' => e = .returned (.bool o0.first) ∧ Below w5.heap.size w5 w') fun e w' ⟨h1, _, h3⟩ => ⟨h1, h3⟩
    have f2 : ∀ W, Below w5.heap.size w5 W → Calls Try.prog 11 #[.pointer (some ⟨R0.b, 0, none⟩)] W fun e w' => e = .returned (.bool o0.first) ∧ Below w5.heap.size w5 w' := fun W bW => ((hR0.below bW).first hfine.ok).mono fun e w' ⟨h1, h2⟩ => ⟨h1, bW.trans (h2.mono bW.size)⟩
    refine wp_seq (wp_seq (reg_mono (pl_r8 (by kernel_rfl) _ F6 rfl rfl rfl f1 f2 ?_)))
    intro a8 w8 F8 g8 b8
    refine wp_cond_false g8 (wp_skip ?_)
    show Code.wp _ _ _ _ _
    have S8 : StA w w8 w3.heap.size L0 o0 R0 ta tb nodes.length log.length tc tbc := ⟨I5.further b8, by have := b8.size; have := b5.size; omega, ⟨_, below_row b8 rA5⟩, ⟨_, below_row b8 rB5⟩⟩
    obtain ⟨lb, hlb0⟩ : ∃ lb, L0.b = lb := ⟨_, rfl⟩
    obtain ⟨rb, hrb0⟩ : ∃ rb, R0.b = rb := ⟨_, rfl⟩
    rw [hlb0, hrb0] at F8
    clear I5 rA5 rB5 f1 f2 F3 F4 F5 F6 g6 g8 hR0
    refine wp_mid (fun a W => ∃ v, Fpl a v ∧ PV v ⟨lb, 0, none⟩ ⟨rb, 0, none⟩ (.slice dao ds.length dcp) ∧ v.v11 = .slice tb log.length tbc ∧ StA w W w3.heap.size L0 o0 R0 ta tb nodes.length log.length tc tbc) ?_ ?_
    · -- the nodes written over
      refine wp_storing (n := nodes.length) (sl := 15) (fun k a => ∃ v, Fpl a v ∧ PV v ⟨lb, 0, none⟩ ⟨rb, 0, none⟩ (.slice dao ds.length dcp) ∧ v.v10 = .slice ta nodes.length tc ∧ v.v15 = .int .i64 (k : Nat) ∧ v.v11 = .slice tb log.length tbc) (fun W => StA w W w3.heap.size L0 o0 R0 ta tb nodes.length log.length tc tbc) ?_ ?_ ?_ ?_ ?_ ?_ ?_
      · exact pl_r10 (by kernel_rfl) _ F8 fun a' F' => ⟨⟨_, F', ⟨rfl, rfl, rfl, rfl⟩, rfl, rfl, rfl⟩, S8⟩
      · rintro k a ⟨v, F, _, _, h, _⟩
        rw [F.s15, h]
      · rintro a W ⟨v, F, p, hr, hs, hx⟩ hS
        exact pl_r11n (by kernel_rfl) _ F hr hs (by omega) fun a' F' g => ⟨⟨_, F', p, hr, hs, hx⟩, hS, g⟩
      · rintro k a W hk ⟨v, F, p, hr, hs, hx⟩ hS
        exact pl_r11y (by kernel_rfl) _ F hr hs (by omega) fun a' F' g => ⟨⟨_, F', p, hr, hs, hx⟩, hS, g⟩
      · rintro k a W hk ⟨v, F, p, hr, hs, hx⟩ hS
        obtain ⟨g, x, e, h1, h2, h3⟩ := hS.putA hLn hRn3 hta k hk (.int .i64 99)
        exact pl_r13 (by kernel_rfl) _ F (by rw [hr, e]) hs hk h1 h2 fun a' F' => ⟨⟨_, F', p, hr, hs, hx⟩, h3⟩
      · rintro k a W hk ⟨v, F, p, hr, hs, hx⟩ hS
        exact pl_r12 (by kernel_rfl) _ F hs (by omega) fun a' F' => ⟨⟨_, F', ⟨p.h3, p.h9, p.h12, p.h14⟩, hr, rfl, hx⟩, hS⟩
      · rintro a W ⟨v, F, p, hr, hs, hx⟩ hS
        exact ⟨v, F, p, hx, hS⟩
    rintro a9 w9 ⟨v9, F9, P9, h9, S9⟩
    refine wp_mid (fun a W => ∃ v, Fpl a v ∧ PV v ⟨lb, 0, none⟩ ⟨rb, 0, none⟩ (.slice dao ds.length dcp) ∧ PI w W L0 o0 R0) ?_ ?_
    · -- the texts written over
      refine wp_storing (n := log.length) (sl := 16) (fun k a => ∃ v, Fpl a v ∧ PV v ⟨lb, 0, none⟩ ⟨rb, 0, none⟩ (.slice dao ds.length dcp) ∧ v.v11 = .slice tb log.length tbc ∧ v.v16 = .int .i64 (k : Nat) ∧ True) (fun W => StA w W w3.heap.size L0 o0 R0 ta tb nodes.length log.length tc tbc) ?_ ?_ ?_ ?_ ?_ ?_ ?_
      · exact pl_r14 (by kernel_rfl) _ F9 fun a' F' => ⟨⟨_, F', ⟨P9.h3, P9.h9, P9.h12, P9.h14⟩, h9, rfl, trivial⟩, S9⟩
      · rintro k a ⟨v, F, _, _, h, _⟩
        rw [F.s16, h]
      · rintro a W ⟨v, F, p, hr, hs, hx⟩ hS
        exact pl_r15n (by kernel_rfl) _ F hr hs (by omega) fun a' F' g => ⟨⟨_, F', p, hr, hs, hx⟩, hS, g⟩
      · rintro k a W hk ⟨v, F, p, hr, hs, hx⟩ hS
        exact pl_r15y (by kernel_rfl) _ F hr hs (by omega) fun a' F' g => ⟨⟨_, F', p, hr, hs, hx⟩, hS, g⟩
      · rintro k a W hk ⟨v, F, p, hr, hs, hx⟩ hS
        obtain ⟨g, x, e, h1, h2, h3⟩ := hS.putB hLn hRn3 htb k hk (.string ⟨#[63]⟩)
        exact pl_r17 (by kernel_rfl) _ F (by rw [hr, e]) hs hk h1 h2 fun a' F' => ⟨⟨_, F', p, hr, hs, hx⟩, h3⟩
      · rintro k a W hk ⟨v, F, p, hr, hs, hx⟩ hS
        exact pl_r16 (by kernel_rfl) _ F hs (by omega) fun a' F' => ⟨⟨_, F', ⟨p.h3, p.h9, p.h12, p.h14⟩, hr, rfl, hx⟩, hS⟩
      · rintro a W ⟨v, F, p, hr, hs, hx⟩ hS
        exact ⟨v, F, p, hS.pi⟩
    rintro a10 w10 ⟨v10, F10, P10, I10⟩
    have hD2 : ∀ W, Below w.heap.size w W → DEsAt W dao ds := fun W b => hD.all.below b
    clear F8 F9 S8 S9
    refine wp_mid (fun a W => ∃ v, Fpl a v ∧ v.v9 = .bool true ∧ Below w.heap.size w W) ?_ ?_
    case refine_2 =>
      rintro a W ⟨v, F, h9, bW⟩
      refine wp_seq (reg_mono (pl_r49 (by kernel_rfl) _ F h9 ?_))
      intro a49 F49
      refine wp_ret ?_
      try dsimp only [Exit.then, Exit.inBlock]
      refine pl_ret (x := true) F49 rfl ?_
      exact ⟨rfl, bW⟩
    refine wp_seq (reg_mono (pl_r18 (by kernel_rfl) _ F10 ?_))
    intro a11 F11
    refine wp_block (wp_loop (fun a W => ∃ (k : Nat) (o : OS) (L : OL) (R : RL) (v : Vpl), k ≤ 100 ∧ o.log.length ≤ log.length + k ∧ o.Fine ∧ L.b = lb ∧ R.b = rb ∧ PI w W L o R ∧ Fpl a v ∧ PV v ⟨lb, 0, none⟩ ⟨rb, 0, none⟩ (.slice dao ds.length dcp) ∧ v.v17 = .int .i64 (k : Int)) (fun a _ => 100 - (intOf (a.tmps.getD 17 undef)).toNat) ⟨0, o0, L0, R0, _, by omega, by omega, hfine, hlb0, hrb0, I10, F11, ⟨P10.h3, P10.h9, P10.h12, P10.h14⟩, rfl⟩ ?_)
    clear F10 F11 I10 P10 hlog hfine hlb0 hrb0 hRn hRn3 hLn b5 b8
    rintro a W ⟨k, o, L, R, v, hk100, hlen, hf, hlb, hrb, hI, F, P, h17⟩
    have hmk : (intOf (a.tmps.getD 17 undef)).toNat = k := by rw [F.s17, h17]; simp [intOf]
    by_cases hlt : (k : Int) < (ds.length : Int)
    case neg =>
      refine wp_seq (wp_seq (reg_mono (pl_r19n (by kernel_rfl) _ F P.h3 h17 hlt ?_)))
      intro a19 F19 g19
      refine wp_cond_false g19 (wp_exit ?_)
      have hend : ∃ v, Fpl a19 v ∧ v.v9 = .bool true ∧ Below w.heap.size w W := ⟨v, F19, P.h9, hI.grp.below⟩
      exact hend
    refine wp_seq (wp_seq (reg_mono (pl_r19y (by kernel_rfl) _ F P.h3 h17 hlt ?_)))
    intro a19 F19 g19
    by_cases h100 : (k : Int) < 100
    case neg =>
      rw [decide_eq_false h100] at g19
      refine wp_cond_false g19 (wp_exit ?_)
      have hend : ∃ v, Fpl a19 v ∧ v.v9 = .bool true ∧ Below w.heap.size w W := ⟨v, F19, P.h9, hI.grp.below⟩
      exact hend
    rw [decide_eq_true h100] at g19
    refine wp_cond_true g19 (wp_skip ?_)
    show Code.wp _ _ _ _ _
    have hlt' : k < ds.length := by omega
    obtain ⟨db, df, hdao, hdb, hDW⟩ := hD2 W hI.grp.below k hlt'
    have hdo := hD.ok _ (List.getElem_mem hlt')
    generalize ds[k] = d at *
    have hln : o.log.length < 8796093022208 := by omega
    refine wp_seq (wp_block ?_)
    refine wp_seq (reg_mono (pl_r21 (by kernel_rfl) _ F19 (by rw [P.h3, hdao]) h17 hlt' hDW ?_))
    intro a21 F21
    have J := hI.toJ #[.int .i64 d.kind, .string d.s, .int .i64 d.node, .int .i64 d.n]
    generalize W.heap.size = cb at *
    generalize W.alloc _ = w12 at *
    refine wp_seq (reg_mono (pl_r22 (by kernel_rfl) _ F21 ?_))
    intro a22 F22
    obtain ⟨pk, hpk, hpick⟩ := ppickN d.kind 5 w12 hdo.1 (by omega)
    refine wp_mid (fun a W' => ∃ (o' : OS) (L' : OL) (R' : RL) (v' : Vpl), o'.log.length ≤ o.log.length + 1 ∧ o'.Fine ∧ L'.b = lb ∧ R'.b = rb ∧ PI w W' L' o' R' ∧ Fpl a v' ∧ PV v' ⟨lb, 0, none⟩ ⟨rb, 0, none⟩ (.slice dao ds.length dcp) ∧ v'.v17 = .int .i64 (k : Int) ∧ v'.v19 = .bool true) ?_ ?_
    · refine wp_seq (reg_mono (pl_r23 (R := fun W => W = w12) (by kernel_rfl) _ F22 rfl J.box (hpick w12) ?_))
      rintro a23 w13 F23 rfl
      refine wp_block ?_
      have V12 : v.v12 = .pointer (some ⟨L.b, 0, none⟩) := by rw [hlb]; exact P.h12
      have V14 : v.v14 = .pointer (some ⟨R.b, 0, none⟩) := by rw [hrb]; exact P.h14
      by_cases h0 : pk = 0
      · refine wp_seq (reg_mono (pl_r31 (by kernel_rfl) _ F23 rfl ?_))
        intro a31 F31 g31
        rw [decide_eq_true h0] at g31
        refine wp_cond_true g31 ?_
        refine wp_seq (reg_mono (pl_r32 (by kernel_rfl) _ F31 V12 rfl J.box (jpropose J hf d.s hdo.2.1 hln) ?_))
        rintro a32 w32 F32 ⟨L', e1, J'⟩
        refine wp_seq (reg_mono (pl_r33 (by kernel_rfl) _ F32 V14 rfl J'.box (krpropose J' hf d.s hdo.2.1 hln) ?_))
        rintro a33 w33 F33 ⟨R', e2, J2⟩
        refine reg_all (pl_r34 (by kernel_rfl) _ F33 rfl rfl rfl rfl ?_)
        intro a34 F34
        obtain ⟨hf', hg⟩ := Fine.propose hf d.s hdo.2.1
        exact ⟨_, L', R', _, hg.len.2, hf', e1.trans hlb, e2.trans hrb, J2.toI, F34, ⟨P.h3, P.h9, P.h12, P.h14⟩, h17, rfl⟩
      refine wp_seq (reg_mono (pl_r31 (by kernel_rfl) _ F23 rfl ?_))
      intro a31 F31 g31
      rw [decide_eq_false h0] at g31
      refine wp_cond_false g31 ?_
      by_cases h1 : pk = 1
      · refine wp_seq (reg_mono (pl_r35 (by kernel_rfl) _ F31 rfl ?_))
        intro a35 F35 g35
        rw [decide_eq_true h1] at g35
        refine wp_cond_true g35 ?_
        refine reg_all (pl_r36 (R := Two w o (o.add d.n d.s).1 lb rb cb #[.int .i64 d.kind, .string d.s, .int .i64 d.node, .int .i64 d.n]) (r := (o.add d.n d.s).2) (d := d) (by kernel_rfl) _ F35 P.h12 P.h14 rfl ?_ ?_ ?_ ?_ ?_)
        · rintro x y W ⟨L1, R1, _, _, J1⟩
          exact J1.box
        · exact ⟨L, R, hlb, hrb, J.further (Below.refl _ _).drew⟩
        · rintro y W ⟨L1, R1, e1, e2, J1⟩
          have J2 : PJ w W L1 o R1 (bif y then (o.add d.n d.s).1 else o) cb #[.int .i64 d.kind, .string d.s, .int .i64 d.node, .int .i64 d.n] := J1
          have := jadd J2 hf d.n d.s hdo.2.1 hln
          rw [e1] at this
          refine this.mono ?_
          rintro e w' ⟨h1, L', h2, h3⟩
          exact ⟨h1, L', R1, h2, e2, h3⟩
        · rintro x W ⟨L1, R1, e1, e2, J1⟩
          have J2 : PJ w W L1 (bif x then (o.add d.n d.s).1 else o) R1 o cb #[.int .i64 d.kind, .string d.s, .int .i64 d.node, .int .i64 d.n] := J1
          have := kradd J2 hf d.n d.s hdo.2.1 hln
          rw [e2] at this
          refine this.mono ?_
          rintro e w' ⟨h1, R', h2, h3⟩
          exact ⟨h1, L1, R', e1, h2, h3⟩
        · rintro a36 w36 F36 ⟨L', R', e1, e2, J2⟩
          obtain ⟨hf', hg⟩ := Fine.add hf d.n d.s hdo.2.1
          exact ⟨_, L', R', _, hg.len.2, hf', e1, e2, PJ.toI J2, F36, ⟨P.h3, P.h9, P.h12, P.h14⟩, h17, rfl⟩
      refine wp_seq (reg_mono (pl_r35 (by kernel_rfl) _ F31 rfl ?_))
      intro a35 F35 g35
      rw [decide_eq_false h1] at g35
      refine wp_cond_false g35 ?_
      by_cases h2 : pk = 2
      · refine wp_seq (reg_mono (pl_r37 (by kernel_rfl) _ F35 rfl ?_))
        intro a37 F37 g37
        rw [decide_eq_true h2] at g37
        refine wp_cond_true g37 ?_
        refine reg_all (pl_r38 (R := Two w o (o.has d.node d.n).1 lb rb cb #[.int .i64 d.kind, .string d.s, .int .i64 d.node, .int .i64 d.n]) (r := (o.has d.node d.n).2) (d := d) (by kernel_rfl) _ F37 P.h12 P.h14 rfl ?_ ?_ ?_ ?_ ?_)
        · rintro x y W ⟨L1, R1, _, _, J1⟩
          exact J1.box
        · exact ⟨L, R, hlb, hrb, J.further (Below.refl _ _).drew⟩
        · rintro y W ⟨L1, R1, e1, e2, J1⟩
          have J2 : PJ w W L1 o R1 (bif y then (o.has d.node d.n).1 else o) cb #[.int .i64 d.kind, .string d.s, .int .i64 d.node, .int .i64 d.n] := J1
          have := jhas J2 hf d.node d.n hln
          rw [e1] at this
          refine this.mono ?_
          rintro e w' ⟨h1, L', h2, h3⟩
          exact ⟨h1, L', R1, h2, e2, h3⟩
        · rintro x W ⟨L1, R1, e1, e2, J1⟩
          have J2 : PJ w W L1 (bif x then (o.has d.node d.n).1 else o) R1 o cb #[.int .i64 d.kind, .string d.s, .int .i64 d.node, .int .i64 d.n] := J1
          have := krhas J2 hf d.node d.n hln
          rw [e2] at this
          refine this.mono ?_
          rintro e w' ⟨h1, R', h2, h3⟩
          exact ⟨h1, L1, R', e1, h2, h3⟩
        · rintro a38 w38 F38 ⟨L', R', e1, e2, J2⟩
          obtain ⟨hf', hg⟩ := Fine.has hf d.node d.n
          exact ⟨_, L', R', _, hg.len.2, hf', e1, e2, PJ.toI J2, F38, ⟨P.h3, P.h9, P.h12, P.h14⟩, h17, rfl⟩
      refine wp_seq (reg_mono (pl_r37 (by kernel_rfl) _ F35 rfl ?_))
      intro a37 F37 g37
      rw [decide_eq_false h2] at g37
      refine wp_cond_false g37 ?_
      by_cases h3 : pk = 3
      · refine wp_seq (reg_mono (pl_r39 (by kernel_rfl) _ F37 rfl ?_))
        intro a39 F39 g39
        rw [decide_eq_true h3] at g39
        refine wp_cond_true g39 ?_
        refine reg_all (pl_r40 (R := Two w o (o.learn d.n).1 lb rb cb #[.int .i64 d.kind, .string d.s, .int .i64 d.node, .int .i64 d.n]) (r := (o.learn d.n).2) (d := d) (by kernel_rfl) _ F39 P.h12 P.h14 rfl ?_ ?_ ?_ ?_ ?_)
        · rintro x y W ⟨L1, R1, _, _, J1⟩
          exact J1.box
        · exact ⟨L, R, hlb, hrb, J.further (Below.refl _ _).drew⟩
        · rintro y W ⟨L1, R1, e1, e2, J1⟩
          have J2 : PJ w W L1 o R1 (bif y then (o.learn d.n).1 else o) cb #[.int .i64 d.kind, .string d.s, .int .i64 d.node, .int .i64 d.n] := J1
          have := jlearn J2 hf d.n hdo.2.2.2.1 hdo.2.2.2.2 hln
          rw [e1] at this
          refine this.mono ?_
          rintro e w' ⟨h1, L', h2, h3⟩
          exact ⟨h1, L', R1, h2, e2, h3⟩
        · rintro x W ⟨L1, R1, e1, e2, J1⟩
          have J2 : PJ w W L1 (bif x then (o.learn d.n).1 else o) R1 o cb #[.int .i64 d.kind, .string d.s, .int .i64 d.node, .int .i64 d.n] := J1
          have := krlearn J2 hf d.n hdo.2.2.2.1 hdo.2.2.2.2 hln
          rw [e2] at this
          refine this.mono ?_
          rintro e w' ⟨h1, R', h2, h3⟩
          exact ⟨h1, L1, R', e1, h2, h3⟩
        · rintro a40 w40 F40 ⟨L', R', e1, e2, J2⟩
          obtain ⟨hf', hg⟩ := Fine.learn hf d.n
          exact ⟨_, L', R', _, hg.len.2, hf', e1, e2, PJ.toI J2, F40, ⟨P.h3, P.h9, P.h12, P.h14⟩, h17, rfl⟩
      refine wp_seq (reg_mono (pl_r39 (by kernel_rfl) _ F37 rfl ?_))
      intro a39 F39 g39
      rw [decide_eq_false h3] at g39
      refine wp_cond_false g39 ?_
      -- what a node wants
      have g24 := (gwants J.grp (i := 0) (by simp) rfl hf.ok d.node d.n hdo.2.2.2.2 (by omega)).mono (R' := fun e w' => ∃ ao cp, e = .returned (.tuple #[.int .i64 (o.wants d.node d.n).1, .slice ao (o.wants d.node d.n).2.length cp]) ∧ (w'.ownsRow w13.heap.size 9 1 (.slice ao (o.wants d.node d.n).2.length cp) (o.wants d.node d.n).2.length (textC (o.wants d.node d.n).2) ∧ Below w13.heap.size w13 w')) fun e w' ⟨ao, cp, h1, h2, _, h4⟩ => ⟨ao, cp, h1, h2, h4⟩
      have hwl : (o.wants d.node d.n).2.length ≤ o.log.length := by
        unfold OS.wants
        split
        · simp only [List.length_take, List.length_drop]; omega
        · exact Nat.zero_le _
      refine wp_seq (reg_mono (pl_r24 (R := fun ao cp w' => w'.ownsRow w13.heap.size 9 1 (.slice ao (o.wants d.node d.n).2.length cp) (o.wants d.node d.n).2.length (textC (o.wants d.node d.n).2) ∧ Below w13.heap.size w13 w') (by kernel_rfl) _ F39 V12 rfl J.box g24 ?_))
      rintro a24 w24 ao1 cp1 F24 ⟨row24, b24⟩
      have J24 := J.further b24
      refine wp_seq (reg_mono (pl_r25 (R := fun ao cp w' => w'.ownsRow w24.heap.size 9 1 (.slice ao (o.wants d.node d.n).2.length cp) (o.wants d.node d.n).2.length (textC (o.wants d.node d.n).2) ∧ Below w24.heap.size w24 w') (by kernel_rfl) _ F24 V14 rfl J24.box (rwants J24.ref hf d.node d.n (by omega)) ?_))
      rintro a25 w25 ao2 cp2 F25 ⟨row25, b25⟩
      have row24' := below_row b25 row24
      refine wp_seq (reg_mono (pl_r26 (R := fun w' => Below w25.heap.size w25 w') (by kernel_rfl) _ F25 rfl rfl rfl rfl (ptexts ao1 ao2 cp1 cp2 _ w25 (texts_own row24') (texts_own row25) (by omega)) ?_))
      intro a26 w26 F26 b26
      have b13 := (b24.trans (b25.mono b24.size))
      have S26 : StT w13 w26 ao1 (o.wants d.node d.n).2.length cp1 := ⟨b13.trans (b26.mono b13.size), _, below_row b26 row24'⟩
      generalize (o.wants d.node d.n).2.length = wn at *
      have P26 := P
      refine wp_storing (n := wn) (sl := 28) (fun j a => ∃ v, Fpl a v ∧ PV v ⟨lb, 0, none⟩ ⟨rb, 0, none⟩ (.slice dao ds.length dcp) ∧ v.v25 = .slice ao1 wn cp1 ∧ v.v28 = .int .i64 (j : Nat) ∧ (v.v17 = .int .i64 (k : Int) ∧ v.v19 = .bool true)) (fun W => StT w13 W ao1 wn cp1) ?_ ?_ ?_ ?_ ?_ ?_ ?_
      · exact pl_r27 (by kernel_rfl) _ F26 fun a' F' => ⟨⟨_, F', ⟨P26.h3, P26.h9, P26.h12, P26.h14⟩, rfl, rfl, ⟨h17, rfl⟩⟩, S26⟩
      · rintro k a ⟨v, F, _, _, h, _⟩
        rw [F.s28, h]
      · rintro a W ⟨v, F, p, hr, hs, hx⟩ hS
        exact pl_r28n (by kernel_rfl) _ F hr hs (by omega) fun a' F' g => ⟨⟨_, F', p, hr, hs, hx⟩, hS, g⟩
      · rintro k a W hk ⟨v, F, p, hr, hs, hx⟩ hS
        exact pl_r28y (by kernel_rfl) _ F hr hs (by omega) fun a' F' g => ⟨⟨_, F', p, hr, hs, hx⟩, hS, g⟩
      · rintro k a W hk ⟨v, F, p, hr, hs, hx⟩ hS
        obtain ⟨g, x, e, h1, h2, h3⟩ := hS.put k hk (.string ⟨#[63]⟩)
        exact pl_r30 (by kernel_rfl) _ F (by rw [hr, e]) hs hk h1 h2 fun a' F' => ⟨⟨_, F', p, hr, hs, hx⟩, h3⟩
      · rintro k a W hk ⟨v, F, p, hr, hs, hx⟩ hS
        exact pl_r29 (by kernel_rfl) _ F hs (by omega) fun a' F' => ⟨⟨_, F', ⟨p.h3, p.h9, p.h12, p.h14⟩, hr, rfl, hx⟩, hS⟩
      · rintro a W ⟨v, F, p, hr, hs, hx⟩ hS
        exact ⟨o, L, R, v, by omega, hf, hlb, hrb, J.toI.further hS.below, F, p, hx.1, hx.2⟩
    · rintro a W2 ⟨o', L', R', v', hl', hf', hlb', hrb', I', F', P', h17', h19'⟩
      have V12 : v'.v12 = .pointer (some ⟨L'.b, 0, none⟩) := by rw [hlb']; exact P'.h12
      have V14 : v'.v14 = .pointer (some ⟨R'.b, 0, none⟩) := by rw [hrb']; exact P'.h14
      have g41 := (glog I'.grp (i := 0) (by simp) rfl hf'.ok (by omega)).mono (R' := fun e w' => ∃ g, e = .returned (.slice (some ⟨g, 0, none⟩) o'.log.length o'.log.length) ∧ (w'.ownsRow W2.heap.size 9 1 (.slice (some ⟨g, 0, none⟩) o'.log.length o'.log.length) o'.log.length (textC o'.log) ∧ Below W2.heap.size W2 w')) fun e w' ⟨g, h1, h2, _, h4⟩ => ⟨g, h1, h2, h4⟩
      refine wp_seq (reg_mono (pl_r41 (R := fun g w' => w'.ownsRow W2.heap.size 9 1 (.slice (some ⟨g, 0, none⟩) o'.log.length o'.log.length) o'.log.length (textC o'.log) ∧ Below W2.heap.size W2 w') (by kernel_rfl) _ F' V12 g41 ?_))
      rintro a41 w41 g F41 ⟨row41, b41⟩
      have I41 := I'.further b41
      refine wp_seq (reg_mono (pl_r42 (R := fun w' => Below w41.heap.size w41 w') (by kernel_rfl) _ F41 rfl V14 I41.ref.c2 (ptexts _ _ _ _ o'.log w41 (texts_own row41) I41.ref.texts (by omega)) ?_))
      intro a42 w42 F42 b42
      have I42 := I41.further b42
      have hM : ∀ m, PI w (w42.drewN m) L' o' R' := fun m => I42.further (below_drewN (Below.refl _ _) _)
      refine wp_seq (wp_seq (reg_mono (pl_r43 (su := o'.sure) (by kernel_rfl) _ F42 h19' rfl V12 V14 I42.ref.c2 I42.ref.c3 (fun m => glen (hM m).grp (i := 0) (by simp) rfl) (fun m => gbytes (hM m).grp (i := 0) (by simp) rfl) (fun m => (hM m).ref.bytes hf'.ok (by omega)) (fun m => gsure (hM m).grp (i := 0) (by simp) rfl) ?_)))
      intro a43 m43 F43 g43
      refine wp_cond_false g43 (wp_skip ?_)
      show Code.wp _ _ _ _ _
      have b43 : Below w42.heap.size w42 (w42.drewN m43) := below_drewN (Below.refl _ _) _
      have bW2 := (b41.trans (b42.mono b41.size))
      have S43 : StT W2 (w42.drewN m43) (some ⟨g, 0, none⟩) o'.log.length o'.log.length := ⟨bW2.trans (b43.mono bW2.size), _, below_row b43 (below_row b42 row41)⟩
      obtain ⟨ln, hlnn⟩ : ∃ ln, o'.log.length = ln := ⟨_, rfl⟩
      rw [hlnn] at S43 F43
      refine wp_storing (n := ln) (sl := 31) (fun j a => ∃ v, Fpl a v ∧ PV v ⟨lb, 0, none⟩ ⟨rb, 0, none⟩ (.slice dao ds.length dcp) ∧ v.v29 = .slice (some ⟨g, 0, none⟩) ln ln ∧ v.v31 = .int .i64 (j : Nat) ∧ (v.v17 = .int .i64 (k : Int))) (fun W => StT W2 W (some ⟨g, 0, none⟩) ln ln) ?_ ?_ ?_ ?_ ?_ ?_ ?_
      · exact pl_r45 (by kernel_rfl) _ F43 fun a' F' => ⟨⟨_, F', ⟨P'.h3, P'.h9, P'.h12, P'.h14⟩, rfl, rfl, h17'⟩, S43⟩
      · rintro k a ⟨v, F, _, _, h, _⟩
        rw [F.s31, h]
      · rintro a W ⟨v, F, p, hr, hs, hx⟩ hS
        exact pl_r46n (by kernel_rfl) _ F hr hs (by omega) fun a' F' g => ⟨⟨_, F', p, hr, hs, hx⟩, hS, g⟩
      · rintro k a W hk ⟨v, F, p, hr, hs, hx⟩ hS
        exact pl_r46y (by kernel_rfl) _ F hr hs (by omega) fun a' F' g => ⟨⟨_, F', p, hr, hs, hx⟩, hS, g⟩
      · rintro k a W hk ⟨v, F, p, hr, hs, hx⟩ hS
        obtain ⟨g, x, e, h1, h2, h3⟩ := hS.put k hk (.string ⟨#[63]⟩)
        exact pl_r48 (by kernel_rfl) _ F (by rw [hr, e]) hs hk h1 h2 fun a' F' => ⟨⟨_, F', p, hr, hs, hx⟩, h3⟩
      · rintro k a W hk ⟨v, F, p, hr, hs, hx⟩ hS
        exact pl_r47 (by kernel_rfl) _ F hs (by omega) fun a' F' => ⟨⟨_, F', ⟨p.h3, p.h9, p.h12, p.h14⟩, hr, rfl, hx⟩, hS⟩
      · rintro a W ⟨v, F, p, hr, hs, hx⟩ hS
        show Code.wp _ _ _ _ _
        refine reg_mono (pl_r20 (by kernel_rfl) _ F hx (by omega) ?_)
        intro a20 F20
        refine ⟨⟨k + 1, o', L', R', _, by omega, by omega, hf', hlb', hrb', I'.further hS.below, F20, ⟨p.h3, p.h9, p.h12, p.h14⟩, rfl⟩, ?_⟩
        rw [hmk, F20.s17]
        simp [intOf]
        omega
end Go.Proofs.Ytjgbgbgajadgnaa
