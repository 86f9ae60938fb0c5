/-
  OrderStays: the walk.
-/
import Derived.Test.YtjgbgbgajadgnaaZOS1
namespace Go.Proofs.Ytjgbgbgajadgnaa
open Go.RowKit

set_option linter.unusedSimpArgs false
set_option linter.unusedVariables false
/-- What there is ahead of a deed: the order, and its log as it was told last. -/
structure StI (w wv : World) (b : Nat) (o : OS) (L : OL) (g : Nat) : Prop where
  fine : o.Fine
  lb : L.b = b
  grp : Group w wv (fun j => j = g) [(L, o)]
  row : wv.ownsRow 0 9 1 (.slice (some ⟨g, 0, none⟩) o.log.length o.log.length) o.log.length (textC o.log)
set_option maxHeartbeats 8000000 in
set_option maxRecDepth 100000 in
theorem stays_walk (sf : Int) (ao lo dao : Option Addr) (cp lc dcp : Nat) (nodes : List Int) (log : List ByteArray) (ds : List DE) (w : World) (hN : IntsAt w ao nodes) (hnl : nodes.length ≤ 17592186043904) (hL : TextsAt w lo log) (hs : ∀ s ∈ log, s.size ≤ 140737488351232) (hll : log.length ≤ 8796093021952) (hD : DEs w dao ds) :
    Calls Try.prog 6 #[.int .i64 sf, .slice ao nodes.length cp, .slice lo log.length lc, .slice dao ds.length dcp] w fun e w' => e = .returned (.bool true) ∧ Below w.heap.size w w' := by
  go_enter Try.func6, Try.ntmps6
  refine wp_seq (reg_mono (st_r0 (by kernel_rfl) _ (v := ⟨_, _, _, _, _, _, _, _, _, _, _, _, _, _⟩) ⟨rfl, rfl, rfl, rfl, rfl, rfl, rfl, rfl, rfl, rfl, rfl, rfl, rfl, rfl, rfl, rfl⟩ ?_))
  intro a0 F0
  try dsimp only at F0
  refine wp_seq (reg_mono (st_r1 (by kernel_rfl) _ F0 (pexamples w) ?_))
  intro a1 w1 F1 b1
  try dsimp only at F1
  cases hok : newOk sf nodes with
  | false =>
    have hn : Calls Try.prog 8 #[.int .i64 sf, .slice ao nodes.length cp, .slice lo log.length lc] w1 fun e w' => ∃ (po : Option Addr) (ec : Int), e = .returned (.tuple #[.pointer po, .int .i64 ec]) ∧ (po = none ∧ ec = 1 ∧ w' = w1) := by
      refine (pnew_no sf ao lo cp lc nodes log w1 (hN.below b1) (by omega) hok).mono ?_
      rintro e w' ⟨h1, h2⟩
      exact ⟨none, 1, h1, rfl, rfl, h2⟩
    refine wp_seq (reg_mono (st_r2 (by kernel_rfl) _ F1 rfl rfl rfl hn ?_))
    rintro a2 w2 po ec F2 ⟨rfl, rfl, rfl⟩
    refine wp_seq (wp_seq (reg_mono (st_r3n (by kernel_rfl) _ F2 rfl ?_)))
    intro a3 F3 g3
    refine wp_cond_true g3 ?_
    refine wp_seq (reg_mono (st_r4 (by kernel_rfl) _ F3 rfl rfl ?_))
    intro a4 F4
    refine wp_ret ?_
    try dsimp only [Exit.then, Exit.inBlock]
    refine st_ret (x := true) F4 rfl ?_
    exact ⟨rfl, b1⟩
  | true =>
    have hn : Calls Try.prog 8 #[.int .i64 sf, .slice ao nodes.length cp, .slice lo log.length lc] w1 fun e w' => ∃ (po : Option Addr) (ec : Int), e = .returned (.tuple #[.pointer po, .int .i64 ec]) ∧ (ec = 0 ∧ ∃ (L : OL) (b : Nat), po = some ⟨b, 0, none⟩ ∧ NW w1 w' L (OS.new sf nodes log) b) :=
      (pnew sf ao lo cp lc nodes log w1 (hN.below b1) (hL.below b1) hs hll hok).mono fun e w' ⟨L, b, h1, h2⟩ => ⟨some ⟨b, 0, none⟩, 0, h1, rfl, L, b, rfl, h2⟩
    refine wp_seq (reg_mono (st_r2 (by kernel_rfl) _ F1 rfl rfl rfl hn ?_))
    rintro a2 w2 po ec F2 ⟨rfl, L, b, rfl, hn2⟩
    have hfine := Fine.new hok hs
    have hlog : (OS.new sf nodes log).log = log := rfl
    have hsure : (OS.new sf nodes log).sure = log.length := rfl
    have G2 := (Group.nil (X := fun _ => False) b1 (fun _ h => h.elim)).snoc hn2
    have hLb := hn2.b'
    generalize OS.new sf nodes log = o0 at *
    have G2' : Group w w2 (fun _ => False) [(L, o0)] := G2
    subst hLb
    clear G2 hn hn2
    refine wp_seq (wp_seq (reg_mono (st_r3y (by kernel_rfl) _ F2 rfl rfl ?_)))
    intro a3 F3 g3
    refine wp_cond_false g3 (wp_skip ?_)
    show Code.wp _ _ _ _ _
    have hl5 := glog G2' (i := 0) (by simp) rfl hfine.ok (by rw [hlog]; omega)
    refine wp_seq (reg_mono (st_r5 (R := fun g W => W.ownsRow w2.heap.size 9 1 (.slice (some ⟨g, 0, none⟩) o0.log.length o0.log.length) o0.log.length (textC o0.log) ∧ Group w W (fun _ => False) [(L, o0)] ∧ Below w2.heap.size w2 W) (by kernel_rfl) _ F3 rfl hl5 ?_))
    rintro a5 w5 g F5 ⟨row5, G5, b5⟩
    refine wp_seq (reg_mono (st_r6 (R := fun W => W = w5) (by kernel_rfl) _ F5 rfl (gsure G5 (i := 0) (by simp) rfl) ?_))
    rintro a6 w6 F6 rfl
    have I0 : StI w w6 L.b o0 L g := by
      refine ⟨hfine, rfl, G5.reX (fun i hi j hj hx => ?_) (fun j hx => by rw [hx]; exact (row5.lt g rfl).2), row_base row5 (Nat.zero_le _)⟩
      have h1 := (G2'.each i hi).lt hj
      have h2 := (row5.lt g rfl).1
      omega
    refine wp_seq (wp_seq (reg_mono (st_r7 (by kernel_rfl) _ F6 rfl (by rw [hsure]) ?_)))
    intro a7 F7 g7
    refine wp_cond_false g7 (wp_skip ?_)
    show Code.wp _ _ _ _ _
    refine wp_seq (wp_seq (reg_mono (st_r9 (by kernel_rfl) _ F7 ?_)))
    intro a9 F9
    try dsimp only at F9
    have hD2 : ∀ W, Below w.heap.size w W → DEsAt W dao ds := fun W b => hD.all.below b
    refine wp_block (wp_loop (fun a W => ∃ (k : Nat) (o : OS) (L2 : OL) (g2 : Nat) (x15 x16 x60 : Value), k ≤ 100 ∧ o.log.length ≤ log.length + k ∧ StI w W L.b o L2 g2 ∧ Fst a { v0 := .int .i64 sf, v1 := .slice ao nodes.length cp, v2 := .slice lo log.length lc, v3 := .slice dao ds.length dcp, v8 := .bool false, v9 := .bool true, v10 := .pointer (some ⟨L.b, 0, none⟩), v11 := .int .i64 0, v12 := .slice (some ⟨g2, 0, none⟩) o.log.length o.log.length, v13 := .int .i64 (o.sure : Int), v14 := .int .i64 (k : Int), v15 := x15, v16 := x16, v60 := x60 }) (fun a _ => 100 - (intOf (a.tmps.getD 14 undef)).toNat) ⟨0, o0, L, g, _, _, _, by omega, by rw [hlog]; omega, I0, F9⟩ ?_)
    clear F0 F1 F2 F3 F5 F6 F7 F9 I0 row5 G5 b5 G2' hsure hlog hfine g3 g7 hl5
    rintro a W ⟨k, o, L2, g2, x15, x16, x60, hk100, hlen, hI, F⟩
    have hmk : (intOf (a.tmps.getD 14 undef)).toNat = k := by rw [F.s14]; simp [intOf]
    by_cases hlt : (k : Int) < (ds.length : Int)
    case neg =>
      refine wp_seq (wp_seq (reg_mono (st_r10n (by kernel_rfl) _ F rfl rfl hlt ?_)))
      intro a10 F10 g10
      refine wp_cond_false g10 (wp_exit ?_)
      show Code.wp _ _ _ _ _
      refine wp_seq (reg_mono (st_r28 (by kernel_rfl) _ F10 rfl ?_))
      intro a28 F28
      refine wp_ret ?_
      try dsimp only [Exit.then, Exit.inBlock]
      refine st_ret (x := true) F28 rfl ?_
      exact ⟨rfl, hI.grp.below⟩
    refine wp_seq (wp_seq (reg_mono (st_r10y (by kernel_rfl) _ F rfl rfl hlt ?_)))
    intro a10 F10 g10
    by_cases h100 : (k : Int) < 100
    case neg =>
      rw [decide_eq_false h100] at g10
      refine wp_cond_false g10 (wp_exit ?_)
      show Code.wp _ _ _ _ _
      refine wp_seq (reg_mono (st_r28 (by kernel_rfl) _ F10 rfl ?_))
      intro a28 F28
      refine wp_ret ?_
      try dsimp only [Exit.then, Exit.inBlock]
      refine st_ret (x := true) F28 rfl ?_
      exact ⟨rfl, hI.grp.below⟩
    rw [decide_eq_true h100] at g10
    refine wp_cond_true g10 (wp_skip ?_)
    show Code.wp _ _ _ _ _
    have hlt' : k < ds.length := by omega
    obtain ⟨db, df, hdao, hdb, hDW⟩ := hD2 W hI.grp.below k hlt'
    have hdo := hD.ok _ (List.getElem_mem hlt')
    subst hdao
    generalize ds[k] = d at *
    refine wp_seq (wp_block ?_)
    refine wp_seq (reg_mono (st_r12 (by kernel_rfl) _ F10 rfl rfl hlt' hDW ?_))
    intro a12 F12
    try dsimp only at F12
    have bu := (Below.refl W.heap.size W).alloc (Nat.le_refl _) (.cells #[.int .i64 d.kind, .string d.s, .int .i64 d.node, .int .i64 d.n] 33)
    have x12 := heap_alloc_new W (.cells #[.int .i64 d.kind, .string d.s, .int .i64 d.node, .int .i64 d.n] 33)
    have G12 := hI.grp.further bu
    have row12 := below_row bu hI.row
    generalize W.heap.size = cb at *
    generalize W.alloc _ = w12 at *
    obtain ⟨pk, hpk, hpick⟩ := ppickN d.kind 5 w12 hdo.1 (by omega)
    have hf := hI.fine
    have hlb := hI.lb
    have hln : o.log.length < 8796093022208 := by omega
    refine wp_mid (fun a W' => ∃ (o' : OS) (L' : OL) (y60 : Value), Grew o o' ∧ o'.Fine ∧ L'.b = L.b ∧ Group w W' (fun j => j = g2) [(L', o')] ∧ W'.ownsRow 0 9 1 (.slice (some ⟨g2, 0, none⟩) o.log.length o.log.length) o.log.length (textC o.log) ∧ Fst a { v0 := .int .i64 sf, v1 := .slice ao nodes.length cp, v2 := .slice lo log.length lc, v3 := .slice (some ⟨db, df, none⟩) ds.length dcp, v8 := .bool false, v9 := .bool true, v10 := .pointer (some ⟨L.b, 0, none⟩), v11 := .int .i64 0, v12 := .slice (some ⟨g2, 0, none⟩) o.log.length o.log.length, v13 := .int .i64 (o.sure : Int), v14 := .int .i64 (k : Int), v15 := .pointer (some ⟨cb, 0, none⟩), v16 := x16, v60 := y60 }) ?_ ?_
    · refine wp_seq (reg_mono (st_r13 (R := fun W => W = w12) (by kernel_rfl) _ F12 rfl x12 (hpick w12) ?_))
      rintro a13 w13 F13 rfl
      try dsimp only at F13
      refine wp_block ?_
      have keep : ∀ {W' : World} {o' : OS}, (o'.Fine ∧ Grew o o') → (∃ L', L'.b = L2.b ∧ Group w W' (fun j => j = g2) ([(L2, o)].set 0 (L', o')) ∧ Touch (fun j => ¬ j = g2) w13 W') → ∃ L', Grew o o' ∧ o'.Fine ∧ L'.b = L.b ∧ Group w W' (fun j => j = g2) [(L', o')] ∧ W'.ownsRow 0 9 1 (.slice (some ⟨g2, 0, none⟩) o.log.length o.log.length) o.log.length (textC o.log) := by
        rintro W' o' ⟨h1, h2⟩ ⟨L', h3, h4, h5⟩
        exact ⟨L', h2, h1, h3.trans hlb, h4, h5.row row12 fun k e => (by obtain rfl : g2 = k := Option.some.inj e; exact fun h => h rfl)⟩
      by_cases h0 : pk = 0
      · refine wp_seq (reg_mono (st_r15 (by kernel_rfl) _ F13 rfl ?_))
        intro a15 F15 g15
        rw [decide_eq_true h0] at g15
        refine wp_cond_true g15 ?_
        refine reg_all (st_r16 (R := fun W' => ∃ L', L'.b = L2.b ∧ Group w W' (fun j => j = g2) ([(L2, o)].set 0 (L', (o.propose d.s).1)) ∧ Touch (fun j => ¬ j = g2) w13 W') (by kernel_rfl) _ F15 (by rw [hlb]) rfl x12 (gpropose G12 (i := 0) (by simp) rfl hf.ok d.s hdo.2.1 hln) ?_)
        intro a16 w16 F16 r16
        obtain ⟨L', q1, q2, q3, q4, q5⟩ := keep (Fine.propose hf d.s hdo.2.1) r16
        exact ⟨_, L', _, q1, q2, q3, q4, q5, F16⟩
      refine wp_seq (reg_mono (st_r15 (by kernel_rfl) _ F13 rfl ?_))
      intro a15 F15 g15
      rw [decide_eq_false h0] at g15
      refine wp_cond_false g15 ?_
      by_cases h1 : pk = 1
      · refine wp_seq (reg_mono (st_r17 (by kernel_rfl) _ F15 rfl ?_))
        intro a17 F17 g17
        rw [decide_eq_true h1] at g17
        refine wp_cond_true g17 ?_
        refine reg_all (st_r18 (R := fun W' => ∃ L', L'.b = L2.b ∧ Group w W' (fun j => j = g2) ([(L2, o)].set 0 (L', (o.add d.n d.s).1)) ∧ Touch (fun j => ¬ j = g2) w13 W') (by kernel_rfl) _ F17 (by rw [hlb]) rfl x12 (gadd G12 (i := 0) (by simp) rfl hf.ok d.n d.s hdo.2.1 hln) ?_)
        intro a16 w16 F16 r16
        obtain ⟨L', q1, q2, q3, q4, q5⟩ := keep (Fine.add hf d.n d.s hdo.2.1) r16
        exact ⟨_, L', _, q1, q2, q3, q4, q5, F16⟩
      refine wp_seq (reg_mono (st_r17 (by kernel_rfl) _ F15 rfl ?_))
      intro a17 F17 g17
      rw [decide_eq_false h1] at g17
      refine wp_cond_false g17 ?_
      by_cases h2 : pk = 2
      · refine wp_seq (reg_mono (st_r19 (by kernel_rfl) _ F17 rfl ?_))
        intro a19 F19 g19
        rw [decide_eq_true h2] at g19
        refine wp_cond_true g19 ?_
        refine reg_all (st_r20 (R := fun W' => ∃ L', L'.b = L2.b ∧ Group w W' (fun j => j = g2) ([(L2, o)].set 0 (L', (o.has d.node d.n).1)) ∧ Touch (fun j => ¬ j = g2) w13 W') (by kernel_rfl) _ F19 (by rw [hlb]) rfl x12 (ghas G12 (i := 0) (by simp) rfl hf.ok d.node d.n (by omega)) ?_)
        intro a16 w16 F16 r16
        obtain ⟨L', q1, q2, q3, q4, q5⟩ := keep (Fine.has hf d.node d.n) r16
        exact ⟨_, L', _, q1, q2, q3, q4, q5, F16⟩
      refine wp_seq (reg_mono (st_r19 (by kernel_rfl) _ F17 rfl ?_))
      intro a19 F19 g19
      rw [decide_eq_false h2] at g19
      refine wp_cond_false g19 ?_
      by_cases h3 : pk = 3
      · refine wp_seq (reg_mono (st_r21 (by kernel_rfl) _ F19 rfl ?_))
        intro a21 F21 g21
        rw [decide_eq_true h3] at g21
        refine wp_cond_true g21 ?_
        refine reg_all (st_r22 (R := fun W' => ∃ L', L'.b = L2.b ∧ Group w W' (fun j => j = g2) ([(L2, o)].set 0 (L', (o.learn d.n).1)) ∧ Touch (fun j => ¬ j = g2) w13 W') (by kernel_rfl) _ F21 (by rw [hlb]) rfl x12 (glearn G12 (i := 0) (by simp) rfl hf.ok d.n hdo.2.2.2.1 hdo.2.2.2.2 (by omega)) ?_)
        intro a16 w16 F16 r16
        obtain ⟨L', q1, q2, q3, q4, q5⟩ := keep (Fine.learn hf d.n) r16
        exact ⟨_, L', _, q1, q2, q3, q4, q5, F16⟩
      refine wp_seq (reg_mono (st_r21 (by kernel_rfl) _ F19 rfl ?_))
      intro a21 F21 g21
      rw [decide_eq_false h3] at g21
      refine wp_cond_false g21 ?_
      refine reg_all (st_r14 (R := fun _ _ W' => Group w W' (fun j => j = g2) [(L2, o)] ∧ Below w13.heap.size w13 W') (by kernel_rfl) _ F21 (by rw [hlb]) rfl x12 ((gwants G12 (i := 0) (by simp) rfl hf.ok d.node d.n hdo.2.2.2.2 (by omega)).mono fun e w' ⟨ao, cp, h1, h2, h3, h4⟩ => ⟨ao, cp, h1, h3, h4⟩) ?_)
      rintro a16 w16 ao cp F16 ⟨r1, r2⟩
      exact ⟨o, L2, _, Grew.refl o, hf, hlb, r1, below_row r2 row12, F16⟩
    · rintro a W2 ⟨o', L', y60, hgr, hf', hlb', G', row', F'⟩
      have hl' := hgr.len
      refine wp_seq (reg_mono (st_r23 (R := fun g W => W.ownsRow W2.heap.size 9 1 (.slice (some ⟨g, 0, none⟩) o'.log.length o'.log.length) o'.log.length (textC o'.log) ∧ Group w W (fun j => j = g2) [(L', o')] ∧ Below W2.heap.size W2 W) (by kernel_rfl) _ F' (by rw [hlb']) (glog G' (i := 0) (by simp) rfl hf'.ok (by omega)) ?_))
      rintro a23 w23 g3 F23 ⟨row23, G23, b23⟩
      have I3 : StI w w23 L.b o' L' g3 := by
        refine ⟨hf', hlb', G23.reX (fun i hi j hj hx => ?_) (fun j hx => by rw [hx]; exact (row23.lt g3 rfl).2), row_base row23 (Nat.zero_le _)⟩
        have h1 := (G'.each i hi).lt hj
        have h2 := (row23.lt g3 rfl).1
        omega
      have rowL := below_row b23 row'
      have T1 : TextsAt w23 (some ⟨g3, 0, none⟩) o.log := by
        have := (texts_own row23).take o.log.length
        rw [hgr.take] at this
        exact this
      have T2 : TextsAt w23 (some ⟨g2, 0, none⟩) o.log := texts_own rowL
      have c0 : ∀ W, (W = w23) → Calls Try.prog 23 #[.slice (some ⟨g3, 0, none⟩) o.log.length o'.log.length, .slice (some ⟨g2, 0, none⟩) o.log.length o.log.length] W fun e w' => e = .returned (.bool true) ∧ Below w23.heap.size w23 w' := by
        rintro W rfl
        exact ptexts _ _ _ _ o.log W T1 T2 (by omega)
      have cS : ∀ W, Below w23.heap.size w23 W → Calls Try.prog 28 #[.pointer (some ⟨L.b, 0, none⟩)] W fun e w' => e = .returned (.int .i64 (o'.sure : Int)) ∧ Below w23.heap.size w23 w' := by
        intro W bW
        have := gsure (I3.grp.further bW) (i := 0) (by simp) rfl
        rw [hlb'] at this
        exact this.mono fun e w' ⟨h1, h2⟩ => ⟨h1, by rw [h2]; exact bW⟩
      have cL : ∀ W, Below w23.heap.size w23 W → Calls Try.prog 25 #[.pointer (some ⟨L.b, 0, none⟩)] W fun e w' => e = .returned (.int .i64 (o'.log.length : Int)) ∧ Below w23.heap.size w23 w' := by
        intro W bW
        have := glen (I3.grp.further bW) (i := 0) (by simp) rfl
        rw [hlb'] at this
        exact this.mono fun e w' ⟨h1, h2⟩ => ⟨h1, by rw [h2]; exact bW⟩
      refine wp_seq (wp_seq (reg_mono (st_r24 (R0 := fun W => W = w23) (by kernel_rfl) _ F23 rfl rfl rfl rfl rfl hl'.1 hl'.2 hgr.sure hf'.ok.sure (by omega) c0 cS cS cL ?_)))
      intro a24 w24 F24 g24 b24
      refine wp_cond_false g24 (wp_skip ?_)
      show Code.wp _ _ _ _ _
      refine wp_seq (reg_mono (st_r26 (by kernel_rfl) _ F24 rfl ?_))
      intro a26 F26
      try dsimp only at F26
      have cS2 := cS w24 b24
      refine reg_all (st_r27 (R := fun W => Below w23.heap.size w23 W) (by kernel_rfl) _ F26 rfl cS2 ?_)
      intro a27 w27 F27 b27
      try dsimp only at F27
      refine reg_mono (st_r11 (by kernel_rfl) _ F27 rfl (by omega) ?_)
      intro a11 F11
      try dsimp only at F11
      refine ⟨⟨k + 1, o', L', g3, _, _, _, by omega, by omega, ⟨hf', hlb', I3.grp.further b27, below_row b27 I3.row⟩, F11⟩, ?_⟩
      rw [hmk, F11.s14]
      simp [intOf]
      omega
end Go.Proofs.Ytjgbgbgajadgnaa
