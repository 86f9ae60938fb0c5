/-
  OrderAgrees: the walk (mkow7.py).
-/
import Derived.Test.YtjgbgbgajadgnaaZOW6
namespace Go.Proofs.Ytjgbgbgajadgnaa
open Go.RowKit

set_option linter.unusedSimpArgs false
set_option linter.unusedVariables false
theorem tell_cells {w : World} {B n cp : Nat} {eo : Option Addr} {l : List TL} (h : w.ownsRow B tTell 3 (.slice eo n cp) n (tellC l)) (i : Nat) (hi : i < l.length) : ∃ eb, eo = some ⟨eb, 0, none⟩ ∧ w.cell? ⟨eb, i * 3, none⟩ = some (.int .i64 (l[i].at0 : Int)) ∧ w.cell? ⟨eb, i * 3 + 1, none⟩ = some (.int .i64 (l[i].sure : Int)) ∧ w.cell? ⟨eb, i * 3 + 2, none⟩ = some (.slice l[i].ao l[i].texts.length l[i].cp) := by
  have hl : n = l.length := by have := h.1; rw [tellC_length] at this; omega
  subst hl
  rcases h.2 with ⟨_, h2⟩ | ⟨g, cap, cur, hv, hg, hh, _⟩
  · omega
  · injection hv with h1 _ h3
    subst h1
    refine ⟨g, rfl, ?_, ?_, ?_⟩
    · have := h.cells (g := g) rfl (i * 3 + 0) _ (tellC_get l i 0 hi (by omega))
      rw [Addr.add_lit] at this
      simpa using this
    · have := h.cells (g := g) rfl (i * 3 + 1) _ (tellC_get l i 1 hi (by omega))
      rw [Addr.add_lit] at this
      simpa using this
    · have := h.cells (g := g) rfl (i * 3 + 2) _ (tellC_get l i 2 hi (by omega))
      rw [Addr.add_lit] at this
      simpa using this
theorem wants_of {n : Nat} {q o : OS} {w m : Nat} (hq : AgO n 0 q q) (hw : w < n) (hw1 : 1 ≤ w) : q.wants (w : Int) (1 + (m : Int)) = (((q.had.getD w 0 : Nat) : Int), (q.log.drop (q.had.getD w 0)).take (1 + m)) := by
  have ha : q.asks (w : Int) = true := by
    have hf : q.first = true := by
      unfold OS.first
      rw [hq.nodes, hq.self]
      cases n with
      | zero => omega
      | succ n => simp [List.getD_eq_getElem?_getD]
    unfold OS.asks
    rw [hf, hq.self, decide_eq_true (by omega), Bool.true_and, Bool.true_and, hq.nodes, List.any_eq_true]
    exact ⟨w, List.mem_range.2 hw, decide_eq_true rfl⟩
  unfold OS.wants
  rw [if_pos ha, show (w : Int).toNat = w from rfl, show (1 + (m : Int)).toNat = 1 + m by omega]
set_option maxHeartbeats 16000000 in
set_option maxRecDepth 100000 in
theorem agrees_walk (many : Int) (lo tao : Option Addr) (lc tcp : Nat) (l : List ByteArray) (us : List TU) (w : World) (hm : -9223372036854775808 ≤ many ∧ many ≤ 9223372036854775807) (hL : TextsAt w lo l) (hs : ∀ s ∈ l, s.size ≤ 140737488351232) (hlc : l.length ≤ lc) (hD : TUs w tao us) :
    Calls Try.prog 4 #[.int .i64 many, .slice lo l.length lc, .slice tao us.length tcp] w fun e w' => e = .returned (.bool true) ∧ Below w.heap.size w w' := by
  go_enter Try.func4, Try.ntmps4
  refine wp_seq (reg_mono (aa_r0 (by kernel_rfl) _ (v := ⟨_, _, _, _, _, _, _, _, _, _, _, _, _, _, _, _, _, _, _, _, _, _, _⟩) ⟨rfl, rfl, rfl, rfl, rfl, rfl, rfl, rfl, rfl, rfl, rfl, rfl, rfl, rfl, rfl, rfl, rfl, rfl, rfl, rfl, rfl, rfl, rfl, rfl, rfl⟩ ?_))
  intro a0 F0
  try dsimp only at F0
  refine wp_seq (reg_mono (aa_r1 (R := fun W => Below w.heap.size w W) (by kernel_rfl) _ F0 (pexamples w) ?_))
  intro a1 w1 F1 b1
  try dsimp only at F1
  obtain ⟨pk, hpk, hpick⟩ := ppickN many 7 w1 hm (by omega)
  refine wp_seq (reg_mono (aa_r2 (R := fun W => W = w1) (by kernel_rfl) _ F1 rfl hpk (hpick w1) ?_))
  rintro a2 w2 F2 rfl
  try dsimp only at F2
  obtain ⟨n, hn⟩ : ∃ n, pk + 1 = n := ⟨_, rfl⟩
  rw [hn] at F2
  have hn0 : 0 < n := by omega
  have hn7 : n ≤ 7 := by omega
  clear hpick hn hpk F0 F1
  obtain ⟨m, hmm⟩ : ∃ m : Nat, min (l.length : Int) 10 = (m : Int) := ⟨min l.length 10, by omega⟩
  have hm10 : m ≤ 10 := by omega
  have hml : m ≤ l.length := by omega
  refine wp_seq (reg_mono (aa_r3 (by kernel_rfl) _ F2 rfl hmm (by omega) ?_))
  intro a3' F3'
  try dsimp only at F3'
  have hLg : TextsAt w lo (l.take m) := hL.take m
  have hsg : ∀ s ∈ l.take m, s.size ≤ 140737488351232 := fun s h => hs s (List.mem_of_mem_take h)
  have hlg : (l.take m).length = m := by rw [List.length_take]; omega
  generalize l.take m = lg at *
  clear hL hs hlc hmm hml F2
  refine wp_seq (reg_mono (aa_r4 (by kernel_rfl) _ F3' ?_))
  intro a3 F3
  try dsimp only at F3
  clear F3'
  -- the nodes
  refine wp_midR (fun a W => ∃ (v : Vaa) (no : Option Addr) (nc : Nat), Faa a v ∧ v.v1 = .slice lo m lc ∧ v.v2 = .slice tao us.length tcp ∧ v.v6 = .bool false ∧ v.v7 = .bool true ∧ v.v8 = .int .i64 (n : Int) ∧ v.v9 = .slice no n nc ∧ W.ownsRow w.heap.size 3 1 (.slice no n nc) n ((rangeI n).map (.int .i64)) ∧ Below w.heap.size w W) ?_ ?_
  · refine wp_seq (reg_mono (aa_r5 (by kernel_rfl) _ F3 ?_))
    intro a4 F4
    try dsimp only at F4
    refine wp_block (wp_loop (fun a W => ∃ (k : Nat) (v : Vaa) (no : Option Addr) (nc : Nat), k ≤ n ∧ Faa a v ∧ v.v1 = .slice lo m lc ∧ v.v2 = .slice tao us.length tcp ∧ v.v6 = .bool false ∧ v.v7 = .bool true ∧ v.v8 = .int .i64 (n : Int) ∧ v.v9 = .slice no k nc ∧ v.v10 = .int .i64 (k : Int) ∧ W.ownsRow w.heap.size 3 1 (.slice no k nc) k ((rangeI k).map (.int .i64)) ∧ Below w.heap.size w W) (fun a _ => n - (intOf (a.tmps.getD 10 undef)).toNat) ⟨0, _, none, 0, Nat.zero_le _, F4, rfl, rfl, rfl, rfl, rfl, rfl, rfl, World.ownsRow_nil _ _ _ _, b1⟩ ?_)
    rintro a W ⟨k, v, no, nc, hk, F, q1, q2, q6, q7, q8, q9, q10, row, bW⟩
    obtain ⟨v0, v1, v2, v6, v7, v8, v9, v10, v11, v12, v13, v14, v15, v16, v17, v18, v19, v20, v21, v22, v23, v24, v89⟩ := v
    simp only at q1 q2 q6 q7 q8 q9 q10
    subst q1 q2 q6 q7 q8 q9 q10
    refine wp_seq (wp_seq (reg_mono (aa_r6 (by kernel_rfl) _ F rfl rfl ?_)))
    intro a5 F5 g5
    by_cases hlt : k < n
    case neg =>
      rw [decide_eq_false (by omega)] at g5
      obtain rfl : k = n := by omega
      exact wp_cond_false g5 (wp_exit ⟨_, no, nc, F5, rfl, rfl, rfl, rfl, rfl, rfl, row, bW⟩)
    rw [decide_eq_true (by omega)] at g5
    refine wp_cond_true g5 (wp_skip ?_)
    show Code.wp _ _ _ _ _
    obtain ⟨ta, tc, w7, hr, hA⟩ := app_one 22 3 1 8 (.int .i64 0) Try.underlying22 infoInt rfl (by omega) row #[.int .i64 (k : Int)] rfl (by intro u hu; simp at hu; subst hu; rfl) (by omega) (by omega) bW.size
    refine wp_seq (wp_block (reg_all (aa_r8 (by kernel_rfl) _ F5 rfl rfl hr ?_)))
    intro a7 F7
    try dsimp only at F7
    refine reg_mono (aa_r7 (by kernel_rfl) _ F7 rfl (by omega) ?_)
    intro a6 F6
    try dsimp only at F6
    refine ⟨⟨k + 1, _, ta, tc, hlt, F6, rfl, rfl, rfl, rfl, rfl, rfl, rfl, ?_, bW.trans (hA.below (fun j e => (row.lt j (by rw [ownBlock_slice]; exact e)).1) bW.size)⟩, size14 hlt F.s10 F6.s10⟩
    rw [rangeI_snoc, List.map_append]
    exact hA.row
  rintro a W ⟨v, no, nc, F, q1, q2, q6, q7, q8, q9, nrow, bW⟩
  obtain ⟨v0, v1, v2, v6, v7, v8, v9, v10, v11, v12, v13, v14, v15, v16, v17, v18, v19, v20, v21, v22, v23, v24, v89⟩ := v
  simp only at q1 q2 q6 q7 q8 q9
  subst q1 q2 q6 q7 q8 q9
  clear F3 b1
  refine wp_seq (reg_mono (aa_r9 (by kernel_rfl) _ F ?_))
  intro a8 F8
  try dsimp only at F8
  clear F
  -- the orders
  refine wp_midR (fun a W => ∃ (v : Vaa) (S : List (OL × OS)) (g oc : Nat), Faa a v ∧ v.v2 = .slice tao us.length tcp ∧ v.v6 = .bool false ∧ v.v7 = .bool true ∧ v.v8 = .int .i64 (n : Int) ∧ v.v11 = .slice (some ⟨g, 0, none⟩) n oc ∧ S.length = n ∧ AllS (fun i o => o = OS.new (i : Int) (rangeI n) lg) S ∧ EnI w W (fun j => j = g) S g oc) ?_ ?_
  · refine wp_seq (reg_mono (aa_r10 (by kernel_rfl) _ F8 ?_))
    intro a9 F9
    try dsimp only at F9
    refine wp_block (wp_loop (fun a W => ∃ (k : Nat) (v : Vaa) (S : List (OL × OS)) (oo : Option Addr) (oc : Nat), k ≤ n ∧ Faa a v ∧ v.v1 = .slice lo m lc ∧ v.v2 = .slice tao us.length tcp ∧ v.v6 = .bool false ∧ v.v7 = .bool true ∧ v.v8 = .int .i64 (n : Int) ∧ v.v9 = .slice no n nc ∧ v.v11 = .slice oo k oc ∧ v.v12 = .int .i64 (k : Int) ∧ S.length = k ∧ AllS (fun i o => o = OS.new (i : Int) (rangeI n) lg) S ∧ Group w W (fun j => oo.map Addr.block = some j ∨ no.map Addr.block = some j) S ∧ W.ownsRow w.heap.size 26 1 (.slice oo k oc) k (ptrC S) ∧ W.ownsRow w.heap.size 3 1 (.slice no n nc) n ((rangeI n).map (.int .i64))) (fun a _ => n - (intOf (a.tmps.getD 12 undef)).toNat) ⟨0, _, [], none, 0, Nat.zero_le _, F9, rfl, rfl, rfl, rfl, rfl, rfl, rfl, rfl, rfl, fun i h => by simp at h, Group.nil bW (fun j h => by rcases h with h | h; cases h; exact (nrow.lt j (by rw [ownBlock_slice]; exact h)).2), World.ownsRow_nil _ _ _ _, nrow⟩ ?_)
    clear F8 F9 bW nrow
    rintro a W ⟨k, v, S, oo, oc, hk, F, q1, q2, q6, q7, q8, q9, q11, q12, hS, hP, hG, orow, nrow⟩
    obtain ⟨v0, v1, v2, v6, v7, v8, v9, v10, v11, v12, v13, v14, v15, v16, v17, v18, v19, v20, v21, v22, v23, v24, v89⟩ := v
    simp only at q1 q2 q6 q7 q8 q9 q11 q12
    subst q1 q2 q6 q7 q8 q9 q11 q12
    refine wp_seq (wp_seq (reg_mono (aa_r11 (by kernel_rfl) _ F rfl rfl ?_)))
    intro a10 F10 g10
    by_cases hlt : k < n
    case neg =>
      rw [decide_eq_false (by omega)] at g10
      obtain rfl : k = n := by omega
      have hg : ∃ g, oo = some ⟨g, 0, none⟩ := by
        obtain ⟨g, e, _⟩ := ptr_cell (row_base orow (Nat.zero_le _)) 0 (by omega)
        exact ⟨g, e⟩
      obtain ⟨g, rfl⟩ := hg
      refine wp_cond_false g10 (wp_exit ⟨_, S, g, oc, F10, rfl, rfl, rfl, rfl, rfl, hS, hP, ?_⟩)
      refine ⟨hG.reX (fun i hi j hj hx => hG.xa i hi j hj (.inl (by rw [hx]; rfl))) (fun j hx => by rw [hx]; exact (orow.lt g rfl).2), ?_, rfl⟩
      rw [hS]
      exact row_base orow (Nat.zero_le _)
    rw [decide_eq_true (by omega)] at g10
    refine wp_cond_true g10 (wp_skip ?_)
    show Code.wp _ _ _ _ _
    have hN : IntsAt W no (rangeI n) := by
      have := nrow
      rw [← rangeI_length n] at this
      rw [show (rangeI (rangeI n).length) = rangeI n by rw [rangeI_length]] at this
      exact ints_own this
    have hnew : Calls Try.prog 8 #[.int .i64 (k : Int), .slice no n nc, .slice lo m lc] W fun e w' => ∃ (po : Option Addr) (ec : Int), e = .returned (.tuple #[.pointer po, .int .i64 ec]) ∧ (ec = 0 ∧ ∃ (L : OL) (b : Nat), po = some ⟨b, 0, none⟩ ∧ NW W w' L (OS.new (k : Int) (rangeI n) lg) b) := by
      have := pnew (k : Int) no lo nc lc (rangeI n) lg W hN (hLg.below hG.below) hsg (by omega) (rangeI_ok n k hlt hn7)
      rw [rangeI_length, hlg] at this
      exact this.mono fun e w' ⟨L, b, h1, h2⟩ => ⟨some ⟨b, 0, none⟩, 0, h1, rfl, L, b, rfl, h2⟩
    refine wp_seq (wp_block ?_)
    refine wp_seq (reg_mono (aa_r13 (by kernel_rfl) _ F10 rfl rfl rfl hnew ?_))
    rintro a12 w12 po ec F12 ⟨rfl, L, b, rfl, hNW⟩
    try dsimp only at F12
    refine wp_seq (wp_seq (reg_mono (aa_r14 (by kernel_rfl) _ F12 rfl rfl ?_)))
    intro a13 F13 g13
    refine wp_cond_false g13 (wp_skip ?_)
    show Code.wp _ _ _ _ _
    have G2 := hG.snoc hNW
    have orow2 := below_row hNW.below orow
    have nrow2 := below_row hNW.below nrow
    have hsz : w.heap.size ≤ w12.heap.size := G2.below.size
    have hP2 : AllS (fun i o => o = OS.new (i : Int) (rangeI n) lg) (S ++ [(L, OS.new (k : Int) (rangeI n) lg)]) := hP.snoc (by rw [hS])
    obtain ⟨ta, tc, w15, hr, hA⟩ := app_one 51 26 1 8 (.pointer none) Try.underlying51 infoPtr rfl (by omega) orow2 #[.pointer (some ⟨b, 0, none⟩)] rfl (by intro u hu; simp at hu; subst hu; rfl) (by omega) (by omega) hsz
    refine reg_all (aa_r16 (by kernel_rfl) _ F13 rfl rfl hr ?_)
    intro a15 F15
    try dsimp only at F15
    refine reg_mono (aa_r12 (by kernel_rfl) _ F15 rfl (by omega) ?_)
    intro a11 F11
    try dsimp only at F11
    have hno : ∀ j, (Value.slice no n nc).ownBlock = some j → ¬ oo.map Addr.block = some j := fun j e e2 => row_ne nrow2 orow2 (by decide +kernel) e (by rw [ownBlock_slice]; exact e2)
    have nrow3 := hA.touch.row nrow2 hno
    refine ⟨⟨k + 1, _, S ++ [(L, OS.new (k : Int) (rangeI n) lg)], ta, tc, hlt, F11, rfl, rfl, rfl, rfl, rfl, rfl, rfl, rfl, by simp [hS], hP2, ?_, ?_, nrow3⟩, size14 hlt F.s12 F11.s12⟩
    · refine G2.wrote hA.touch (fun j hj e => ⟨.inl e, (orow.lt j (by rw [ownBlock_slice]; exact e)).1⟩) (fun j hx => ?_) (fun j hx => ?_)
      · rcases hx with e | e
        · rcases hA.new j e with e2 | e2
          · exact .inl (.inl e2)
          · exact .inr e2
        · exact .inl (.inr e)
      · rcases hx with e | e
        · exact (hA.row.lt j (by rw [ownBlock_slice]; exact e)).2
        · exact (nrow3.lt j (by rw [ownBlock_slice]; exact e)).2
    · have := hA.row
      rw [ptrC_snoc, hNW.b']
      exact this
  clear F8 nrow bW
  rintro a W ⟨v, S, g, oc, F, q2, q6, q7, q8, q11, hS, hP, hE⟩
  obtain ⟨v0, v1, v2, v6, v7, v8, v9, v10, v11, v12, v13, v14, v15, v16, v17, v18, v19, v20, v21, v22, v23, v24, v89⟩ := v
  simp only at q2 q6 q7 q8 q11
  subst q2 q6 q7 q8 q11
  -- what was told, what was sure
  refine wp_seq (reg_mono (aa_r17 (by kernel_rfl) _ F rfl hn7 ?_))
  intro a17 w17 F17 row17 b17
  try dsimp only at F17
  refine wp_seq (reg_mono (aa_r18 (by kernel_rfl) _ F17 rfl hn7 ?_))
  intro a18 w18 F18 row18 b18
  try dsimp only at F18
  have hAg := AgS.start hn0 hn7 hsg hS hP
  have hI0 : AaI w w18 n g oc W.heap.size w17.heap.size (List.replicate n 0) 10 S (OS.new 0 (rangeI n) lg) (fun _ => []) (fun _ => (none, 0)) (fun j => j = g ∨ j = W.heap.size ∨ j = w17.heap.size) := by
    have b2 := b17.trans (b18.mono b17.size)
    have hE18 := hE.further b2
    have r17 : w18.ownsRow W.heap.size 55 1 (.slice (some ⟨W.heap.size, 0, none⟩) n n) n (List.replicate n (.slice none 0 0)) := below_row b18 row17
    have l1 := (r17.lt W.heap.size rfl).2
    have l2 := (row18.lt w17.heap.size rfl).2
    refine ⟨hAg, rfl, hE18.reX (fun i hi j hj hx => ?_) (fun j hx => ?_) (.inl rfl), ⟨?_, (fun i _ => World.ownsRow_nil _ _ _ _), (fun i k _ _ _ j h => by cases h), (fun i _ t h => by cases h), (fun i _ t h => by cases h), (fun i _ j h => by cases h), ⟨.inr (.inl rfl), hE.grp.below.size⟩⟩, ?_, ⟨.inr (.inr rfl), ?_⟩, by simp, fun i h h2 => by simp, ?_⟩
    · have hl := (hE.grp.each i hi).lt hj
      rcases hx with rfl | rfl | rfl
      · exact hE.grp.xa i hi _ hj rfl
      · omega
      · have := b17.size; omega
    · rcases hx with rfl | rfl | rfl
      · exact hE18.grp.xl _ rfl
      · exact l1
      · exact l2
    · have e : (List.range n).map (rowV (fun _ => (none, 0)) (fun _ => [])) = List.replicate n (.slice none 0 0) := by
        apply List.ext_getElem?
        intro k
        by_cases hk : k < n
        · simp [hk, rowV]
        · rw [List.getElem?_eq_none (by simp; omega), List.getElem?_eq_none (by simp; omega)]
      rw [e]
      exact row_base r17 (Nat.zero_le _)
    · have e : uC (List.replicate n 0) = List.replicate n (.int .i64 0) := by simp [uC]
      rw [e]
      exact row_base row18 (Nat.zero_le _)
    · exact Nat.le_trans hE.grp.below.size b17.size
    · show lg.length ≤ 10; omega
  clear hE b17 b18 row17 row18 F17 F hAg hP hS
  generalize W.heap.size = tg at *
  generalize w17.heap.size = ug at *
  -- the turns
  refine wp_midR (fun a W => ∃ v : Vaa, Faa a v ∧ v.v7 = .bool true ∧ Below w.heap.size w W) ?_ ?_
  · refine wp_seq (reg_mono (aa_r19 (by kernel_rfl) _ F18 ?_))
    intro a19 F19
    try dsimp only at F19
    refine wp_block (wp_loop (fun a W => ∃ (k : Nat) (v : Vaa) (U : List Nat) (S : List (OL × OS)) (q : OS) (T : Nat → List TL) (R : Nat → Option Addr × Nat) (X : Nat → Prop), k ≤ 200 ∧ Faa a v ∧ v.v2 = .slice tao us.length tcp ∧ v.v6 = .bool false ∧ v.v7 = .bool true ∧ v.v8 = .int .i64 (n : Int) ∧ v.v11 = .slice (some ⟨g, 0, none⟩) n oc ∧ v.v15 = .slice (some ⟨tg, 0, none⟩) n n ∧ v.v16 = .slice (some ⟨ug, 0, none⟩) n n ∧ v.v17 = .int .i64 (k : Int) ∧ AaI w W n g oc tg ug U (10 + k) S q T R X ∧ ∀ i, (T i).length ≤ k) (fun a _ => 200 - (intOf (a.tmps.getD 17 undef)).toNat) ⟨0, _, _, _, _, _, _, _, by omega, F19, rfl, rfl, rfl, rfl, rfl, rfl, rfl, rfl, hI0, fun i => Nat.le_refl _⟩ ?_)
    clear F19 F18 hI0 hLg hsg hlg
    rintro a W ⟨k, v, U, S, q, T, R, X, hk, F, q2, q6, q7, q8, q11, q15, q16, q17, hI, hTl⟩
    obtain ⟨v0, v1, v2, v6, v7, v8, v9, v10, v11, v12, v13, v14, v15, v16, v17, v18, v19, v20, v21, v22, v23, v24, v89⟩ := v
    simp only at q2 q6 q7 q8 q11 q15 q16 q17
    subst q2 q6 q7 q8 q11 q15 q16 q17
    have hs17 : a.tmps.getD 17 undef = .int .i64 (k : Int) := F.s17
    by_cases hlt : k < us.length
    case neg =>
      refine wp_seq (wp_seq (reg_mono (aa_r20n (by kernel_rfl) _ F rfl rfl (by omega) ?_)))
      intro a20 F20 g20
      exact wp_cond_false g20 (wp_exit ⟨_, F20, rfl, hI.en.grp.below⟩)
    refine wp_seq (wp_seq (reg_mono (aa_r20y (by kernel_rfl) _ F rfl rfl (by omega) ?_)))
    intro a20 F20 g20
    by_cases h200 : k < 200
    case neg =>
      rw [decide_eq_false (by omega)] at g20
      exact wp_cond_false g20 (wp_exit ⟨_, F20, rfl, hI.en.grp.below⟩)
    rw [decide_eq_true (by omega)] at g20
    refine wp_cond_true g20 (wp_skip ?_)
    show Code.wp _ _ _ _ _
    obtain ⟨db, df, hdao, hdb, hDW⟩ := (hD.all.below hI.en.grp.below) k hlt
    have hdo := hD.ok _ (List.getElem_mem hlt)
    subst hdao
    generalize us[k] = d at *
    refine wp_seq (wp_block ?_)
    refine wp_seq (reg_mono (aa_r22 (by kernel_rfl) _ F20 rfl rfl hlt hDW ?_))
    intro a22 F22
    try dsimp only at F22
    have bu := (Below.refl W.heap.size W).alloc (Nat.le_refl _) (.cells #[.int .i64 d.kind, .int .i64 d.who, .int .i64 d.n, .int .i64 d.i, .string d.s] 54)
    have x22 := heap_alloc_new W (.cells #[.int .i64 d.kind, .int .i64 d.who, .int .i64 d.n, .int .i64 d.i, .string d.s] 54)
    have I22 := hI.further bu
    generalize W.heap.size = cb at *
    generalize W.alloc _ = w22 at *
    obtain ⟨wi, hwi, hpw⟩ := ppickN d.who n w22 hdo.2.1 (by omega)
    obtain ⟨kd, hkd, hpd⟩ := ppickN d.kind 4 w22 hdo.1 (by omega)
    refine wp_seq (reg_mono (aa_r23 (R := fun W => W = w22) (by kernel_rfl) _ F22 rfl rfl x22 (hpw w22) ?_))
    rintro a23 w23 F23 rfl
    try dsimp only at F23
    have hSn := I22.ag.len
    have h0S : 0 < S.length := by omega
    have hwS : wi < S.length := by omega
    have hq0 := I22.ag.q0 h0S
    have hqa := I22.ag.qa
    have hlq := I22.lq
    have hpos := I22.en.ptr 0 h0S
    have hpw0 := I22.en.ptr wi hwS
    have hED := I22.en.further (w' := w23.drew) ((Below.refl _ _).drew)
    have ID := I22.further (W' := w23.drew) ((Below.refl _ _).drew)
    clear F F20 F22 hI hdb hDW g20
    refine wp_midR (fun a W => ∃ (v : Vaa) (S : List (OL × OS)) (q : OS) (T : Nat → List TL) (R : Nat → Option Addr × Nat) (X : Nat → Prop), Faa a v ∧ v.v2 = .slice (some ⟨db, df, none⟩) us.length tcp ∧ v.v6 = .bool false ∧ v.v7 = .bool true ∧ v.v8 = .int .i64 (n : Int) ∧ v.v11 = .slice (some ⟨g, 0, none⟩) n oc ∧ v.v15 = .slice (some ⟨tg, 0, none⟩) n n ∧ v.v16 = .slice (some ⟨ug, 0, none⟩) n n ∧ v.v17 = .int .i64 (k : Int) ∧ AaI w W n g oc tg ug U (10 + (k + 1)) S q T R X ∧ ∀ i, (T i).length ≤ k + 1) ?_ ?_
    · refine wp_seq (reg_mono (aa_r24 (R := fun W => W = w23) (by kernel_rfl) _ F23 rfl x22 (hpd w23) ?_))
      rintro a24 w24 F24 rfl
      try dsimp only at F24
      refine wp_block ?_
      by_cases h0 : kd = 0
      · refine wp_seq (reg_mono (aa_r27 (by kernel_rfl) _ F24 rfl ?_))
        intro a27 F27 g27
        rw [decide_eq_true h0] at g27
        refine wp_cond_true g27 ?_
        have hpr : Calls Try.prog 13 #[.pointer (some ⟨S[0].1.b, 0, none⟩), .string d.s] w24.drew fun e w' => e = .returned (.tuple #[.int .i64 (q.propose d.s).2.1, .int .i64 (q.propose d.s).2.2]) ∧ ∃ L', EnI w w' X (S.set 0 (L', (q.propose d.s).1)) g oc ∧ Touch (fun j => ¬ X j) w24.drew w' := by
          have := gpropose (L := S[0].1) (o := S[0].2) hED.grp h0S rfl (by rw [hq0]; exact hqa.fine.ok) d.s hdo.2.2.2.2 (by rw [hq0]; omega)
          rw [hq0] at this
          exact this.mono fun e w' ⟨h1, h2⟩ => ⟨h1, by obtain ⟨L', _, h4, h5⟩ := hED.step h0S h2; exact ⟨L', h4, h5⟩⟩
        refine reg_all (aa_r28 (by kernel_rfl) _ F27 rfl rfl x22 hn0 hpos hpr ?_)
        rintro a28 w28 F28 ⟨L', hE', hT'⟩
        have hgr := (Fine.propose hqa.fine d.s hdo.2.2.2.2).2
        exact ⟨_, _, _, _, _, _, F28, rfl, rfl, rfl, rfl, rfl, rfl, rfl, rfl, ID.seq (I22.ag.propose L' d.s hdo.2.2.2.2) hgr.sure hE' hT' (by have := hgr.len; omega), fun i => Nat.le_succ_of_le (hTl i)⟩
      refine wp_seq (reg_mono (aa_r27 (by kernel_rfl) _ F24 rfl ?_))
      intro a27 F27 g27
      rw [decide_eq_false h0] at g27
      refine wp_cond_false g27 ?_
      by_cases h1 : kd = 1
      · refine wp_seq (reg_mono (aa_r29 (by kernel_rfl) _ F27 rfl ?_))
        intro a29 F29 g29
        rw [decide_eq_true h1] at g29
        refine wp_cond_true g29 ?_
        obtain ⟨pm, hpm, hpn⟩ := ppickN d.n 5 w24.drew hdo.2.2.1 (by omega)
        have hPk : ∀ W, Below w24.heap.size w24 W → Calls Try.prog 12 #[.int .i64 d.n, .int .i64 5] W fun e w' => e = .returned (.int .i64 (pm : Int)) ∧ Below W.heap.size W w' := fun W _ => (hpn W).mono fun e w' ⟨h1, h2⟩ => ⟨h1, by rw [h2]; exact Below.refl _ _⟩
        have hWt : ∀ W, Below w24.heap.size w24 W → Calls Try.prog 21 #[.pointer (some ⟨S[0].1.b, 0, none⟩), .int .i64 (wi : Int), .int .i64 (1 + (pm : Int))] W fun e w' => ∃ ao cp, e = .returned (.tuple #[.int .i64 (q.wants (wi : Int) (1 + (pm : Int))).1, .slice ao (q.wants (wi : Int) (1 + (pm : Int))).2.length cp]) ∧ w'.ownsRow W.heap.size 9 1 (.slice ao (q.wants (wi : Int) (1 + (pm : Int))).2.length cp) (q.wants (wi : Int) (1 + (pm : Int))).2.length (textC (q.wants (wi : Int) (1 + (pm : Int))).2) ∧ Below W.heap.size W w' := by
          intro W bW
          have := gwants (L := S[0].1) (o := S[0].2) (I22.further bW).en.grp h0S rfl (by rw [hq0]; exact hqa.fine.ok) (wi : Int) (1 + (pm : Int)) (by omega) (by rw [hq0]; omega)
          rw [hq0] at this
          refine this.mono ?_
          rintro e w' ⟨ao, cp, rfl, h1, _, h2⟩
          exact ⟨ao, cp, rfl, h1, h2⟩
        by_cases hw1 : 1 ≤ wi
        case neg =>
          refine wp_seq (reg_mono (aa_r30 (by kernel_rfl) _ F29 rfl rfl rfl x22 hn0 hpos (I22.en.grp.xl g I22.en.gx) (by omega) hPk hWt ?_))
          intro a30 w30 ao cp F30 _ b30
          try dsimp only at F30
          refine wp_seq (reg_mono (aa_r31 (by kernel_rfl) _ F30 rfl ?_))
          intro a31 F31 g31
          rw [decide_eq_false (by omega)] at g31
          exact wp_cond_false g31 (wp_skip ⟨_, _, _, _, _, _, F31, rfl, rfl, rfl, rfl, rfl, rfl, rfl, rfl, (I22.further b30).le (by omega), fun i => Nat.le_succ_of_le (hTl i)⟩)
        have hwo := wants_of (o := q) (m := pm) hqa hwi hw1
        rw [hwo] at hWt
        simp only at hWt
        have hat := hqa.fine.ok.get wi
        have hTf : ∀ j (hj : j < ((q.log.drop (q.had.getD wi 0)).take (1 + pm)).length), q.log[q.had.getD wi 0 + j]? = some ((q.log.drop (q.had.getD wi 0)).take (1 + pm))[j] := fun j hj => by
          rw [List.length_take, List.length_drop] at hj
          rw [List.getElem_take, List.getElem_drop, List.getElem?_eq_getElem (by omega)]
        have hTs : ∀ s ∈ (q.log.drop (q.had.getD wi 0)).take (1 + pm), s.size ≤ 140737488351232 := fun s h => hqa.fine.ok.text s (List.mem_of_mem_drop (List.mem_of_mem_take h))
        generalize (q.log.drop (q.had.getD wi 0)).take (1 + pm) = tx at *
        generalize q.had.getD wi 0 = at0 at *
        refine wp_seq (reg_mono (aa_r30 (by kernel_rfl) _ F29 rfl rfl rfl x22 hn0 hpos (I22.en.grp.xl g I22.en.gx) (by omega) hPk hWt ?_))
        intro a30 w30 ao cp F30 row30 b30
        try dsimp only at F30
        refine wp_seq (reg_mono (aa_r31 (by kernel_rfl) _ F30 rfl ?_))
        intro a31 F31 g31
        rw [decide_eq_true (by omega)] at g31
        refine wp_cond_true g31 ?_
        have I30 := (I22.further b30).moreX (X' := fun j => X j ∨ ao.map Addr.block = some j) (fun j h => .inl h) (fun j h => by
          rcases h with h | h
          · exact .inl h
          · have hl := row30.lt j (by rw [ownBlock_slice]; exact h)
            refine .inr ⟨fun i hi hj => ?_, hl.2⟩
            have := (I22.en.grp.each i hi).lt hj
            omega)
        have ID30 := I30.further (W' := w30.drew) ((Below.refl _ _).drew)
        obtain ⟨ta, tc, w3, hr, hA⟩ := app_one 55 tTell 3 40 (.agg #[.int .i64 0, .int .i64 0, .slice none 0 0]) Try.underlying55 infoTell rfl (by omega) (ID30.told.each wi hwi) #[.int .i64 (at0 : Int), .int .i64 (q.sure : Int), .slice ao tx.length cp] rfl (by intro u hu; simp at hu; rcases hu with rfl | rfl | rfl <;> rfl) (by have := hTl wi; omega) (by omega) (Nat.zero_le _)
        have hrow3 : w3.ownsRow 0 tTells 1 (.slice (some ⟨tg, 0, none⟩) n n) n ((List.range n).map (rowV R T)) := hA.touch.row ID30.told.row fun k e e2 => row_ne (ID30.told.each wi hwi) ID30.told.row (by decide +kernel) (by unfold rowV; rw [ownBlock_slice]; exact e2) e
        have hs0 := gsure (L := S[0].1) (o := S[0].2) ID30.en.grp h0S rfl
        rw [hq0] at hs0
        refine reg_all (aa_r32 (by kernel_rfl) _ F31 rfl rfl rfl rfl rfl hn0 (I30.en.ptr 0 h0S) hwi (I30.told.cell wi hwi) hr ⟨_, (hrow3.cellAt wi (by omega)).trans (List.getElem?_eq_getElem (by simp; exact hwi))⟩ (hrow3.frozenAt wi) hs0 ?_)
        intro a32 F32
        obtain ⟨R', X', I32⟩ := ID30.tell hwi hw1 (t := ⟨at0, q.sure, tx, ao, cp⟩) ⟨⟨Nat.le_refl _, hat, hTf⟩, hTs⟩ (row_base row30 (Nat.zero_le _)) (fun j h => .inr h) hA
        refine ⟨_, _, _, _, _, _, F32, rfl, rfl, rfl, rfl, rfl, rfl, rfl, rfl, I32.le (by omega), fun i => ?_⟩
        by_cases e : i = wi
        · subst e; rw [updT_same]; simp; exact hTl i
        · rw [updT_ne _ _ e]; exact Nat.le_succ_of_le (hTl i)
      refine wp_seq (reg_mono (aa_r29 (by kernel_rfl) _ F27 rfl ?_))
      intro a29 F29 g29
      rw [decide_eq_false h1] at g29
      refine wp_cond_false g29 ?_
      by_cases h2 : kd = 2
      · refine wp_seq (reg_mono (aa_r33 (by kernel_rfl) _ F29 rfl ?_))
        intro a33 F33 g33
        rw [decide_eq_true h2] at g33
        refine wp_cond_true g33 ?_
        refine wp_seq (reg_mono (aa_r34 (by kernel_rfl) _ F33 rfl rfl hwi (I22.told.cell wi hwi) ?_))
        intro a34 F34 g34
        by_cases hk0 : 0 < (T wi).length
        case neg =>
          rw [decide_eq_false hk0] at g34
          exact wp_cond_false g34 (wp_skip ⟨_, _, _, _, _, _, F34, rfl, rfl, rfl, rfl, rfl, rfl, rfl, rfl, I22.le (by omega), fun i => Nat.le_succ_of_le (hTl i)⟩)
        rw [decide_eq_true hk0] at g34
        refine wp_cond_true g34 ?_
        have hw1 : 1 ≤ wi := by
          rcases Nat.eq_zero_or_pos wi with e | e
          · rw [e, I22.t0] at hk0; simp at hk0
          · exact e
        obtain ⟨pi, hpi, hpp⟩ := ppickN d.i (T wi).length w24 hdo.2.2.2.1 (by have := hTl wi; omega)
        obtain ⟨eb, heb, e0, e1, e2⟩ := tell_cells (I22.told.each wi hwi) pi hpi
        have hcw := I22.told.cell wi hwi
        unfold rowV at hcw
        rw [heb] at hcw
        have htm : (T wi)[pi] ∈ T wi := List.getElem_mem hpi
        refine wp_seq (reg_mono (aa_r35 (by kernel_rfl) _ F34 rfl rfl rfl x22 hwi hpi hcw e0 e1 e2 hpp ?_))
        intro a35 w35 F35 x35 b35
        try dsimp only at F35
        have htOf := (I22.ag.told wi hwi _ htm)
        generalize (T wi)[pi] = t at *
        obtain ⟨tat, tsu, ttx, xao, xcp⟩ := t
        simp only at x35 htOf e0 e1 e2
        have hxlt := heap_lt x35
        have I35 := (I22.further b35).moreX (X' := fun j => X j ∨ j = w24.heap.size) (fun j h => .inl h) (fun j h => by
          rcases h with h | h
          · exact .inl h
          · rw [h]
            refine .inr ⟨fun i hi hj => ?_, hxlt⟩
            have := (I22.en.grp.each i hi).lt hj
            omega)
        generalize w24.heap.size = xb at *
        generalize hX' : (fun j => X j ∨ j = xb) = X' at *
        have hxX : X' xb := by rw [← hX']; exact .inr rfl
        have hat : tat ≤ 1000000 := by have := htOf.1.at0; simp only at this; omega
        clear x22 hpos hpw0 hED ID I22 e0 e1 e2 hcw hpp
        refine wp_midR (fun a W => ∃ (v : Vaa) (S : List (OL × OS)), Faa a v ∧ v.v2 = .slice (some ⟨db, df, none⟩) us.length tcp ∧ v.v6 = .bool false ∧ v.v7 = .bool true ∧ v.v8 = .int .i64 (n : Int) ∧ v.v11 = .slice (some ⟨g, 0, none⟩) n oc ∧ v.v15 = .slice (some ⟨tg, 0, none⟩) n n ∧ v.v16 = .slice (some ⟨ug, 0, none⟩) n n ∧ v.v17 = .int .i64 (k : Int) ∧ v.v19 = .int .i64 (wi : Int) ∧ v.v22 = .pointer (some ⟨xb, 0, none⟩) ∧ AaI w W n g oc tg ug U (10 + k) S q T R X' ∧ W.heap[xb]? = some (.cells #[.int .i64 (tat : Int), .int .i64 (tsu : Int), .slice xao ttx.length xcp] tTell (0, 0))) ?_ ?_
        · refine wp_seq (reg_mono (aa_r36 (by kernel_rfl) _ F35 ?_))
          intro a36 F36
          try dsimp only at F36
          refine wp_block (wp_loop (fun a W => ∃ (j : Nat) (v : Vaa) (S : List (OL × OS)), j ≤ ttx.length ∧ Faa a v ∧ v.v2 = .slice (some ⟨db, df, none⟩) us.length tcp ∧ v.v6 = .bool false ∧ v.v7 = .bool true ∧ v.v8 = .int .i64 (n : Int) ∧ v.v11 = .slice (some ⟨g, 0, none⟩) n oc ∧ v.v15 = .slice (some ⟨tg, 0, none⟩) n n ∧ v.v16 = .slice (some ⟨ug, 0, none⟩) n n ∧ v.v17 = .int .i64 (k : Int) ∧ v.v19 = .int .i64 (wi : Int) ∧ v.v22 = .pointer (some ⟨xb, 0, none⟩) ∧ v.v23 = .int .i64 (j : Int) ∧ AaI w W n g oc tg ug U (10 + k) S q T R X' ∧ W.heap[xb]? = some (.cells #[.int .i64 (tat : Int), .int .i64 (tsu : Int), .slice xao ttx.length xcp] tTell (0, 0))) (fun a _ => ttx.length - (intOf (a.tmps.getD 23 undef)).toNat) ⟨0, _, S, Nat.zero_le _, F36, rfl, rfl, rfl, rfl, rfl, rfl, rfl, rfl, rfl, rfl, rfl, I35, x35⟩ ?_)
          clear F36 F35 F34 F33 F29 F27 F24 F23 I35 x35 b35 hSn h0S hwS hq0 hxlt S
          rintro a W ⟨j, v, S, hj, F, q2, q6, q7, q8, q11, q15, q16, q17, q19, q22, q23, hI, hx⟩
          obtain ⟨v0, v1, v2, v6, v7, v8, v9, v10, v11, v12, v13, v14, v15, v16, v17, v18, v19, v20, v21, v22, v23, v24, v89⟩ := v
          simp only at q2 q6 q7 q8 q11 q15 q16 q17 q19 q22 q23
          subst q2 q6 q7 q8 q11 q15 q16 q17 q19 q22 q23
          refine wp_seq (wp_seq (reg_mono (aa_r37 (by kernel_rfl) _ F rfl rfl hx ?_)))
          intro a37 F37 g37
          by_cases hjl : j < ttx.length
          case neg =>
            rw [decide_eq_false (by omega)] at g37
            exact wp_cond_false g37 (wp_exit ⟨_, S, F37, rfl, rfl, rfl, rfl, rfl, rfl, rfl, rfl, rfl, rfl, hI, hx⟩)
          rw [decide_eq_true (by omega)] at g37
          refine wp_cond_true g37 (wp_skip ?_)
          show Code.wp _ _ _ _ _
          have hwS : wi < S.length := by rw [hI.ag.len]; exact hwi
          have hTt := texts_own (hI.told.texts wi hwi _ htm)
          obtain ⟨tb, tf, hxao, _, htc⟩ := hTt j hjl
          simp only at hxao htc
          subst hxao
          have hao := hI.ag.each wi hwS
          have hadd9 := hao.add hw1 htOf.1 j hjl (htOf.2 _ (List.getElem_mem hjl))
          have hgr := (Fine.add hao.fine ((tat + j : Nat) : Int) ttx[j] (htOf.2 _ (List.getElem_mem hjl))).2
          simp only at hadd9
          rw [Int.natCast_add] at hadd9 hgr
          have hED := hI.en.further (w' := W.drew) ((Below.refl _ _).drew)
          have ID := hI.further (W' := W.drew) ((Below.refl _ _).drew)
          have hadd : Calls Try.prog 15 #[.pointer (some ⟨S[wi].1.b, 0, none⟩), .int .i64 ((tat : Int) + (j : Int)), .string ttx[j]] W.drew fun e w' => e = .returned (.bool (S[wi].2.add ((tat : Int) + (j : Int)) ttx[j]).2) ∧ ∃ L', EnI w w' X' (S.set wi (L', (S[wi].2.add ((tat : Int) + (j : Int)) ttx[j]).1)) g oc ∧ Touch (fun j => ¬ X' j) W.drew w' := by
            have hl := hao.log.length_le
            exact (gadd (L := S[wi].1) (o := S[wi].2) hED.grp hwS rfl hao.fine.ok ((tat : Int) + (j : Int)) ttx[j] (htOf.2 _ (List.getElem_mem hjl)) (by have := hI.lq; omega)).mono fun e w' ⟨h1, h2⟩ => ⟨h1, by obtain ⟨L', _, h4, h5⟩ := hED.step hwS h2; exact ⟨L', h4, h5⟩⟩
          have hj7 : j ≤ 1000000 := by
            have := htOf.1.texts j hjl
            have := (List.getElem?_eq_some_iff.1 this).1
            have := hI.lq
            omega
          refine wp_seq (wp_block (reg_all (aa_r39 (by kernel_rfl) _ F37 rfl rfl rfl rfl hx hwi (hI.en.ptr wi hwS) hjl hat hj7 htc hadd ?_)))
          rintro a39 w39 F39 ⟨L', hE', hT'⟩
          try dsimp only at F39
          refine reg_mono (aa_r38 (by kernel_rfl) _ F39 rfl (by omega) ?_)
          intro a38 F38
          try dsimp only at F38
          exact ⟨⟨j + 1, _, _, hjl, F38, rfl, rfl, rfl, rfl, rfl, rfl, rfl, rfl, rfl, rfl, rfl, ID.oth hwS (hI.ag.other L' hwS hw1 hadd9) hgr.sure hE' hT', hT'.at hx (fun h => h hxX)⟩, size14 hjl F.s23 F38.s23⟩
        clear F35 F34 F33 F29 F27 F24 F23 I35 x35 b35 hSn h0S hwS hq0 hxlt S
        rintro a W ⟨v, S, F, q2, q6, q7, q8, q11, q15, q16, q17, q19, q22, hI, hx⟩
        obtain ⟨v0, v1, v2, v6, v7, v8, v9, v10, v11, v12, v13, v14, v15, v16, v17, v18, v19, v20, v21, v22, v23, v24, v89⟩ := v
        simp only at q2 q6 q7 q8 q11 q15 q16 q17 q19 q22
        subst q2 q6 q7 q8 q11 q15 q16 q17 q19 q22
        have hwS : wi < S.length := by rw [hI.ag.len]; exact hwi
        have hao := hI.ag.each wi hwS
        have hlr := hao.learn htOf.1.sure
        have hgr := (Fine.learn hao.fine (tsu : Int)).2
        simp only at hlr
        have hED := hI.en.further (w' := W.drew) ((Below.refl _ _).drew)
        have ID := hI.further (W' := W.drew) ((Below.refl _ _).drew)
        have hsq := htOf.1.sure
        have hsl := hqa.fine.ok.sure
        have hl := hao.log.length_le
        have hlc : Calls Try.prog 19 #[.pointer (some ⟨S[wi].1.b, 0, none⟩), .int .i64 (tsu : Int)] W.drew fun e w' => e = .returned (.bool (S[wi].2.learn (tsu : Int)).2) ∧ ∃ L', EnI w w' X' (S.set wi (L', (S[wi].2.learn (tsu : Int)).1)) g oc ∧ Touch (fun j => ¬ X' j) W.drew w' :=
          (glearn (L := S[wi].1) (o := S[wi].2) hED.grp hwS rfl hao.fine.ok (tsu : Int) (by omega) (by simp only at hsq; omega) (by omega)).mono fun e w' ⟨h1, h2⟩ => ⟨h1, by obtain ⟨L', _, h4, h5⟩ := hED.step hwS h2; exact ⟨L', h4, h5⟩⟩
        refine reg_all (aa_r40 (by kernel_rfl) _ F rfl rfl rfl hx hwi (hI.en.ptr wi hwS) hlc ?_)
        rintro a40 w40 F40 ⟨L', hE', hT'⟩
        exact ⟨_, _, _, _, _, _, F40, rfl, rfl, rfl, rfl, rfl, rfl, rfl, rfl, (ID.oth hwS (hI.ag.other L' hwS hw1 hlr) hgr.sure hE' hT').le (by omega), fun i => Nat.le_succ_of_le (hTl i)⟩
      refine wp_seq (reg_mono (aa_r33 (by kernel_rfl) _ F29 rfl ?_))
      intro a33 F33 g33
      rw [decide_eq_false h2] at g33
      refine wp_cond_false g33 ?_
      refine wp_seq (reg_mono (aa_r25 (by kernel_rfl) _ F33 rfl ?_))
      intro a25 F25 g25
      by_cases hw1 : 0 < wi
      case neg =>
        rw [decide_eq_false hw1] at g25
        exact wp_cond_false g25 (wp_skip ⟨_, _, _, _, _, _, F25, rfl, rfl, rfl, rfl, rfl, rfl, rfl, rfl, I22.le (by omega), fun i => Nat.le_succ_of_le (hTl i)⟩)
      rw [decide_eq_true hw1] at g25
      refine wp_cond_true g25 ?_
      have hlw := (I22.ag.each wi hwS).log.length_le
      have hhas : Calls Try.prog 17 #[.pointer (some ⟨S[0].1.b, 0, none⟩), .int .i64 (wi : Int), .int .i64 (S[wi].2.log.length : Int)] w24.drew fun e w' => e = .returned (.bool (q.has (wi : Int) (S[wi].2.log.length : Int)).2) ∧ ∃ L', EnI w w' X (S.set 0 (L', (q.has (wi : Int) (S[wi].2.log.length : Int)).1)) g oc ∧ Touch (fun j => ¬ X j) w24.drew w' := by
        have := ghas (L := S[0].1) (o := S[0].2) hED.grp h0S rfl (by rw [hq0]; exact hqa.fine.ok) (wi : Int) (S[wi].2.log.length : Int) (by rw [hq0]; omega)
        rw [hq0] at this
        exact this.mono fun e w' ⟨h1, h2⟩ => ⟨h1, by obtain ⟨L', _, h4, h5⟩ := hED.step h0S h2; exact ⟨L', h4, h5⟩⟩
      refine reg_all (aa_r26 (by kernel_rfl) _ F25 rfl rfl hn0 hpos hwi hpw0 hhas (glen (L := S[wi].1) (o := S[wi].2) hED.grp hwS rfl) ?_)
      rintro a26 w26 F26 ⟨L', hE', hT'⟩
      have hgr := (Fine.has hqa.fine (wi : Int) (S[wi].2.log.length : Int)).2
      have h9 : (q.has (wi : Int) (S[wi].2.log.length : Int)).1.log = q.log := by unfold OS.has; split <;> rfl
      exact ⟨_, _, _, _, _, _, F26, rfl, rfl, rfl, rfl, rfl, rfl, rfl, rfl, ID.seq (I22.ag.has L' wi hwS hw1) hgr.sure hE' hT' (by rw [h9]; omega), fun i => Nat.le_succ_of_le (hTl i)⟩
    clear F23 I22 ID hED hpos hpw0 hlq hqa hq0 hwS h0S hSn x22 bu hpd hpw hTl S q T R X
    rintro a W ⟨v, S, q, T, R, X, F, q2, q6, q7, q8, q11, q15, q16, q17, hI, hTl⟩
    obtain ⟨v0, v1, v2, v6, v7, v8, v9, v10, v11, v12, v13, v14, v15, v16, v17, v18, v19, v20, v21, v22, v23, v24, v89⟩ := v
    simp only at q2 q6 q7 q8 q11 q15 q16 q17
    subst q2 q6 q7 q8 q11 q15 q16 q17
    have hag := pagree hI.ag hI.en hI.srow hI.xu.1 hI.xu.2 hI.ul (fun i h => hI.su i h _) (by have := hI.lq; omega)
    refine wp_seq (reg_mono (aa_r41 (R := fun W' => EnI w W' X S g oc ∧ W'.ownsRow 0 3 1 (.slice (some ⟨ug, 0, none⟩) n n) n (uC (sureS S)) ∧ Touch (fun j => j = ug) W W') (by kernel_rfl) _ F rfl rfl hag ?_))
    rintro a41 w41 F41 ⟨hE', hu', hT'⟩
    try dsimp only at F41
    refine wp_seq (reg_mono (aa_r42 (by kernel_rfl) _ F41 rfl ?_))
    intro a42 F42 g42
    refine wp_cond_false g42 (wp_skip ?_)
    show Code.wp _ _ _ _ _
    refine reg_mono (aa_r21 (by kernel_rfl) _ F42 rfl (by omega) ?_)
    intro a21 F21
    try dsimp only at F21
    exact ⟨⟨k + 1, _, _, _, _, _, _, _, by omega, F21, rfl, rfl, rfl, rfl, rfl, rfl, rfl, rfl, hI.agreed hE' hu' hT', hTl⟩, size14 h200 hs17 F21.s17⟩
  rintro a W' ⟨v, F, q7, bel⟩
  refine wp_seq (reg_mono (aa_r44 (by kernel_rfl) _ F q7 ?_))
  intro a46 F46
  refine wp_ret ?_
  refine aa_ret (x := true) F46 rfl ?_
  exact ⟨rfl, bel⟩
end Go.Proofs.Ytjgbgbgajadgnaa
