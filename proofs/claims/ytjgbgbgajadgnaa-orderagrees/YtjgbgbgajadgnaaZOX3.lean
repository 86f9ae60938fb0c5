/-
  OrderEnds: the walk.
-/
import Derived.Test.YtjgbgbgajadgnaaZOX2
namespace Go.Proofs.Ytjgbgbgajadgnaa
open Go.RowKit

set_option linter.unusedSimpArgs false
set_option linter.unusedVariables false
/-- While the sequencer orders; while the others take; while they learn. -/
def P3 (n : Nat) (L : List ByteArray) (i : Nat) (o : OS) : Prop := (i = 0 → EQ0 n L (fun _ => 0) o) ∧ (i ≠ 0 → EW n i [] 0 o)
def P4 (n : Nat) (L : List ByteArray) (w : Nat) (l : List ByteArray) (i : Nat) (o : OS) : Prop := (i = 0 → EQ0 n L (fun j => if j < w then L.length else 0) o) ∧ (i ≠ 0 → EW n i (if i < w then L else if i = w then l else []) 0 o)
def P6 (n : Nat) (L : List ByteArray) (w : Nat) (i : Nat) (o : OS) : Prop := (i = 0 → EQ0 n L (fun _ => L.length) o) ∧ (i ≠ 0 → EW n i L (if i < w then L.length else 0) o)
theorem wp_midR {P : Program} {c1 c2 : Code} {Q : Exit → Act → World → Prop} {a : Act} {w : World} (Mid : Act → World → Prop) (h1 : Code.wp P c1 (Exit.then Mid Q) a w) (h2 : ∀ a w, Mid a w → Code.wp P c2 Q a w) : Code.wp P (c1.seq c2) Q a w :=
  wp_seq (wp_mono h1 fun e a w q => by
    cases e with
    | normal => exact h2 a w q
    | _ => exact q)
theorem size14 {k m : Nat} (h : k < m) {a a' : Act} {s : Nat} (h1 : a.tmps.getD s undef = .int .i64 (k : Int)) (h2 : a'.tmps.getD s undef = .int .i64 ((k + 1 : Nat) : Int)) : m - (intOf (a'.tmps.getD s undef)).toNat < m - (intOf (a.tmps.getD s undef)).toNat := by
  rw [h1, h2]
  simp only [intOf]
  omega
theorem exc_lt {k n : Nat} {b : Bool} (h : b = decide ((k : Int) < (n : Int))) : (b = true → k < n) ∧ (b = false → n ≤ k) := by
  subst h
  simp
set_option maxHeartbeats 8000000 in
set_option maxRecDepth 100000 in
theorem ends_walk (many : Int) (lo : Option Addr) (lc : Nat) (l : List ByteArray) (w : World) (hm : -9223372036854775808 ≤ many ∧ many ≤ 9223372036854775807) (hL : TextsAt w lo l) (hs : ∀ s ∈ l, s.size ≤ 140737488351232) (hll : l.length ≤ 8796093021952) :
    Calls Try.prog 5 #[.int .i64 many, .slice lo l.length lc] w fun e w' => e = .returned (.bool true) ∧ Below w.heap.size w w' := by
  go_enter Try.func5, Try.ntmps5
  refine wp_seq (reg_mono (en_r0 (by kernel_rfl) _ (v := ⟨_, _, _, _, _, _, _, _, _, _, _, _, _, _, _, _, _, _, _, _, _, _, _⟩) ⟨rfl, rfl, rfl, rfl, rfl, rfl, rfl, rfl, rfl, rfl, rfl, rfl, rfl, rfl, rfl, rfl, rfl, rfl, rfl, rfl, rfl, rfl, rfl, rfl, rfl⟩ ?_))
  intro a0 F0
  try dsimp only at F0
  refine wp_seq (reg_mono (en_r1 (R := fun W => Below w.heap.size w W) (by kernel_rfl) _ F0 (pexamples w) ?_))
  intro a1 w1 F1 b1
  try dsimp only at F1
  obtain ⟨pk, hpk, hpick⟩ := ppickN many 7 w1 hm (by omega)
  refine wp_seq (reg_mono (en_r2 (R := fun W => W = w1) (by kernel_rfl) _ F1 rfl hpk (hpick w1) ?_))
  rintro a2 w2 F2 rfl
  try dsimp only at F2
  obtain ⟨n, hn⟩ : ∃ n, pk + 1 = n := ⟨_, rfl⟩
  rw [hn] at F2
  have hn0 : 0 < n := by omega
  have hn7 : n ≤ 7 := by omega
  clear hpick hn hpk F0 F1
  refine wp_seq (reg_mono (en_r3 (by kernel_rfl) _ F2 ?_))
  intro a3 F3
  try dsimp only at F3
  clear F2
  -- the nodes
  refine wp_midR (fun a W => ∃ (v : Ven) (no : Option Addr) (nc : Nat), Fen a v ∧ v.v0 = .int .i64 many ∧ v.v1 = .slice lo l.length lc ∧ v.v4 = .bool false ∧ v.v5 = .bool true ∧ v.v6 = .int .i64 (n : Int) ∧ v.v7 = .slice no n nc ∧ W.ownsRow w.heap.size 3 1 (.slice no n nc) n ((rangeI n).map (.int .i64)) ∧ Below w.heap.size w W) ?_ ?_
  · refine wp_seq (reg_mono (en_r4 (by kernel_rfl) _ F3 ?_))
    intro a4 F4
    try dsimp only at F4
    refine wp_block (wp_loop (fun a W => ∃ (k : Nat) (v : Ven) (no : Option Addr) (nc : Nat), k ≤ n ∧ Fen a v ∧ v.v0 = .int .i64 many ∧ v.v1 = .slice lo l.length lc ∧ v.v4 = .bool false ∧ v.v5 = .bool true ∧ v.v6 = .int .i64 (n : Int) ∧ v.v7 = .slice no k nc ∧ v.v8 = .int .i64 (k : Int) ∧ W.ownsRow w.heap.size 3 1 (.slice no k nc) k ((rangeI k).map (.int .i64)) ∧ Below w.heap.size w W) (fun a _ => n - (intOf (a.tmps.getD 8 undef)).toNat) ⟨0, _, none, 0, Nat.zero_le _, F4, rfl, rfl, rfl, rfl, rfl, rfl, rfl, World.ownsRow_nil _ _ _ _, b1⟩ ?_)
    rintro a W ⟨k, v, no, nc, hk, F, q0, q1, q4, q5, q6, q7, q8, row, bW⟩
    obtain ⟨v0, v1, v4, v5, v6, v7, v8, v9, v10, v11, v12, v13, v14, v15, v16, v17, v18, v19, v20, v21, v22, v23, v24⟩ := v
    simp only at q0 q1 q4 q5 q6 q7 q8
    subst q0 q1 q4 q5 q6 q7 q8
    refine wp_seq (wp_seq (reg_mono (en_r5 (by kernel_rfl) _ F rfl rfl ?_)))
    intro a5 F5 g5
    by_cases hlt : k < n
    case neg =>
      rw [decide_eq_false (by omega)] at g5
      obtain rfl : k = n := by omega
      exact wp_cond_false g5 (wp_exit ⟨_, no, nc, F5, rfl, rfl, rfl, rfl, rfl, rfl, row, bW⟩)
    rw [decide_eq_true (by omega)] at g5
    refine wp_cond_true g5 (wp_skip ?_)
    show Code.wp _ _ _ _ _
    obtain ⟨ta, tc, w7, hr, hA⟩ := app_one 22 3 1 8 (.int .i64 0) Try.underlying22 infoInt rfl (by omega) row #[.int .i64 (k : Int)] rfl (by intro u hu; simp at hu; subst hu; rfl) (by omega) (by omega) bW.size
    refine wp_seq (wp_block (reg_all (en_r7 (by kernel_rfl) _ F5 rfl rfl hr ?_)))
    intro a7 F7
    try dsimp only at F7
    refine reg_mono (en_r6 (by kernel_rfl) _ F7 rfl (by omega) ?_)
    intro a6 F6
    try dsimp only at F6
    refine ⟨⟨k + 1, _, ta, tc, hlt, F6, rfl, rfl, rfl, rfl, rfl, rfl, rfl, ?_, bW.trans (hA.below (fun j e => (row.lt j (by rw [ownBlock_slice]; exact e)).1) bW.size)⟩, size14 hlt F.s8 F6.s8⟩
    rw [rangeI_snoc, List.map_append]
    exact hA.row
  rintro a W ⟨v, no, nc, F, q0, q1, q4, q5, q6, q7, nrow, bW⟩
  obtain ⟨v0, v1, v4, v5, v6, v7, v8, v9, v10, v11, v12, v13, v14, v15, v16, v17, v18, v19, v20, v21, v22, v23, v24⟩ := v
  simp only at q0 q1 q4 q5 q6 q7
  subst q0 q1 q4 q5 q6 q7
  clear F3 b1
  refine wp_seq (reg_mono (en_r8 (by kernel_rfl) _ F ?_))
  intro a8 F8
  try dsimp only at F8
  clear F
  -- the orders
  refine wp_midR (fun a W => ∃ (v : Ven) (S : List (OL × OS)) (g oc : Nat), Fen a v ∧ v.v1 = .slice lo l.length lc ∧ v.v4 = .bool false ∧ v.v5 = .bool true ∧ v.v6 = .int .i64 (n : Int) ∧ v.v9 = .slice (some ⟨g, 0, none⟩) n oc ∧ S.length = n ∧ AllS (P3 n []) S ∧ EnI w W (fun j => j = g) S g oc) ?_ ?_
  · refine wp_seq (reg_mono (en_r9 (by kernel_rfl) _ F8 ?_))
    intro a9 F9
    try dsimp only at F9
    refine wp_block (wp_loop (fun a W => ∃ (k : Nat) (v : Ven) (S : List (OL × OS)) (oo : Option Addr) (oc : Nat), k ≤ n ∧ Fen a v ∧ v.v1 = .slice lo l.length lc ∧ v.v4 = .bool false ∧ v.v5 = .bool true ∧ v.v6 = .int .i64 (n : Int) ∧ v.v7 = .slice no n nc ∧ v.v9 = .slice oo k oc ∧ v.v10 = .int .i64 (k : Int) ∧ S.length = k ∧ AllS (P3 n []) S ∧ Group w W (fun j => oo.map Addr.block = some j ∨ no.map Addr.block = some j) S ∧ W.ownsRow w.heap.size 26 1 (.slice oo k oc) k (ptrC S) ∧ W.ownsRow w.heap.size 3 1 (.slice no n nc) n ((rangeI n).map (.int .i64))) (fun a _ => n - (intOf (a.tmps.getD 10 undef)).toNat) ⟨0, _, [], none, 0, Nat.zero_le _, F9, rfl, rfl, rfl, rfl, rfl, rfl, rfl, rfl, fun i h => by simp at h, Group.nil bW (fun j h => by rcases h with h | h; cases h; exact (nrow.lt j (by rw [ownBlock_slice]; exact h)).2), World.ownsRow_nil _ _ _ _, nrow⟩ ?_)
    clear F8 F9 bW nrow
    rintro a W ⟨k, v, S, oo, oc, hk, F, q1, q4, q5, q6, q7, q9, q10, hS, hP, hG, orow, nrow⟩
    obtain ⟨v0, v1, v4, v5, v6, v7, v8, v9, v10, v11, v12, v13, v14, v15, v16, v17, v18, v19, v20, v21, v22, v23, v24⟩ := v
    simp only at q1 q4 q5 q6 q7 q9 q10
    subst q1 q4 q5 q6 q7 q9 q10
    refine wp_seq (wp_seq (reg_mono (en_r10 (by kernel_rfl) _ F rfl rfl ?_)))
    intro a10 F10 g10
    by_cases hlt : k < n
    case neg =>
      rw [decide_eq_false (by omega)] at g10
      obtain rfl : k = n := by omega
      have hg : ∃ g, oo = some ⟨g, 0, none⟩ := by
        obtain ⟨g, e, _⟩ := ptr_cell (row_base orow (Nat.zero_le _)) 0 (by omega)
        exact ⟨g, e⟩
      obtain ⟨g, rfl⟩ := hg
      refine wp_cond_false g10 (wp_exit ⟨_, S, g, oc, F10, rfl, rfl, rfl, rfl, rfl, hS, hP, ?_⟩)
      refine ⟨hG.reX (fun i hi j hj hx => hG.xa i hi j hj (.inl (by rw [hx]; rfl))) (fun j hx => by rw [hx]; exact (orow.lt g rfl).2), ?_, rfl⟩
      rw [hS]
      exact row_base orow (Nat.zero_le _)
    rw [decide_eq_true (by omega)] at g10
    refine wp_cond_true g10 (wp_skip ?_)
    show Code.wp _ _ _ _ _
    have hN : IntsAt W no (rangeI n) := by
      have := nrow
      rw [← rangeI_length n] at this
      rw [show (rangeI (rangeI n).length) = rangeI n by rw [rangeI_length]] at this
      exact ints_own this
    have hnew : Calls Try.prog 8 #[.int .i64 (k : Int), .slice no n nc, .slice none 0 0] W fun e w' => ∃ (po : Option Addr) (ec : Int), e = .returned (.tuple #[.pointer po, .int .i64 ec]) ∧ (ec = 0 ∧ ∃ (L : OL) (b : Nat), po = some ⟨b, 0, none⟩ ∧ NW W w' L (OS.new (k : Int) (rangeI n) []) b) := by
      have := pnew (k : Int) no none nc 0 (rangeI n) [] W hN (TextsAt.nil _ _ rfl) (fun s hs => by cases hs) (by simp) (rangeI_ok n k hlt hn7)
      rw [rangeI_length] at this
      exact this.mono fun e w' ⟨L, b, h1, h2⟩ => ⟨some ⟨b, 0, none⟩, 0, h1, rfl, L, b, rfl, h2⟩
    refine wp_seq (wp_block ?_)
    refine wp_seq (reg_mono (en_r12 (by kernel_rfl) _ F10 rfl rfl hnew ?_))
    rintro a12 w12 po ec F12 ⟨rfl, L, b, rfl, hNW⟩
    try dsimp only at F12
    refine wp_seq (wp_seq (reg_mono (en_r13 (by kernel_rfl) _ F12 rfl rfl ?_)))
    intro a13 F13 g13
    refine wp_cond_false g13 (wp_skip ?_)
    show Code.wp _ _ _ _ _
    have G2 := hG.snoc hNW
    have orow2 := below_row hNW.below orow
    have nrow2 := below_row hNW.below nrow
    have hsz : w.heap.size ≤ w12.heap.size := G2.below.size
    have hP2 : AllS (P3 n []) (S ++ [(L, OS.new (k : Int) (rangeI n) [])]) := hP.snoc (by
      rw [hS]
      refine ⟨fun e => ?_, fun _ => new_w n k hlt hn7⟩
      subst e
      exact new_q0 n hn0 hn7)
    obtain ⟨ta, tc, w15, hr, hA⟩ := app_one 51 26 1 8 (.pointer none) Try.underlying51 infoPtr rfl (by omega) orow2 #[.pointer (some ⟨b, 0, none⟩)] rfl (by intro u hu; simp at hu; subst hu; rfl) (by omega) (by omega) hsz
    refine reg_all (en_r15 (by kernel_rfl) _ F13 rfl rfl hr ?_)
    intro a15 F15
    try dsimp only at F15
    refine reg_mono (en_r11 (by kernel_rfl) _ F15 rfl (by omega) ?_)
    intro a11 F11
    try dsimp only at F11
    have hno : ∀ j, (Value.slice no n nc).ownBlock = some j → ¬ oo.map Addr.block = some j := fun j e e2 => by
      have := row_types nrow2 orow2 (j := j) e (by rw [ownBlock_slice]; exact e2)
      revert this
      decide +kernel
    have nrow3 := hA.touch.row nrow2 hno
    refine ⟨⟨k + 1, _, S ++ [(L, OS.new (k : Int) (rangeI n) [])], ta, tc, hlt, F11, rfl, rfl, rfl, rfl, rfl, rfl, rfl, by simp [hS], hP2, ?_, ?_, nrow3⟩, size14 hlt F.s10 F11.s10⟩
    · refine G2.wrote hA.touch (fun j hj e => ⟨.inl e, (orow.lt j (by rw [ownBlock_slice]; exact e)).1⟩) (fun j hx => ?_) (fun j hx => ?_)
      · rcases hx with e | e
        · rcases hA.new j e with e2 | e2
          · exact .inl (.inl e2)
          · exact .inr e2
        · exact .inl (.inr e)
      · rcases hx with e | e
        · exact (hA.row.lt j (by rw [ownBlock_slice]; exact e)).2
        · exact (nrow3.lt j (by rw [ownBlock_slice]; exact e)).2
    · have := hA.row
      rw [ptrC_snoc, hNW.b']
      exact this
  clear F8 nrow bW
  rintro a W ⟨v, S, g, oc, F, q1, q4, q5, q6, q9, hS, hP, hE⟩
  obtain ⟨v0, v1, v4, v5, v6, v7, v8, v9, v10, v11, v12, v13, v14, v15, v16, v17, v18, v19, v20, v21, v22, v23, v24⟩ := v
  simp only at q1 q4 q5 q6 q9
  subst q1 q4 q5 q6 q9
  refine wp_seq (reg_mono (en_r16 (by kernel_rfl) _ F ?_))
  intro a16 F16
  try dsimp only at F16
  refine wp_seq (reg_mono (en_r17 (by kernel_rfl) _ F16 ?_))
  intro a17 F17
  try dsimp only at F17
  clear F F16
  -- what is proposed
  refine wp_midR (fun a W => ∃ (v : Ven) (S : List (OL × OS)) (L : List ByteArray), Fen a v ∧ v.v4 = .bool false ∧ v.v5 = .bool true ∧ v.v6 = .int .i64 (n : Int) ∧ v.v9 = .slice (some ⟨g, 0, none⟩) n oc ∧ v.v13 = .int .i64 (bytesF L) ∧ v.v14 = .int .i64 (L.length : Int) ∧ S.length = n ∧ L.length ≤ 60 ∧ GoodL L ∧ (∀ s ∈ L, s.size ≤ 140737488351232) ∧ AllS (P3 n L) S ∧ EnI w W (fun j => j = g) S g oc) ?_ ?_
  · refine wp_seq (reg_mono (en_r18 (by kernel_rfl) _ F17 ?_))
    intro a18 F18
    try dsimp only at F18
    refine wp_block (wp_loop (fun a W => ∃ (k : Nat) (v : Ven) (S : List (OL × OS)) (L : List ByteArray), k ≤ 60 ∧ Fen a v ∧ v.v1 = .slice lo l.length lc ∧ v.v4 = .bool false ∧ v.v5 = .bool true ∧ v.v6 = .int .i64 (n : Int) ∧ v.v9 = .slice (some ⟨g, 0, none⟩) n oc ∧ v.v13 = .int .i64 (bytesF L) ∧ v.v14 = .int .i64 (L.length : Int) ∧ v.v15 = .int .i64 (k : Int) ∧ S.length = n ∧ L.length ≤ k ∧ GoodL L ∧ (∀ s ∈ L, s.size ≤ 140737488351232) ∧ AllS (P3 n L) S ∧ EnI w W (fun j => j = g) S g oc) (fun a _ => 60 - (intOf (a.tmps.getD 15 undef)).toNat) ⟨0, _, S, [], by omega, F18, rfl, rfl, rfl, rfl, rfl, rfl, rfl, rfl, hS, Nat.le_refl _, (fun k hk => by simp at hk; subst hk; decide), (fun s hs => by cases hs), hP, hE⟩ ?_)
    clear F17 F18 hP hE hS S
    rintro a W ⟨k, v, S, L, hk60, F, q1, q4, q5, q6, q9, q13, q14, q15, hS, hLk, hgood, hsz, hP, hE⟩
    obtain ⟨v0, v1, v4, v5, v6, v7, v8, v9, v10, v11, v12, v13, v14, v15, v16, v17, v18, v19, v20, v21, v22, v23, v24⟩ := v
    simp only at q1 q4 q5 q6 q9 q13 q14 q15
    subst q1 q4 q5 q6 q9 q13 q14 q15
    by_cases hlt : k < l.length
    case neg =>
      refine wp_seq (wp_seq (reg_mono (en_r19n (by kernel_rfl) _ F rfl rfl (by omega) ?_)))
      intro a19 F19 g19
      exact wp_cond_false g19 (wp_exit ⟨_, S, L, F19, rfl, rfl, rfl, rfl, rfl, rfl, hS, by omega, hgood, hsz, hP, hE⟩)
    refine wp_seq (wp_seq (reg_mono (en_r19y (by kernel_rfl) _ F rfl rfl (by omega) ?_)))
    intro a19 F19 g19
    by_cases h60 : k < 60
    case neg =>
      rw [decide_eq_false (by omega)] at g19
      exact wp_cond_false g19 (wp_exit ⟨_, S, L, F19, rfl, rfl, rfl, rfl, rfl, rfl, hS, by omega, hgood, hsz, hP, hE⟩)
    rw [decide_eq_true (by omega)] at g19
    refine wp_cond_true g19 (wp_skip ?_)
    show Code.wp _ _ _ _ _
    obtain ⟨tb, tf, hlo, _, htc⟩ := (hL.below hE.grp.below) k hlt
    subst hlo
    have hxs := hs _ (List.getElem_mem hlt)
    have hLW := fun W' b => (hL.below (w' := W') b) k hlt
    generalize l[k] = x at *
    have h0S : 0 < S.length := by omega
    have hq := (hP 0 h0S).1 rfl
    have hc0 := hE.ptr 0 h0S
    refine wp_seq (wp_block ?_)
    have hprop : Calls Try.prog 13 #[.pointer (some ⟨S[0].1.b, 0, none⟩), .string x] W.drew fun e w' => e = .returned (.tuple #[.int .i64 (S[0].2.propose x).2.1, .int .i64 (S[0].2.propose x).2.2]) ∧ ∃ L', L'.b = S[0].1.b ∧ EnI w w' (fun j => j = g) (S.set 0 (L', (S[0].2.propose x).1)) g oc := by
      have hED := hE.further (w' := W.drew) ((Below.refl _ _).drew)
      exact (gpropose (L := S[0].1) (o := S[0].2) hED.grp h0S rfl hq.fine.ok x hxs (by rw [hq.log]; omega)).mono fun e w' ⟨h1, h2⟩ => ⟨h1, by obtain ⟨L', h3, h4, _⟩ := hED.step h0S h2; exact ⟨L', h3, h4⟩⟩
    refine wp_seq (reg_mono (en_r21 (by kernel_rfl) _ F19 rfl rfl rfl hn0 hlt hc0 htc hprop ?_))
    rintro a21 w21 F21 ⟨L', hb', hE'⟩
    try dsimp only at F21
    have htc2 : w21.cell? ⟨tb, tf + k, none⟩ = some (.string x) := by
      obtain ⟨tb2, tf2, e, _, hc⟩ := hLW w21 hE'.grp.below
      injection e with e
      injection e with e1 e2 _
      subst e1 e2
      exact hc
    refine wp_seq (reg_mono (en_r22 (by kernel_rfl) _ F21 rfl rfl rfl hlt htc2 hgood.all.1 hgood.all.2 (by omega) ?_))
    intro a22 F22
    try dsimp only at F22
    rcases hq.propose hgood x hxs with ⟨hfit, he, hq', hgood', hby⟩ | ⟨hno, he⟩
    · rw [decide_eq_true hfit] at F22
      have e1 : (S[0].2.propose x).2.1 = (L.length : Int) := by rw [he]
      have e2 : (S[0].2.propose x).2.2 = 0 := by rw [he]
      rw [e1, e2] at F22
      refine wp_seq (wp_seq (reg_mono (en_r23y (by kernel_rfl) _ F22 rfl rfl rfl rfl ?_)))
      intro a23 F23 g23
      refine wp_cond_false g23 (wp_skip ?_)
      show Code.wp _ _ _ _ _
      refine wp_seq (reg_mono (en_r25 (by kernel_rfl) _ F23 rfl ?_))
      intro a25 F25 g25
      refine wp_cond_true g25 ?_
      refine wp_seq (reg_mono (en_r26 (by kernel_rfl) _ F25 rfl rfl rfl hlt htc2 hgood.all.1 hgood.all.2 (by omega) ?_))
      intro a26 F26
      try dsimp only at F26
      refine reg_all (en_r27 (by kernel_rfl) _ F26 rfl (by omega) ?_)
      intro a27 F27
      try dsimp only at F27
      refine reg_mono (en_r20 (by kernel_rfl) _ F27 rfl (by omega) ?_)
      intro a20 F20
      try dsimp only at F20
      refine ⟨⟨k + 1, _, S.set 0 (L', (S[0].2.propose x).1), L ++ [x], by omega, F20, rfl, rfl, rfl, rfl, rfl, by rw [hby], by simp, rfl, by simpa using hS, by simp; omega, hgood', fun y hy => ?_, hP.set h0S ⟨fun _ => hq', fun e => absurd rfl e⟩ (fun i o hne hp => ⟨fun e => absurd e hne, hp.2⟩), hE'⟩, size14 h60 F.s15 F20.s15⟩
      rcases List.mem_append.1 hy with hy | hy
      · exact hsz y hy
      · simp at hy; subst hy; exact hxs
    · rw [decide_eq_false hno] at F22
      have e2 : (S[0].2.propose x).2.2 = 8 := by rw [he]
      have e3 : (S[0].2.propose x).1 = S[0].2 := by rw [he]
      rw [e2] at F22
      rw [e3] at hE'
      refine wp_seq (wp_seq (reg_mono (en_r23n (by kernel_rfl) _ F22 rfl rfl ?_)))
      intro a23 F23 g23
      refine wp_cond_false g23 (wp_skip ?_)
      show Code.wp _ _ _ _ _
      refine wp_seq (reg_mono (en_r25 (by kernel_rfl) _ F23 rfl ?_))
      intro a25 F25 g25
      refine wp_cond_false g25 (wp_skip ?_)
      show Code.wp _ _ _ _ _
      refine reg_mono (en_r20 (by kernel_rfl) _ F25 rfl (by omega) ?_)
      intro a20 F20
      try dsimp only at F20
      exact ⟨⟨k + 1, _, S.set 0 (L', S[0].2), L, by omega, F20, rfl, rfl, rfl, rfl, rfl, rfl, rfl, rfl, by simpa using hS, by omega, hgood, hsz, hP.set h0S ⟨fun _ => hq, fun e => absurd rfl e⟩ (fun i o hne hp => ⟨fun e => absurd e hne, hp.2⟩), hE'⟩, size14 h60 F.s15 F20.s15⟩
  clear F17 hP hE hS S
  rintro a W ⟨v, S, L, F, q4, q5, q6, q9, q13, q14, hS, hL60, hgood, hsz, hP, hE⟩
  obtain ⟨v0, v1, v4, v5, v6, v7, v8, v9, v10, v11, v12, v13, v14, v15, v16, v17, v18, v19, v20, v21, v22, v23, v24⟩ := v
  simp only at q4 q5 q6 q9 q13 q14
  subst q4 q5 q6 q9 q13 q14
  clear hL hs hll
  -- each takes it
  refine wp_midR (fun a W => ∃ (v : Ven) (S : List (OL × OS)), Fen a v ∧ v.v4 = .bool false ∧ v.v5 = .bool true ∧ v.v6 = .int .i64 (n : Int) ∧ v.v9 = .slice (some ⟨g, 0, none⟩) n oc ∧ v.v13 = .int .i64 (bytesF L) ∧ v.v14 = .int .i64 (L.length : Int) ∧ S.length = n ∧ AllS (P6 n L 1) S ∧ EnI w W (fun j => j = g) S g oc) ?_ ?_
  · refine wp_seq (reg_mono (en_r28 (by kernel_rfl) _ F ?_))
    intro a28 F28
    try dsimp only at F28
    refine wp_block (wp_loop (fun a W => ∃ (k : Nat) (v : Ven) (S : List (OL × OS)), 1 ≤ k ∧ k ≤ n ∧ Fen a v ∧ v.v4 = .bool false ∧ v.v5 = .bool true ∧ v.v6 = .int .i64 (n : Int) ∧ v.v9 = .slice (some ⟨g, 0, none⟩) n oc ∧ v.v13 = .int .i64 (bytesF L) ∧ v.v14 = .int .i64 (L.length : Int) ∧ v.v19 = .int .i64 (k : Int) ∧ S.length = n ∧ AllS (P4 n L k []) S ∧ EnI w W (fun j => j = g) S g oc) (fun a _ => n - (intOf (a.tmps.getD 19 undef)).toNat) ⟨1, _, S, Nat.le_refl _, by omega, F28, rfl, rfl, rfl, rfl, rfl, rfl, rfl, hS, ?_, hE⟩ ?_)
    · intro i hi
      refine ⟨fun e => ?_, fun e => ?_⟩
      · obtain ⟨f1, f2, f3, f4, f5, f6, f7, f8⟩ := (hP i hi).1 e
        exact ⟨f1, f2, f3, f4, f5, f6, f7, fun j h1 h2 => by rw [f8 j h1 h2, if_neg (by omega)]⟩
      · have := (hP i hi).2 e
        rw [if_neg (by omega)]
        by_cases e2 : i = 1
        · rw [if_pos e2]; exact this
        · rw [if_neg e2]; exact this
    clear F28 F hP hE hS S
    rintro a W ⟨k, v, S, hk1, hk, F, q4, q5, q6, q9, q13, q14, q19, hS, hP, hE⟩
    obtain ⟨v0, v1, v4, v5, v6, v7, v8, v9, v10, v11, v12, v13, v14, v15, v16, v17, v18, v19, v20, v21, v22, v23, v24⟩ := v
    simp only at q4 q5 q6 q9 q13 q14 q19
    subst q4 q5 q6 q9 q13 q14 q19
    have hs19 : a.tmps.getD 19 undef = .int .i64 (k : Int) := F.s19
    refine wp_seq (wp_seq (reg_mono (en_r29 (by kernel_rfl) _ F rfl rfl ?_)))
    intro a29 F29 g29
    by_cases hlt : k < n
    case neg =>
      rw [decide_eq_false (by omega)] at g29
      obtain rfl : k = n := by omega
      refine wp_cond_false g29 (wp_exit ⟨_, S, F29, rfl, rfl, rfl, rfl, rfl, rfl, hS, fun i hi => ⟨fun e => ?_, fun e => ?_⟩, hE⟩)
      · obtain ⟨f1, f2, f3, f4, f5, f6, f7, f8⟩ := (hP i hi).1 e
        exact ⟨f1, f2, f3, f4, f5, f6, f7, fun j h1 h2 => by rw [f8 j h1 h2, if_pos h2]⟩
      · have := (hP i hi).2 e
        rw [if_pos (by omega)] at this
        rw [if_neg (by omega)]
        exact this
    rw [decide_eq_true (by omega)] at g29
    refine wp_cond_true g29 (wp_skip ?_)
    show Code.wp _ _ _ _ _
    have h0S : 0 < S.length := by omega
    have hkS : k < S.length := by omega
    have hq := (hP 0 h0S).1 rfl
    have hc0 := hE.ptr 0 h0S
    refine wp_seq (wp_block ?_)
    have hwant : Calls Try.prog 21 #[.pointer (some ⟨S[0].1.b, 0, none⟩), .int .i64 (k : Int), .int .i64 100] W fun e w' => ∃ (ao : Option Addr) (cp : Nat), e = .returned (.tuple #[.int .i64 ((0 : Nat) : Int), .slice ao L.length cp]) ∧ (∃ X : Nat → Prop, (∀ j, X j ↔ j = g ∨ ao.map Addr.block = some j) ∧ EnI w w' X S g oc ∧ TextsAt w' ao L) := by
      have := gwants (L := S[0].1) (o := S[0].2) hE.grp h0S rfl hq.fine.ok (k : Int) 100 (by omega) (by rw [hq.log]; omega)
      rw [hq.wants hk1 hlt (by simp) (by omega)] at this
      refine this.mono ?_
      rintro e w' ⟨ao, cp, rfl, h1, h2, h3⟩
      refine ⟨ao, cp, rfl, fun j => j = g ∨ ao.map Addr.block = some j, fun _ => Iff.rfl, (hE.further h3).reX (fun i hi j hj hx => ?_) (fun j hx => ?_) (.inl rfl), texts_own h1⟩
      · have hl := (hE.grp.each i hi).lt hj
        rcases hx with rfl | e
        · exact hE.grp.xa i hi _ hj rfl
        · have := (h1.lt j (by rw [ownBlock_slice]; exact e)).1; omega
      · rcases hx with rfl | e
        · have := hE.grp.xl _ rfl; have := h3.size; omega
        · exact (h1.lt j (by rw [ownBlock_slice]; exact e)).2
    refine wp_seq (reg_mono (en_r31 (by kernel_rfl) _ F29 rfl rfl hn0 hc0 hwant ?_))
    rintro a31 w31 ao cp F31 ⟨X, hX, hE31, hT31⟩
    try dsimp only at F31
    -- text by text
    refine wp_midR (fun a W => ∃ (v : Ven) (S : List (OL × OS)), Fen a v ∧ v.v4 = .bool false ∧ v.v5 = .bool true ∧ v.v6 = .int .i64 (n : Int) ∧ v.v9 = .slice (some ⟨g, 0, none⟩) n oc ∧ v.v13 = .int .i64 (bytesF L) ∧ v.v14 = .int .i64 (L.length : Int) ∧ v.v19 = .int .i64 (k : Int) ∧ S.length = n ∧ AllS (P4 n L k L) S ∧ EnI w W (fun j => j = g) S g oc) ?_ ?_
    · refine wp_seq (reg_mono (en_r32 (by kernel_rfl) _ F31 ?_))
      intro a32 F32
      try dsimp only at F32
      refine wp_block (wp_loop (fun a W => ∃ (m : Nat) (v : Ven) (S : List (OL × OS)), m ≤ L.length ∧ Fen a v ∧ v.v4 = .bool false ∧ v.v5 = .bool true ∧ v.v6 = .int .i64 (n : Int) ∧ v.v9 = .slice (some ⟨g, 0, none⟩) n oc ∧ v.v13 = .int .i64 (bytesF L) ∧ v.v14 = .int .i64 (L.length : Int) ∧ v.v19 = .int .i64 (k : Int) ∧ v.v20 = .int .i64 ((0 : Nat) : Int) ∧ v.v21 = .slice ao L.length cp ∧ v.v22 = .int .i64 (m : Int) ∧ S.length = n ∧ AllS (P4 n L k (L.take m)) S ∧ EnI w W X S g oc ∧ TextsAt W ao L) (fun a _ => L.length - (intOf (a.tmps.getD 22 undef)).toNat) ⟨0, _, S, Nat.zero_le _, F32, rfl, rfl, rfl, rfl, rfl, rfl, rfl, rfl, rfl, rfl, hS, hP, hE31, hT31⟩ ?_)
      clear F32 F31 F29 hP hE hE31 hT31 hS h0S hkS hq hc0 hwant F S g29
      rintro a W ⟨m, v, S, hm2, F, q4, q5, q6, q9, q13, q14, q19, q20, q21, q22, hS, hP, hE, hT⟩
      obtain ⟨v0, v1, v4, v5, v6, v7, v8, v9, v10, v11, v12, v13, v14, v15, v16, v17, v18, v19, v20, v21, v22, v23, v24⟩ := v
      simp only at q4 q5 q6 q9 q13 q14 q19 q20 q21 q22
      subst q4 q5 q6 q9 q13 q14 q19 q20 q21 q22
      refine wp_seq (wp_seq (reg_mono (en_r33 (by kernel_rfl) _ F rfl rfl ?_)))
      intro a33 F33 g33
      by_cases hlt2 : m < L.length
      case neg =>
        rw [decide_eq_false (by omega)] at g33
        obtain rfl : m = L.length := by omega
        rw [List.take_length] at hP
        exact wp_cond_false g33 (wp_exit ⟨_, S, F33, rfl, rfl, rfl, rfl, rfl, rfl, rfl, hS, hP, hE.reX (fun i hi j hj hx => hE.grp.xa i hi j hj ((hX j).2 (.inl hx))) (fun j hx => hE.grp.xl j ((hX j).2 (.inl hx))) rfl⟩)
      rw [decide_eq_true (by omega)] at g33
      refine wp_cond_true g33 (wp_skip ?_)
      show Code.wp _ _ _ _ _
      have hkS : k < S.length := by omega
      obtain ⟨tb, tf, hao, _, htc⟩ := hT m hlt2
      subst hao
      have how := (hP k hkS).2 (by omega)
      rw [if_neg (by omega), if_pos rfl] at how
      have how2 := how.add hk1 hlt2 hgood hsz
      have hxz := hsz _ (List.getElem_mem hlt2)
      have hadd : Calls Try.prog 15 #[.pointer (some ⟨S[k].1.b, 0, none⟩), .int .i64 ((0 + m : Nat) : Int), .string L[m]] W.drew fun e w' => e = .returned (.bool (S[k].2.add (m : Int) L[m]).2) ∧ ∃ L', L'.b = S[k].1.b ∧ EnI w w' X (S.set k (L', (S[k].2.add (m : Int) L[m]).1)) g oc ∧ TextsAt w' (some ⟨tb, tf, none⟩) L := by
        have hED := hE.further (w' := W.drew) ((Below.refl _ _).drew)
        rw [Nat.zero_add]
        refine (gadd (L := S[k].1) (o := S[k].2) hED.grp hkS rfl how.fine.ok (m : Int) L[m] hxz (by rw [how.log, List.length_take]; omega)).mono ?_
        rintro e w' ⟨h1, h2⟩
        obtain ⟨L', h3, h4, h5⟩ := hED.step hkS h2
        refine ⟨h1, L', h3, h4, ?_⟩
        have hTD : TextsAt W.drew (some ⟨tb, tf, none⟩) L := hT.below ((Below.refl _ _).drew)
        exact hTD.keep h5 (fun a e hn => hn ((hX a.block).2 (.inr (by rw [e]; rfl))))
      have hc1 := hE.ptr k hkS
      refine wp_seq (wp_block (reg_all (en_r35 (by kernel_rfl) _ F33 rfl rfl rfl rfl rfl hlt hc1 hlt2 (by omega) (by omega) htc hadd ?_)))
      rintro a35 w35 F35 ⟨L', hb', hE', hT'⟩
      try dsimp only at F35
      refine reg_mono (en_r34 (by kernel_rfl) _ F35 rfl (by omega) ?_)
      intro a34 F34
      try dsimp only at F34
      refine ⟨⟨m + 1, _, S.set k (L', (S[k].2.add (m : Int) L[m]).1), hlt2, F34, rfl, rfl, rfl, rfl, rfl, rfl, rfl, rfl, rfl, rfl, by simpa using hS, ?_, hE', hT'⟩, size14 hlt2 F.s22 F34.s22⟩
      refine hP.set hkS ⟨fun e => by omega, fun _ => ?_⟩ (fun i o hne hp => ⟨hp.1, fun e => ?_⟩)
      · rw [if_neg (by omega), if_pos rfl]; exact how2
      · have := hp.2 e
        by_cases e2 : i < k
        · rw [if_pos e2] at this ⊢; exact this
        · rw [if_neg e2, if_neg hne] at this ⊢; exact this
    clear F31 F29 hP hE hE31 hT31 hS h0S hkS hq hc0 hwant F S g29
    rintro a W ⟨v, S, F, q4, q5, q6, q9, q13, q14, q19, hS, hP, hE⟩
    obtain ⟨v0, v1, v4, v5, v6, v7, v8, v9, v10, v11, v12, v13, v14, v15, v16, v17, v18, v19, v20, v21, v22, v23, v24⟩ := v
    simp only at q4 q5 q6 q9 q13 q14 q19
    subst q4 q5 q6 q9 q13 q14 q19
    have h0S : 0 < S.length := by omega
    have hkS : k < S.length := by omega
    have hq := (hP 0 h0S).1 rfl
    have how := (hP k hkS).2 (by omega)
    rw [if_neg (by omega), if_pos rfl] at how
    have hED := hE.further (w' := W.drew) ((Below.refl _ _).drew)
    have hlen : Calls Try.prog 25 #[.pointer (some ⟨S[k].1.b, 0, none⟩)] W.drew fun e w' => e = .returned (.int .i64 (L.length : Int)) ∧ w' = W.drew := by
      have := glen (L := S[k].1) (o := S[k].2) hED.grp hkS rfl
      rw [how.log] at this
      exact this
    have hhas : Calls Try.prog 17 #[.pointer (some ⟨S[0].1.b, 0, none⟩), .int .i64 (k : Int), .int .i64 (L.length : Int)] W.drew fun e w' => e = .returned (.bool (S[0].2.has (k : Int) (L.length : Int)).2) ∧ ∃ L', L'.b = S[0].1.b ∧ EnI w w' (fun j => j = g) (S.set 0 (L', (S[0].2.has (k : Int) (L.length : Int)).1)) g oc :=
      (ghas (L := S[0].1) (o := S[0].2) hED.grp h0S rfl hq.fine.ok (k : Int) (L.length : Int) (by rw [hq.log]; omega)).mono fun e w' ⟨h1, h2⟩ => ⟨h1, by obtain ⟨L', h3, h4, _⟩ := hED.step h0S h2; exact ⟨L', h3, h4⟩⟩
    refine reg_all (en_r36 (by kernel_rfl) _ F rfl rfl (hE.ptr 0 h0S) hlt (hE.ptr k hkS) hhas hlen ?_)
    rintro a36 w36 F36 ⟨L', hb', hE'⟩
    try dsimp only at F36
    refine reg_mono (en_r30 (by kernel_rfl) _ F36 rfl (by omega) ?_)
    intro a30 F30
    try dsimp only at F30
    have hq2 := hq.has hk1 hlt
    refine ⟨⟨k + 1, _, S.set 0 (L', (S[0].2.has (k : Int) (L.length : Int)).1), by omega, hlt, F30, rfl, rfl, rfl, rfl, rfl, rfl, rfl, by simpa using hS, ?_, hE'⟩, size14 hlt hs19 F30.s19⟩
    refine hP.set h0S ⟨fun _ => ?_, fun e => absurd rfl e⟩ (fun i o hne hp => ⟨fun e => absurd e hne, fun e => ?_⟩)
    · obtain ⟨f1, f2, f3, f4, f5, f6, f7, f8⟩ := hq2
      refine ⟨f1, f2, f3, f4, f5, f6, f7, fun j h1 h2 => ?_⟩
      rw [f8 j h1 h2]
      by_cases e : j = k
      · rw [if_pos e, if_pos (by omega)]
      · rw [if_neg e]
        by_cases e2 : j < k
        · rw [if_pos e2, if_pos (by omega)]
        · rw [if_neg e2, if_neg (by omega)]
    · have := hp.2 e
      by_cases e2 : i < k
      · rw [if_pos e2] at this; rw [if_pos (by omega)]; exact this
      · by_cases e3 : i = k
        · rw [if_neg e2, if_pos e3] at this; rw [if_pos (by omega)]; exact this
        · rw [if_neg e2, if_neg e3] at this
          rw [if_neg (by omega)]
          by_cases e4 : i = k + 1
          · rw [if_pos e4]; exact this
          · rw [if_neg e4]; exact this
  clear F hP hE hS S
  rintro a W ⟨v, S, F, q4, q5, q6, q9, q13, q14, hS, hP, hE⟩
  obtain ⟨v0, v1, v4, v5, v6, v7, v8, v9, v10, v11, v12, v13, v14, v15, v16, v17, v18, v19, v20, v21, v22, v23, v24⟩ := v
  simp only at q4 q5 q6 q9 q13 q14
  subst q4 q5 q6 q9 q13 q14
  -- they learn
  refine wp_midR (fun a W => ∃ (v : Ven) (S : List (OL × OS)), Fen a v ∧ v.v4 = .bool false ∧ v.v5 = .bool true ∧ v.v6 = .int .i64 (n : Int) ∧ v.v9 = .slice (some ⟨g, 0, none⟩) n oc ∧ v.v13 = .int .i64 (bytesF L) ∧ v.v14 = .int .i64 (L.length : Int) ∧ S.length = n ∧ AllS (P6 n L n) S ∧ EnI w W (fun j => j = g) S g oc) ?_ ?_
  · refine wp_seq (reg_mono (en_r37 (by kernel_rfl) _ F ?_))
    intro a37 F37
    try dsimp only at F37
    refine wp_block (wp_loop (fun a W => ∃ (k : Nat) (v : Ven) (S : List (OL × OS)), 1 ≤ k ∧ k ≤ n ∧ Fen a v ∧ v.v4 = .bool false ∧ v.v5 = .bool true ∧ v.v6 = .int .i64 (n : Int) ∧ v.v9 = .slice (some ⟨g, 0, none⟩) n oc ∧ v.v13 = .int .i64 (bytesF L) ∧ v.v14 = .int .i64 (L.length : Int) ∧ v.v23 = .int .i64 (k : Int) ∧ S.length = n ∧ AllS (P6 n L k) S ∧ EnI w W (fun j => j = g) S g oc) (fun a _ => n - (intOf (a.tmps.getD 23 undef)).toNat) ⟨1, _, S, Nat.le_refl _, by omega, F37, rfl, rfl, rfl, rfl, rfl, rfl, rfl, hS, hP, hE⟩ ?_)
    clear F37 F hP hE hS S
    rintro a W ⟨k, v, S, hk1, hk, F, q4, q5, q6, q9, q13, q14, q23, hS, hP, hE⟩
    obtain ⟨v0, v1, v4, v5, v6, v7, v8, v9, v10, v11, v12, v13, v14, v15, v16, v17, v18, v19, v20, v21, v22, v23, v24⟩ := v
    simp only at q4 q5 q6 q9 q13 q14 q23
    subst q4 q5 q6 q9 q13 q14 q23
    refine wp_seq (wp_seq (reg_mono (en_r38 (by kernel_rfl) _ F rfl rfl ?_)))
    intro a38 F38 g38
    by_cases hlt : k < n
    case neg =>
      rw [decide_eq_false (by omega)] at g38
      obtain rfl : k = n := by omega
      exact wp_cond_false g38 (wp_exit ⟨_, S, F38, rfl, rfl, rfl, rfl, rfl, rfl, hS, hP, hE⟩)
    rw [decide_eq_true (by omega)] at g38
    refine wp_cond_true g38 (wp_skip ?_)
    show Code.wp _ _ _ _ _
    have h0S : 0 < S.length := by omega
    have hkS : k < S.length := by omega
    have hq := (hP 0 h0S).1 rfl
    have how := (hP k hkS).2 (by omega)
    rw [if_neg (by omega)] at how
    have hED := hE.further (w' := W.drew) ((Below.refl _ _).drew)
    have hsure : Calls Try.prog 28 #[.pointer (some ⟨S[0].1.b, 0, none⟩)] W.drew fun e w' => e = .returned (.int .i64 (L.length : Int)) ∧ w' = W.drew := by
      have := gsure (L := S[0].1) (o := S[0].2) hED.grp h0S rfl
      rw [hq.whole (fun i _ _ => rfl)] at this
      exact this
    have hlearn : Calls Try.prog 19 #[.pointer (some ⟨S[k].1.b, 0, none⟩), .int .i64 (L.length : Int)] W.drew fun e w' => e = .returned (.bool (S[k].2.learn (L.length : Int)).2) ∧ ∃ L', L'.b = S[k].1.b ∧ EnI w w' (fun j => j = g) (S.set k (L', (S[k].2.learn (L.length : Int)).1)) g oc :=
      (glearn (L := S[k].1) (o := S[k].2) hED.grp hkS rfl how.fine.ok (L.length : Int) (by omega) (by omega) (by rw [how.log]; omega)).mono fun e w' ⟨h1, h2⟩ => ⟨h1, by obtain ⟨L', h3, h4, _⟩ := hED.step hkS h2; exact ⟨L', h3, h4⟩⟩
    refine wp_seq (wp_block (reg_all (en_r40 (by kernel_rfl) _ F38 rfl rfl (hE.ptr 0 h0S) hlt (hE.ptr k hkS) hlearn hsure ?_)))
    rintro a40 w40 F40 ⟨L', hb', hE'⟩
    try dsimp only at F40
    refine reg_mono (en_r39 (by kernel_rfl) _ F40 rfl (by omega) ?_)
    intro a39 F39
    try dsimp only at F39
    refine ⟨⟨k + 1, _, S.set k (L', (S[k].2.learn (L.length : Int)).1), by omega, hlt, F39, rfl, rfl, rfl, rfl, rfl, rfl, rfl, by simpa using hS, ?_, hE'⟩, size14 hlt F.s23 F39.s23⟩
    refine hP.set hkS ⟨fun e => by omega, fun _ => ?_⟩ (fun i o hne hp => ⟨hp.1, fun e => ?_⟩)
    · rw [if_pos (by omega)]; exact how.learn hk1
    · have := hp.2 e
      by_cases e2 : i < k
      · rw [if_pos e2] at this; rw [if_pos (by omega)]; exact this
      · rw [if_neg e2] at this; rw [if_neg (by omega)]; exact this
  clear F hP hE hS S
  rintro a W ⟨v, S, F, q4, q5, q6, q9, q13, q14, hS, hP, hE⟩
  obtain ⟨v0, v1, v4, v5, v6, v7, v8, v9, v10, v11, v12, v13, v14, v15, v16, v17, v18, v19, v20, v21, v22, v23, v24⟩ := v
  simp only at q4 q5 q6 q9 q13 q14
  subst q4 q5 q6 q9 q13 q14
  -- all is checked
  refine wp_midR (fun a W' => ∃ (v : Ven), Fen a v ∧ v.v5 = .bool true ∧ Below w.heap.size w W') ?_ ?_
  · refine wp_seq (reg_mono (en_r41 (by kernel_rfl) _ F ?_))
    intro a41 F41
    try dsimp only at F41
    refine wp_block (wp_loop (fun a W' => ∃ (k : Nat) (v : Ven), k ≤ n ∧ Fen a v ∧ v.v4 = .bool false ∧ v.v5 = .bool true ∧ v.v6 = .int .i64 (n : Int) ∧ v.v9 = .slice (some ⟨g, 0, none⟩) n oc ∧ v.v13 = .int .i64 (bytesF L) ∧ v.v14 = .int .i64 (L.length : Int) ∧ v.v24 = .int .i64 (k : Int) ∧ W' = W) (fun a _ => n - (intOf (a.tmps.getD 24 undef)).toNat) ⟨0, _, Nat.zero_le _, F41, rfl, rfl, rfl, rfl, rfl, rfl, rfl, rfl⟩ ?_)
    clear F41 F
    rintro a W' ⟨k, v, hk, F, q4, q5, q6, q9, q13, q14, q24, rfl⟩
    obtain ⟨v0, v1, v4, v5, v6, v7, v8, v9, v10, v11, v12, v13, v14, v15, v16, v17, v18, v19, v20, v21, v22, v23, v24⟩ := v
    simp only at q4 q5 q6 q9 q13 q14 q24
    subst q4 q5 q6 q9 q13 q14 q24
    refine wp_seq (wp_seq (reg_mono (en_r42 (by kernel_rfl) _ F rfl rfl ?_)))
    intro a42 F42 g42
    by_cases hlt : k < n
    case neg =>
      rw [decide_eq_false (by omega)] at g42
      exact wp_cond_false g42 (wp_exit ⟨_, F42, rfl, hE.grp.below⟩)
    rw [decide_eq_true (by omega)] at g42
    refine wp_cond_true g42 (wp_skip ?_)
    show Code.wp _ _ _ _ _
    have hkS : k < S.length := by omega
    have hall : S[k].2.sure = L.length ∧ S[k].2.log = L ∧ S[k].2.bytes = bytesF L := by
      by_cases e : k = 0
      · have hq := (hP k hkS).1 e
        exact ⟨hq.whole (fun i _ _ => rfl), hq.log, hq.bytes⟩
      · have how := (hP k hkS).2 e
        rw [if_pos hlt] at how
        exact ⟨how.sure, how.log, how.bytes⟩
    have s1 := gsure (L := S[k].1) (o := S[k].2) hE.grp hkS rfl
    have s2 := glen (L := S[k].1) (o := S[k].2) hE.grp hkS rfl
    have s3 := gbytes (L := S[k].1) (o := S[k].2) hE.grp hkS rfl
    rw [hall.1] at s1
    rw [hall.2.1] at s2
    rw [hall.2.2] at s3
    refine wp_seq (wp_block (wp_seq (reg_mono (en_r44 (by kernel_rfl) _ F42 rfl rfl rfl rfl hlt (hE.ptr k hkS) s1 s2 s3 ?_))))
    intro a44 F44 g44
    refine wp_cond_false g44 (wp_skip ?_)
    show Code.wp _ _ _ _ _
    refine reg_mono (en_r43 (by kernel_rfl) _ F44 rfl (by omega) ?_)
    intro a43 F43
    try dsimp only at F43
    exact ⟨⟨k + 1, _, hlt, F43, rfl, rfl, rfl, rfl, rfl, rfl, rfl, rfl⟩, size14 hlt F.s24 F43.s24⟩
  rintro a W' ⟨v, F, q5, bel⟩
  refine wp_seq (reg_mono (en_r46 (by kernel_rfl) _ F q5 ?_))
  intro a46 F46
  refine wp_ret ?_
  refine en_ret (x := true) F46 rfl ?_
  exact ⟨rfl, bel⟩
end Go.Proofs.Ytjgbgbgajadgnaa
