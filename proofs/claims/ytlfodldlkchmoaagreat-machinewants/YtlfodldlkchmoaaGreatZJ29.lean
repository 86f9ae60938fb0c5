/-
  MachineWants, as it runs (mkj29.py).
-/
import Derived.Test.YtlfodldlkchmoaaGreatZJ28
import Derived.Test.YtlfodldlkchmoaaGreatZJ10
import Derived.Test.YtlfodldlkchmoaaGreatZRA
import Derived.Test.YtlfodldlkchmoaaGreatZJ20
import Derived.Test.YtlfodldlkchmoaaGreatZJ21
namespace Go.Proofs.YtlfodldlkchmoaaGreat.Y
open Go.RowKit
set_option maxHeartbeats 16000000
set_option maxRecDepth 100000
attribute [local go_sem ↓] Go.wp_at_zero Go.wp_at_succ
set_option linter.unusedSimpArgs false
set_option linter.unusedVariables false
open Go.Maps
def bArr (l : List Bool) : Array Value := (l.map Value.bool).toArray
theorem bArr_get {l : List Bool} {k : Nat} (h : l.length = 7) (hk : k < 7) : (bArr l)[k]? = some (.bool (l.getD k false)) := by
  unfold bArr
  rw [List.getElem?_toArray, List.getElem?_map, List.getD_eq_getElem?_getD, List.getElem?_eq_getElem (by omega)]
  rfl
theorem bArr_set (l : List Bool) (k : Nat) (b : Bool) : (bArr l).setIfInBounds k (.bool b) = bArr (l.set k b) := by
  unfold bArr
  rw [List.setIfInBounds_toArray, List.map_set]
def uptoB (k : Nat) : List Bool := (List.range 7).map fun i => decide (i < k)
theorem k7 {k : Nat} (h : k < 7) : k = 0 ∨ k = 1 ∨ k = 2 ∨ k = 3 ∨ k = 4 ∨ k = 5 ∨ k = 6 := by omega
theorem uptoB_set {k : Nat} (h : k < 7) : (uptoB k).set k true = uptoB (k + 1) := by
  rcases k7 h with rfl | rfl | rfl | rfl | rfl | rfl | rfl <;> rfl
theorem uptoB_len (k : Nat) : (uptoB k).length = 7 := by unfold uptoB; rw [List.length_map, List.length_range]
theorem uptoB_one {k : Nat} (h : 1 ≤ k) (h7 : k ≤ 7) : 1 ≤ wcount (uptoB k) := by
  have e : k = 1 ∨ k = 2 ∨ k = 3 ∨ k = 4 ∨ k = 5 ∨ k = 6 ∨ k = 7 := by omega
  rcases e with rfl | rfl | rfl | rfl | rfl | rfl | rfl <;> decide
def manyTo (l : List Bool) (p k : Nat) : Nat := ((List.range k).filter fun i => l.getD i false && decide (i ≠ p)).length
theorem many_le (l : List Bool) (p k : Nat) : manyTo l p k ≤ k := Nat.le_trans (List.length_filter_le _ _) (by rw [List.length_range]; exact Nat.le_refl _)
theorem many_yes {l : List Bool} {p k : Nat} (h : l.getD k false = true) (hp : k ≠ p) : manyTo l p (k + 1) = manyTo l p k + 1 := by
  unfold manyTo
  rw [List.range_succ, List.filter_append, List.filter_cons_of_pos (by rw [h, decide_eq_true hp]; rfl), List.filter_nil, List.length_append]
  rfl
theorem many_no {l : List Bool} {p k : Nat} (h : l.getD k false = false ∨ k = p) : manyTo l p (k + 1) = manyTo l p k := by
  unfold manyTo
  rw [List.range_succ, List.filter_append, List.filter_cons_of_neg, List.filter_nil, List.append_nil]
  rcases h with h | h
  · rw [h]; simp
  · rw [decide_eq_false (fun e => e h)]; simp
theorem many_set {l : List Bool} (hl : l.length = 7) {p : Nat} (hp : p < 7) (j : Bool) : wcount (l.set p j) = manyTo l p 7 + (if j then 1 else 0) := by
  obtain ⟨a0, a1, a2, a3, a4, a5, a6, rfl⟩ := seven hl
  rcases k7 hp with rfl | rfl | rfl | rfl | rfl | rfl | rfl <;> revert a0 a1 a2 a3 a4 a5 a6 j <;> decide
theorem many_none {l : List Bool} (hl : l.length = 7) {p : Nat} (hp : p < 7) (h1 : 1 ≤ wcount l) : (l[p]? = some true ∧ wcount l = 1) ↔ manyTo l p 7 = 0 := by
  obtain ⟨a0, a1, a2, a3, a4, a5, a6, rfl⟩ := seven hl
  rcases k7 hp with rfl | rfl | rfl | rfl | rfl | rfl | rfl <;> revert a0 a1 a2 a3 a4 a5 a6 <;> decide
def atTo (l : List Bool) (k : Nat) : Nat := ((List.range k).filter fun i => l.getD i false).length
theorem at_le (l : List Bool) (k : Nat) : atTo l k ≤ k := Nat.le_trans (List.length_filter_le _ _) (by rw [List.length_range]; exact Nat.le_refl _)
theorem at_yes {l : List Bool} {k : Nat} (h : l.getD k false = true) : atTo l (k + 1) = atTo l k + 1 := by
  unfold atTo
  rw [List.range_succ, List.filter_append, List.filter_cons_of_pos (p := fun i => l.getD i false) h, List.filter_nil, List.length_append]
  rfl
theorem at_no {l : List Bool} {k : Nat} (h : l.getD k false = false) : atTo l (k + 1) = atTo l k := by
  unfold atTo
  rw [List.range_succ, List.filter_append, List.filter_cons_of_neg (p := fun i => l.getD i false) (by rw [h]; decide), List.filter_nil, List.append_nil]
theorem at_is {l : List Bool} (hl : l.length = 7) {k : Nat} (hk : k < 7) (h : l.getD k false = true) : (wlist l)[atTo l k]? = some k := by
  obtain ⟨a0, a1, a2, a3, a4, a5, a6, rfl⟩ := seven hl
  rcases k7 hk with rfl | rfl | rfl | rfl | rfl | rfl | rfl <;> revert a0 a1 a2 a3 a4 a5 a6 <;> decide
theorem at_all (l : List Bool) : atTo l 7 = (wlist l).length := rfl
theorem wrow_own {w : World} {B : Nat} {ao : Option Addr} {n cp : Nat} {l : List Nat} (h : w.ownsRow B 3 1 (.slice ao n cp) n (wCells l)) (hn : n = l.length) : ∀ (i k : Nat), l[i]? = some k → ∃ b off, ao = some ⟨b, off, none⟩ ∧ b < w.heap.size ∧ w.cell? ⟨b, off + i, none⟩ = some (.int .i64 (k : Int)) := by
  intro i k hi
  obtain ⟨hi2, _⟩ := List.getElem?_eq_some_iff.1 hi
  rcases h.2 with ⟨h1, h2⟩ | ⟨g, cap, cur, hv, hg, hh, hn2, _, hs, ht⟩
  · omega
  · cases hv
    refine ⟨g, 0, rfl, heap_lt hh, ?_⟩
    rw [Lib.cell_of_heap hh]
    have e : (wCells l)[i]? = some (.int .i64 (k : Int)) := by unfold wCells; rw [List.getElem?_map, hi]; rfl
    rw [← ht, List.getElem?_take, if_pos (by omega)] at e
    simpa using e
def kdOf (j : Bool) : Int := if j then 10 else 11
def wantC (j : Bool) (p : Nat) : CM := ⟨kdOf j, ⟨#[]⟩, ⟨#[]⟩, 0, ⟨#[]⟩, ⟨#[]⟩, (p : Int), 0, 0⟩
theorem wantC_right (j : Bool) {p : Nat} (hp : p < 7) : (wantC j p).right = true := by
  cases j <;> rcases k7 hp with rfl | rfl | rfl | rfl | rfl | rfl | rfl <;> kernel_rfl
theorem wantC_ok (j : Bool) (p : Nat) : (wantC j p).ok := ⟨Nat.zero_le _, Nat.zero_le _, Nat.zero_le _, Nat.zero_le _⟩
theorem want_not {X : MS} {p : Nat} (hl : X.wan.length = 7) (hp : p < 7) (h1 : 1 ≤ wcount X.wan) (h0 : manyTo X.wan p 7 = 0) : (applyM X (rencP (wantC false p)).data.toList).1.code = 7 ∧ (applyM X (rencP (wantC false p)).data.toList).2.wan = X.wan := by
  rw [apply_right X _ (wantC_right false hp)]
  show (leaveM (X.tick _) (wantC false p)).1.code = 7 ∧ (leaveM (X.tick _) (wantC false p)).2.wan = X.wan
  unfold leaveM
  have e : (X.tick (rencP (wantC false p)).data.toList).wan[(wantC false p).n.toNat]? = some true ∧ wcount (X.tick (rencP (wantC false p)).data.toList).wan = 1 := (many_none hl hp h1).2 h0
  rw [if_pos e]
  exact ⟨rfl, rfl⟩
theorem want_do {X : MS} {p : Nat} {j : Bool} (hl : X.wan.length = 7) (hp : p < 7) (h1 : 1 ≤ wcount X.wan) (h0 : j = true ∨ manyTo X.wan p 7 ≠ 0) : (applyM X (rencP (wantC j p)).data.toList).1.code = 0 ∧ (applyM X (rencP (wantC j p)).data.toList).1.n = ((manyTo X.wan p 7 + (if j then 1 else 0) : Nat) : Int) ∧ (applyM X (rencP (wantC j p)).data.toList).2.wan = X.wan.set p j ∧ 1 ≤ wcount (X.wan.set p j) := by
  rw [apply_right X _ (wantC_right j hp), many_set hl hp j]
  cases j with
  | true =>
    show (joinM (X.tick _) (wantC true p)).1.code = 0 ∧ (joinM (X.tick _) (wantC true p)).1.n = _ ∧ (joinM (X.tick _) (wantC true p)).2.wan = _ ∧ _
    refine ⟨rfl, ?_, rfl, Nat.le_add_left _ _⟩
    show (wcount (X.wan.set p true) : Int) = _
    rw [many_set hl hp true]
  | false =>
    have hm : manyTo X.wan p 7 ≠ 0 := h0.elim (fun e => by cases e) id
    show (leaveM (X.tick _) (wantC false p)).1.code = 0 ∧ (leaveM (X.tick _) (wantC false p)).1.n = _ ∧ (leaveM (X.tick _) (wantC false p)).2.wan = _ ∧ _
    unfold leaveM
    have e : ¬ ((X.tick (rencP (wantC false p)).data.toList).wan[(wantC false p).n.toNat]? = some true ∧ wcount (X.tick (rencP (wantC false p)).data.toList).wan = 1) := fun q => hm ((many_none hl hp h1).1 q)
    rw [if_neg e]
    refine ⟨rfl, ?_, rfl, by show 1 ≤ manyTo X.wan p 7 + 0; omega⟩
    show (wcount (X.wan.set p false) : Int) = _
    rw [many_set hl hp false]
theorem _root_.Go.Proofs.YtlfodldlkchmoaaGreat.BoolsAt.belowW {w w1 : World} {ao : Option Addr} {l : List Bool} (h : BoolsAt w ao l) (hb : Below w.heap.size w w1) : BoolsAt w1 ao l := fun i hi => by
  obtain ⟨b, off, h1, h2, h3⟩ := h i hi
  exact ⟨b, off, h1, Nat.lt_of_lt_of_le h2 hb.size, (hb.cell (p := ⟨b, _, none⟩) h2).trans h3⟩
theorem _root_.Go.Proofs.YtlfodldlkchmoaaGreat.IntsAt.belowW {w w1 : World} {ao : Option Addr} {l : List Int} (h : IntsAt w ao l) (hb : Below w.heap.size w w1) : IntsAt w1 ao l := fun i hi => by
  obtain ⟨b, off, h1, h2, h3⟩ := h i hi
  exact ⟨b, off, h1, Nat.lt_of_lt_of_le h2 hb.size, (hb.cell (p := ⟨b, _, none⟩) h2).trans h3⟩
structure WW (w0 w : World) (L : LM) (X : MS) (ib : Nat) (I : List Bool) : Prop where
  m : MAt w L X
  row : w.heap[ib]? = some (.cells (bArr I) 4 (0, 0))
  no : ¬ L.own ib
  bel : Below w0.heap.size w0 w
  ol : ∀ j, L.own j → w0.heap.size ≤ j
  ib0 : w0.heap.size ≤ ib
theorem WW.to {w0 w w' : World} {L : LM} {X : MS} {ib : Nat} {I : List Bool} (h : WW w0 w L X ib I) (b : Below w.heap.size w w') : WW w0 w' L X ib I :=
  ⟨h.m.below b, Below.at b h.row, h.no, h.bel.trans (b.mono h.bel.size), h.ol, h.ib0⟩
theorem WW.set {w0 w : World} {L : LM} {X : MS} {ib : Nat} {I : List Bool} (h : WW w0 w L X ib I) (p : Nat) (j : Bool) : WW w0 (w.setCell ⟨ib, p, none⟩ (.bool j)) L X ib (I.set p j) := by
  have t : Touch (fun k => k = ib) w (w.setCell ⟨ib, p, none⟩ (.bool j)) := (Touch.refl _ w).setCell ⟨ib, p, none⟩ _ (fun _ => rfl)
  refine ⟨h.m.keep t fun k e e2 => h.no (by rw [← e2]; exact e), ?_, h.no, h.bel.trans (t.toBelow h.bel.size fun k hk e => by have := h.ib0; omega), h.ol, h.ib0⟩
  have := wset (o := p) (x := .bool j) h.row
  rw [bArr_set] at this
  exact this
theorem WW.step {w0 w w' : World} {L L' : LM} {X X' : MS} {ib : Nat} {I : List Bool} (h : WW w0 w L X ib I) (s : MStep w w' L L') (m : MAt w' L' X') : WW w0 w' L' X' ib I := by
  refine ⟨m, s.touch.at h.row h.no, fun e => ?_, h.bel.trans (s.touch.toBelow h.bel.size fun k hk e => by have := h.ol k e; omega), fun j e => ?_, h.ib0⟩
  · rcases s.own _ e with e2 | e2
    · exact h.no e2
    · have := heap_lt h.row; omega
  · rcases s.own _ e with e2 | e2
    · exact h.ol j e2
    · exact Nat.le_trans h.bel.size e2
theorem wants_walk (n : Int) (ao bo : Option Addr) (cp cq : Nat) (us : List Int) (ls : List Bool) (w : World) (hG : IntsAt w ao us) (hU : ∀ m ∈ us, In64 m) (hL : BoolsAt w bo ls) :
    Calls Tryz.prog 7 #[.int .i64 n, .slice ao us.length cp, .slice bo ls.length cq] w fun e w' => e = .returned (.bool true) ∧ Below w.heap.size w w' := by
  go_enter Tryz.func7, Tryz.ntmps7
  refine wp_seq (reg_mono (wa_r0 (by kernel_rfl) _ (v := ⟨_, _, _, _, _, _, _, _, _, _, _, _, _, _, _, _, _, _⟩) ⟨rfl, rfl, rfl, rfl, rfl, rfl, rfl, rfl, rfl, rfl, rfl, rfl, rfl, rfl, rfl, rfl, rfl, rfl, rfl, rfl⟩ ?_))
  intro a0 F0
  try dsimp only at F0
  refine wp_seq (reg_mono (wa_r1 (by kernel_rfl) _ F0 (pexamples w) ?_))
  intro a1 w2 F1 b12
  try dsimp only at F1
  have hG2 := hG.belowW b12
  have hL2 := hL.belowW b12
  have HN := pmnew n w2
  by_cases hn : 1 ≤ n ∧ n ≤ 7
  case neg =>
    refine wp_seq (reg_mono (wa_r2 (ec := 1) (R := fun po W => po = none ∧ Below w2.heap.size w2 W) (by kernel_rfl) _ F1 rfl (HN.mono fun e u q => ?_) ?_))
    · rcases q with ⟨_, q2, q3⟩ | ⟨q1, q2, _⟩
      · exact ⟨_, q2, rfl, q3⟩
      · exact absurd ⟨q1, q2⟩ hn
    rintro a2 w3 _ F2 ⟨rfl, b3⟩
    try dsimp only at F2
    refine wp_seq (wp_seq (reg_mono (wa_r3b (by kernel_rfl) _ F2 rfl ?_)))
    intro a3 F3 g3
    refine wp_cond_true g3 ?_
    show Code.wp _ _ _ _ _
    refine wp_seq (reg_mono (wa_r4 (by kernel_rfl) _ F3 rfl rfl ?_))
    intro a4 F4
    try dsimp only at F4
    refine wp_ret ?_
    simp only [Exit.then]
    exact wa_ret F4 rfl ⟨rfl, b12.trans (b3.mono b12.size)⟩
  obtain ⟨nn, rfl⟩ : ∃ nn : Nat, n = (nn : Int) := ⟨n.toNat, by omega⟩
  have hn1 : 1 ≤ nn := by omega
  have hn7 : nn ≤ 7 := by omega
  refine wp_seq (reg_mono (wa_r2 (ec := 0) (R := fun po W => ∃ L : LM, po = some ⟨L.b, 0, none⟩ ∧ MAt W L (MS.new nn) ∧ Below w2.heap.size w2 W ∧ ∀ j, L.own j → w2.heap.size ≤ j) (by kernel_rfl) _ F1 rfl (HN.mono fun e u q => ?_) ?_))
  · rcases q with ⟨q1, _⟩ | ⟨_, _, L, q1, q2, q3, q4⟩
    · exact absurd hn q1
    · exact ⟨_, q1, L, rfl, q2, q3, q4⟩
  rintro a2 w3 _ F2 ⟨L0, rfl, m0, b3, o0⟩
  try dsimp only at F2
  refine wp_seq (wp_seq (reg_mono (wa_r3g (by kernel_rfl) _ F2 rfl rfl ?_)))
  intro a3 F3 g3
  refine wp_cond_false g3 (wp_skip ?_)
  show Code.wp _ _ _ _ _
  refine wp_seq (reg_mono (wa_r5 (by kernel_rfl) _ F3 ?_))
  intro a5 F5
  try dsimp only at F5
  have W0 : WW w2 (w3.alloc (.cells none7 4)) L0 (MS.new nn) w3.heap.size (uptoB 0) := by
    refine ⟨m0.below ((Below.refl _ _).alloc (Nat.le_refl _) _), heap_alloc_new _ _, fun e => ?_, b3.trans (((Below.refl _ _).alloc (Nat.le_refl _) _).mono b3.size), o0, b3.size⟩
    have := m0.lim _ e
    omega
  generalize w3.alloc (.cells none7 4) = w5 at *
  generalize w3.heap.size = ib at *
  refine wp_seq (wp_seq (reg_mono (wa_r6 (by kernel_rfl) _ F5 ?_)))
  intro a6 F6
  try dsimp only at F6
  generalize HNW : MS.new nn = X0 at W0
  have hX0 : X0.wan = uptoB nn ∧ X0.Ok 0 ∧ X0.cnt ≤ 0 := by subst HNW; exact ⟨rfl, MS.Ok.new _, Nat.le_refl _⟩
  refine wp_block (wp_loop (fun a W => ∃ (k : Nat) (v : Vwa), k ≤ nn ∧ Fwa a v ∧ v.v0 = .int .i64 (nn : Int) ∧ v.v1 = .slice ao us.length cp ∧ v.v2 = .slice bo ls.length cq ∧ v.v7 = .bool true ∧ v.v8 = .pointer (some ⟨L0.b, 0, none⟩) ∧ v.v10 = .slice (some ⟨ib, 0, none⟩) 7 7 ∧ v.v11 = .int .i64 (k : Int) ∧ WW w2 W L0 X0 ib (uptoB k)) (fun a _ => nn - (intOf (a.tmps.getD 11 undef)).toNat) ⟨0, _, Nat.zero_le _, F6, rfl, rfl, rfl, rfl, rfl, rfl, rfl, W0⟩ ?_)
  clear F0 F1 F2 F3 F5 F6 W0 m0 o0 b3 g3 HN HNW
  rintro a W ⟨k, v, hk, F, q0, q1, q2, q7, q8, q10, q11, T⟩
  have hmk : (intOf (a.tmps.getD 11 undef)).toNat = k := by rw [F.s11, q11]; simp [intOf]
  obtain ⟨v0, v1, v2, v6, v7, v8, v9, v10, v11, v12, v13, v14, v15, v16, v17, v18, v19, v20⟩ := v
  simp only at q0 q1 q2 q7 q8 q10 q11
  subst q0 q1 q2 q7 q8 q10 q11
  refine wp_seq (wp_seq (reg_mono (wa_r7 (by kernel_rfl) _ F rfl rfl ?_)))
  intro a7 F7 g7
  by_cases hlt : k < nn
  case pos =>
    rw [decide_eq_true (show (k : Int) < (nn : Int) by omega)] at g7
    refine wp_cond_true g7 (wp_skip ?_)
    show Code.wp _ _ _ _ _
    refine wp_seq (wp_block ?_)
    refine reg_all (wa_r9 (by kernel_rfl) _ F7 rfl rfl T.row (by omega) (bArr_get (uptoB_len k) (by omega)) ?_)
    intro a9 F9
    try dsimp only at F9
    have T9 := T.set k true
    rw [uptoB_set (show k < 7 by omega)] at T9
    show Code.wp _ _ _ _ _
    refine reg_mono (wa_r8 (by kernel_rfl) _ F9 rfl (by omega) ?_)
    intro a8 F8
    try dsimp only at F8
    refine ⟨⟨k + 1, _, hlt, F8, rfl, rfl, rfl, rfl, rfl, rfl, rfl, T9⟩, ?_⟩
    rw [hmk, F8.s11]
    simp [intOf]
    omega
  rw [decide_eq_false (show ¬ (k : Int) < (nn : Int) by omega)] at g7
  refine wp_cond_false g7 (wp_exit ?_)
  show Code.wp _ _ _ _ _
  obtain rfl : k = nn := by omega
  refine wp_seq (wp_seq (reg_mono (wa_r10 (by kernel_rfl) _ F7 ?_)))
  intro a10 F10
  try dsimp only at F10
  obtain ⟨x1, x2, x3⟩ := hX0
  have h1 := uptoB_one hn1 hn7
  rw [← x1] at T h1
  refine wp_block (wp_loop (fun a W => ∃ (k : Nat) (L : LM) (X : MS) (v : Vwa), k ≤ us.length ∧ k ≤ ls.length ∧ k ≤ 40 ∧ Fwa a v ∧ v.v1 = .slice ao us.length cp ∧ v.v2 = .slice bo ls.length cq ∧ v.v7 = .bool true ∧ v.v8 = .pointer (some ⟨L.b, 0, none⟩) ∧ v.v10 = .slice (some ⟨ib, 0, none⟩) 7 7 ∧ v.v12 = .int .i64 (k : Int) ∧ WW w2 W L X ib X.wan ∧ X.Ok k ∧ X.cnt ≤ k ∧ 1 ≤ wcount X.wan) (fun a _ => us.length - (intOf (a.tmps.getD 12 undef)).toNat) ⟨0, L0, X0, _, Nat.zero_le _, Nat.zero_le _, Nat.zero_le _, F10, rfl, rfl, rfl, rfl, rfl, rfl, T, x2, x3, h1⟩ ?_)
  clear F F7 F10 T hmk g7 x1 x2 x3 h1 hlt hn
  rintro a W ⟨i, L, X, v, hi1, hi2, hi3, F, q1, q2, q7, q8, q10, q12, T, hX, hXc, h1⟩
  have hmk : (intOf (a.tmps.getD 12 undef)).toNat = i := by rw [F.s12, q12]; simp [intOf]
  obtain ⟨v0, v1, v2, v6, v7, v8, v9, v10, v11, v12, v13, v14, v15, v16, v17, v18, v19, v20⟩ := v
  simp only at q1 q2 q7 q8 q10 q12
  subst q1 q2 q7 q8 q10 q12
  have hlen := hX.wan
  refine wp_midR (fun a' W' => Fwa a' ⟨v0, .slice ao us.length cp, .slice bo ls.length cq, v6, .bool true, .pointer (some ⟨L.b, 0, none⟩), v9, .slice (some ⟨ib, 0, none⟩) 7 7, v11, .int .i64 (i : Int), v13, v14, v15, v16, v17, v18, v19, v20⟩ ∧ W' = W ∧ i < us.length ∧ i < ls.length ∧ i < 40) ?_ ?_
  · by_cases c1 : (i : Int) < (us.length : Int)
    · by_cases c2 : (i : Int) < (ls.length : Int)
      · refine wp_seq (reg_mono (wa_r11c (by kernel_rfl) _ F rfl rfl rfl c1 c2 ?_))
        intro a11 F11 g11
        by_cases c3 : (i : Int) < 40
        · rw [decide_eq_true c3] at g11
          refine wp_cond_true g11 (wp_skip ?_)
          exact ⟨F11, rfl, by omega, by omega, by omega⟩
        · rw [decide_eq_false c3] at g11
          refine wp_cond_false g11 (wp_exit ?_)
          show Code.wp _ _ _ _ _
          refine wp_seq (reg_mono (wa_r35 (ln := (wlist X.wan).length) (R := fun xo xc u => u.ownsRow W.heap.size 3 1 (.slice xo (wlist X.wan).length xc) (wlist X.wan).length (wCells (wlist X.wan)) ∧ Below W.heap.size W u) (by kernel_rfl) _ F11 rfl ((pmwanted T.m).mono fun e u q => ?_) ?_))
          · obtain ⟨xo, xc, e1, e2, e3⟩ := q
            exact ⟨xo, xc, e1, e2, e3⟩
          rintro a35 w35 xo xc F35 ⟨o35, b35⟩
          try dsimp only at F35
          have T35 := T.to b35
          have HL := wrow_own o35 rfl
          refine wp_seq (reg_mono (wa_r36 (by kernel_rfl) _ F35 ?_))
          intro a36 F36
          try dsimp only at F36
          refine wp_seq (wp_seq (reg_mono (wa_r37 (by kernel_rfl) _ F36 ?_)))
          intro a37 F37
          try dsimp only at F37
          refine wp_block (wp_loop (fun a' W' => ∃ t : Nat, t ≤ 7 ∧ Fwa a' ⟨v0, .slice ao us.length cp, .slice bo ls.length cq, v6, .bool true, .pointer (some ⟨L.b, 0, none⟩), v9, .slice (some ⟨ib, 0, none⟩) 7 7, v11, .int .i64 (i : Int), v13, v14, v15, v16, v17, .slice xo (wlist X.wan).length xc, .int .i64 ((atTo X.wan t : Nat) : Int), .int .i64 (t : Int)⟩ ∧ W' = w35) (fun a' _ => 7 - (intOf (a'.tmps.getD 20 undef)).toNat) ⟨0, Nat.zero_le _, F37, rfl⟩ ?_)
          rintro ai _ ⟨t, ht, Fi, rfl⟩
          have hmt : (intOf (ai.tmps.getD 20 undef)).toNat = t := by rw [Fi.s20]; simp [intOf]
          refine wp_seq (wp_seq (reg_mono (wa_r38 (by kernel_rfl) _ Fi rfl ?_)))
          intro a38 F38 g38
          by_cases ht7 : t < 7
          case neg =>
            rw [decide_eq_false (show ¬ (t : Int) < 7 by omega)] at g38
            refine wp_cond_false g38 (wp_exit ?_)
            show Code.wp _ _ _ _ _
            obtain rfl : t = 7 := by omega
            rw [at_all] at F38
            refine wp_seq (reg_mono (wa_r44 (by kernel_rfl) _ F38 rfl rfl rfl ?_))
            intro a44 F44
            try dsimp only at F44
            refine wp_ret ?_
            exact wa_ret F44 rfl ⟨rfl, b12.trans (T35.bel.mono b12.size)⟩
          rw [decide_eq_true (show (t : Int) < 7 by omega)] at g38
          refine wp_cond_true g38 (wp_skip ?_)
          show Code.wp _ _ _ _ _
          have gt := bArr_get hlen ht7
          refine wp_seq (wp_block ?_)
          by_cases hy : X.wan.getD t false = true
          · rw [hy] at gt
            refine wp_seq (reg_mono (wa_r40 (by kernel_rfl) _ F38 rfl rfl T35.row ht7 gt ?_))
            intro a40 F40 g40
            refine wp_cond_true g40 ?_
            show Code.wp _ _ _ _ _
            have hat := at_is hlen ht7 hy
            obtain ⟨hat2, _⟩ := List.getElem?_eq_some_iff.1 hat
            obtain ⟨xb, xf, rfl, _, hc⟩ := HL _ _ hat
            refine wp_seq (wp_seq (reg_mono (wa_r41 (by kernel_rfl) _ F40 rfl rfl rfl hat2 hc ?_)))
            intro a41 F41 g41
            refine wp_cond_false g41 (wp_skip ?_)
            show Code.wp _ _ _ _ _
            refine reg_all (wa_r43 (by kernel_rfl) _ F41 rfl (by have := at_le X.wan t; omega) ?_)
            intro a43 F43
            try dsimp only at F43
            show Code.wp _ _ _ _ _
            refine reg_mono (wa_r39 (by kernel_rfl) _ F43 rfl (by omega) ?_)
            intro a39 F39
            try dsimp only at F39
            rw [← at_yes hy] at F39
            refine ⟨⟨t + 1, ht7, F39, rfl⟩, ?_⟩
            rw [hmt, F39.s20]
            simp [intOf]
            omega
          · have hy2 : X.wan.getD t false = false := by cases hb : X.wan.getD t false with
              | true => exact absurd hb hy
              | false => rfl
            rw [hy2] at gt
            refine wp_seq (reg_mono (wa_r40 (by kernel_rfl) _ F38 rfl rfl T35.row ht7 gt ?_))
            intro a40 F40 g40
            refine wp_cond_false g40 (wp_skip ?_)
            show Code.wp _ _ _ _ _
            refine reg_mono (wa_r39 (by kernel_rfl) _ F40 rfl (by omega) ?_)
            intro a39 F39
            try dsimp only at F39
            rw [← at_no hy2] at F39
            refine ⟨⟨t + 1, ht7, F39, rfl⟩, ?_⟩
            rw [hmt, F39.s20]
            simp [intOf]
            omega
      · refine wp_seq (reg_mono (wa_r11b (by kernel_rfl) _ F rfl rfl rfl c1 c2 ?_))
        intro a11 F11 g11
        refine wp_cond_false g11 (wp_exit ?_)
        show Code.wp _ _ _ _ _
        refine wp_seq (reg_mono (wa_r35 (ln := (wlist X.wan).length) (R := fun xo xc u => u.ownsRow W.heap.size 3 1 (.slice xo (wlist X.wan).length xc) (wlist X.wan).length (wCells (wlist X.wan)) ∧ Below W.heap.size W u) (by kernel_rfl) _ F11 rfl ((pmwanted T.m).mono fun e u q => ?_) ?_))
        · obtain ⟨xo, xc, e1, e2, e3⟩ := q
          exact ⟨xo, xc, e1, e2, e3⟩
        rintro a35 w35 xo xc F35 ⟨o35, b35⟩
        try dsimp only at F35
        have T35 := T.to b35
        have HL := wrow_own o35 rfl
        refine wp_seq (reg_mono (wa_r36 (by kernel_rfl) _ F35 ?_))
        intro a36 F36
        try dsimp only at F36
        refine wp_seq (wp_seq (reg_mono (wa_r37 (by kernel_rfl) _ F36 ?_)))
        intro a37 F37
        try dsimp only at F37
        refine wp_block (wp_loop (fun a' W' => ∃ t : Nat, t ≤ 7 ∧ Fwa a' ⟨v0, .slice ao us.length cp, .slice bo ls.length cq, v6, .bool true, .pointer (some ⟨L.b, 0, none⟩), v9, .slice (some ⟨ib, 0, none⟩) 7 7, v11, .int .i64 (i : Int), v13, v14, v15, v16, v17, .slice xo (wlist X.wan).length xc, .int .i64 ((atTo X.wan t : Nat) : Int), .int .i64 (t : Int)⟩ ∧ W' = w35) (fun a' _ => 7 - (intOf (a'.tmps.getD 20 undef)).toNat) ⟨0, Nat.zero_le _, F37, rfl⟩ ?_)
        rintro ai _ ⟨t, ht, Fi, rfl⟩
        have hmt : (intOf (ai.tmps.getD 20 undef)).toNat = t := by rw [Fi.s20]; simp [intOf]
        refine wp_seq (wp_seq (reg_mono (wa_r38 (by kernel_rfl) _ Fi rfl ?_)))
        intro a38 F38 g38
        by_cases ht7 : t < 7
        case neg =>
          rw [decide_eq_false (show ¬ (t : Int) < 7 by omega)] at g38
          refine wp_cond_false g38 (wp_exit ?_)
          show Code.wp _ _ _ _ _
          obtain rfl : t = 7 := by omega
          rw [at_all] at F38
          refine wp_seq (reg_mono (wa_r44 (by kernel_rfl) _ F38 rfl rfl rfl ?_))
          intro a44 F44
          try dsimp only at F44
          refine wp_ret ?_
          exact wa_ret F44 rfl ⟨rfl, b12.trans (T35.bel.mono b12.size)⟩
        rw [decide_eq_true (show (t : Int) < 7 by omega)] at g38
        refine wp_cond_true g38 (wp_skip ?_)
        show Code.wp _ _ _ _ _
        have gt := bArr_get hlen ht7
        refine wp_seq (wp_block ?_)
        by_cases hy : X.wan.getD t false = true
        · rw [hy] at gt
          refine wp_seq (reg_mono (wa_r40 (by kernel_rfl) _ F38 rfl rfl T35.row ht7 gt ?_))
          intro a40 F40 g40
          refine wp_cond_true g40 ?_
          show Code.wp _ _ _ _ _
          have hat := at_is hlen ht7 hy
          obtain ⟨hat2, _⟩ := List.getElem?_eq_some_iff.1 hat
          obtain ⟨xb, xf, rfl, _, hc⟩ := HL _ _ hat
          refine wp_seq (wp_seq (reg_mono (wa_r41 (by kernel_rfl) _ F40 rfl rfl rfl hat2 hc ?_)))
          intro a41 F41 g41
          refine wp_cond_false g41 (wp_skip ?_)
          show Code.wp _ _ _ _ _
          refine reg_all (wa_r43 (by kernel_rfl) _ F41 rfl (by have := at_le X.wan t; omega) ?_)
          intro a43 F43
          try dsimp only at F43
          show Code.wp _ _ _ _ _
          refine reg_mono (wa_r39 (by kernel_rfl) _ F43 rfl (by omega) ?_)
          intro a39 F39
          try dsimp only at F39
          rw [← at_yes hy] at F39
          refine ⟨⟨t + 1, ht7, F39, rfl⟩, ?_⟩
          rw [hmt, F39.s20]
          simp [intOf]
          omega
        · have hy2 : X.wan.getD t false = false := by cases hb : X.wan.getD t false with
            | true => exact absurd hb hy
            | false => rfl
          rw [hy2] at gt
          refine wp_seq (reg_mono (wa_r40 (by kernel_rfl) _ F38 rfl rfl T35.row ht7 gt ?_))
          intro a40 F40 g40
          refine wp_cond_false g40 (wp_skip ?_)
          show Code.wp _ _ _ _ _
          refine reg_mono (wa_r39 (by kernel_rfl) _ F40 rfl (by omega) ?_)
          intro a39 F39
          try dsimp only at F39
          rw [← at_no hy2] at F39
          refine ⟨⟨t + 1, ht7, F39, rfl⟩, ?_⟩
          rw [hmt, F39.s20]
          simp [intOf]
          omega
    · refine wp_seq (reg_mono (wa_r11a (by kernel_rfl) _ F rfl rfl rfl c1 ?_))
      intro a11 F11 g11
      refine wp_cond_false g11 (wp_exit ?_)
      show Code.wp _ _ _ _ _
      refine wp_seq (reg_mono (wa_r35 (ln := (wlist X.wan).length) (R := fun xo xc u => u.ownsRow W.heap.size 3 1 (.slice xo (wlist X.wan).length xc) (wlist X.wan).length (wCells (wlist X.wan)) ∧ Below W.heap.size W u) (by kernel_rfl) _ F11 rfl ((pmwanted T.m).mono fun e u q => ?_) ?_))
      · obtain ⟨xo, xc, e1, e2, e3⟩ := q
        exact ⟨xo, xc, e1, e2, e3⟩
      rintro a35 w35 xo xc F35 ⟨o35, b35⟩
      try dsimp only at F35
      have T35 := T.to b35
      have HL := wrow_own o35 rfl
      refine wp_seq (reg_mono (wa_r36 (by kernel_rfl) _ F35 ?_))
      intro a36 F36
      try dsimp only at F36
      refine wp_seq (wp_seq (reg_mono (wa_r37 (by kernel_rfl) _ F36 ?_)))
      intro a37 F37
      try dsimp only at F37
      refine wp_block (wp_loop (fun a' W' => ∃ t : Nat, t ≤ 7 ∧ Fwa a' ⟨v0, .slice ao us.length cp, .slice bo ls.length cq, v6, .bool true, .pointer (some ⟨L.b, 0, none⟩), v9, .slice (some ⟨ib, 0, none⟩) 7 7, v11, .int .i64 (i : Int), v13, v14, v15, v16, v17, .slice xo (wlist X.wan).length xc, .int .i64 ((atTo X.wan t : Nat) : Int), .int .i64 (t : Int)⟩ ∧ W' = w35) (fun a' _ => 7 - (intOf (a'.tmps.getD 20 undef)).toNat) ⟨0, Nat.zero_le _, F37, rfl⟩ ?_)
      rintro ai _ ⟨t, ht, Fi, rfl⟩
      have hmt : (intOf (ai.tmps.getD 20 undef)).toNat = t := by rw [Fi.s20]; simp [intOf]
      refine wp_seq (wp_seq (reg_mono (wa_r38 (by kernel_rfl) _ Fi rfl ?_)))
      intro a38 F38 g38
      by_cases ht7 : t < 7
      case neg =>
        rw [decide_eq_false (show ¬ (t : Int) < 7 by omega)] at g38
        refine wp_cond_false g38 (wp_exit ?_)
        show Code.wp _ _ _ _ _
        obtain rfl : t = 7 := by omega
        rw [at_all] at F38
        refine wp_seq (reg_mono (wa_r44 (by kernel_rfl) _ F38 rfl rfl rfl ?_))
        intro a44 F44
        try dsimp only at F44
        refine wp_ret ?_
        exact wa_ret F44 rfl ⟨rfl, b12.trans (T35.bel.mono b12.size)⟩
      rw [decide_eq_true (show (t : Int) < 7 by omega)] at g38
      refine wp_cond_true g38 (wp_skip ?_)
      show Code.wp _ _ _ _ _
      have gt := bArr_get hlen ht7
      refine wp_seq (wp_block ?_)
      by_cases hy : X.wan.getD t false = true
      · rw [hy] at gt
        refine wp_seq (reg_mono (wa_r40 (by kernel_rfl) _ F38 rfl rfl T35.row ht7 gt ?_))
        intro a40 F40 g40
        refine wp_cond_true g40 ?_
        show Code.wp _ _ _ _ _
        have hat := at_is hlen ht7 hy
        obtain ⟨hat2, _⟩ := List.getElem?_eq_some_iff.1 hat
        obtain ⟨xb, xf, rfl, _, hc⟩ := HL _ _ hat
        refine wp_seq (wp_seq (reg_mono (wa_r41 (by kernel_rfl) _ F40 rfl rfl rfl hat2 hc ?_)))
        intro a41 F41 g41
        refine wp_cond_false g41 (wp_skip ?_)
        show Code.wp _ _ _ _ _
        refine reg_all (wa_r43 (by kernel_rfl) _ F41 rfl (by have := at_le X.wan t; omega) ?_)
        intro a43 F43
        try dsimp only at F43
        show Code.wp _ _ _ _ _
        refine reg_mono (wa_r39 (by kernel_rfl) _ F43 rfl (by omega) ?_)
        intro a39 F39
        try dsimp only at F39
        rw [← at_yes hy] at F39
        refine ⟨⟨t + 1, ht7, F39, rfl⟩, ?_⟩
        rw [hmt, F39.s20]
        simp [intOf]
        omega
      · have hy2 : X.wan.getD t false = false := by cases hb : X.wan.getD t false with
          | true => exact absurd hb hy
          | false => rfl
        rw [hy2] at gt
        refine wp_seq (reg_mono (wa_r40 (by kernel_rfl) _ F38 rfl rfl T35.row ht7 gt ?_))
        intro a40 F40 g40
        refine wp_cond_false g40 (wp_skip ?_)
        show Code.wp _ _ _ _ _
        refine reg_mono (wa_r39 (by kernel_rfl) _ F40 rfl (by omega) ?_)
        intro a39 F39
        try dsimp only at F39
        rw [← at_no hy2] at F39
        refine ⟨⟨t + 1, ht7, F39, rfl⟩, ?_⟩
        rw [hmt, F39.s20]
        simp [intOf]
        omega
  rintro a11 w11 ⟨F11, rfl, l1, l2, l3⟩
  obtain ⟨ab, af, rfl, hab, hA⟩ := hG2 i l1
  obtain ⟨jb, jf, rfl, hjb, hJ⟩ := hL2 i l2
  have hIn := hU _ (List.getElem_mem l1)
  replace hA := (T.bel.cell (p := ⟨ab, _, none⟩) hab).trans hA
  have hJw : ∀ {W1 : World}, WW w2 W1 L X ib X.wan → W1.cell? ⟨jb, jf + i, none⟩ = some (.bool ls[i]) := fun t => (t.bel.cell (p := ⟨jb, _, none⟩) hjb).trans hJ
  have hJv : ∀ {W1 : World} {L1 : LM} {X1 : MS} {I1 : List Bool}, WW w2 W1 L1 X1 ib I1 → W1.cell? ⟨jb, jf + i, none⟩ = some (.bool ls[i]) := fun t => (t.bel.cell (p := ⟨jb, _, none⟩) hjb).trans hJ
  clear hJ hJw
  generalize ls[i] = j at *
  generalize us[i] = x at *
  refine wp_seq (wp_block ?_)
  refine wp_seq (reg_mono (wa_r13 (by kernel_rfl) _ F11 rfl rfl l1 hA ?_))
  intro a13 F13
  try dsimp only at F13
  refine wp_midR (fun a' W' => ∃ q : Nat, q ≤ 9223372036854775807 ∧ Fwa a' ⟨v0, .slice (some ⟨ab, af, none⟩) us.length cp, .slice (some ⟨jb, jf, none⟩) ls.length cq, v6, .bool true, .pointer (some ⟨L.b, 0, none⟩), v9, .slice (some ⟨ib, 0, none⟩) 7 7, v11, .int .i64 (i : Int), .int .i64 (q : Int), v14, v15, v16, v17, v18, v19, v20⟩ ∧ W' = w11) ?_ ?_
  · refine wp_seq (reg_mono (wa_r14 (by kernel_rfl) _ F13 rfl ?_))
    intro a14 F14 g14
    by_cases hx : x < 0
    · rw [decide_eq_true hx] at g14
      refine wp_cond_true g14 ?_
      refine reg_mono (wa_r15 (by kernel_rfl) _ F14 rfl ⟨hIn.1, hx⟩ ?_)
      intro a15 F15
      have e : -(x + 1) = (((-(x + 1)).toNat : Nat) : Int) := by have := hIn.1; omega
      rw [e] at F15
      exact ⟨_, by have := hIn.1; omega, F15, rfl⟩
    · rw [decide_eq_false hx] at g14
      refine wp_cond_false g14 (wp_skip ?_)
      have e : x = ((x.toNat : Nat) : Int) := by omega
      rw [e] at F14
      exact ⟨_, by have := hIn.2; omega, F14, rfl⟩
  rintro a14 w14 ⟨q, hq, F14, rfl⟩
  refine wp_seq (reg_mono (wa_r16 (by kernel_rfl) _ F14 rfl hq ?_))
  intro a16 F16
  try dsimp only at F16
  have hp : q % 7 < 7 := Nat.mod_lt _ (by decide)
  generalize q % 7 = p at *
  refine wp_seq (reg_mono (wa_r17 (by kernel_rfl) _ F16 ?_))
  intro a17 F17
  try dsimp only at F17
  refine wp_midR (fun a' W' => ∃ y : Value, Fwa a' ⟨v0, .slice (some ⟨ab, af, none⟩) us.length cp, .slice (some ⟨jb, jf, none⟩) ls.length cq, v6, .bool true, .pointer (some ⟨L.b, 0, none⟩), v9, .slice (some ⟨ib, 0, none⟩) 7 7, v11, .int .i64 (i : Int), .int .i64 (p : Int), .int .i64 ((manyTo X.wan p 7 : Nat) : Int), y, v16, v17, v18, v19, v20⟩ ∧ W' = w14) ?_ ?_
  · refine wp_seq (reg_mono (wa_r18 (by kernel_rfl) _ F17 ?_))
    intro a18 F18
    try dsimp only at F18
    refine wp_block (wp_loop (fun a' W' => ∃ t : Nat, t ≤ 7 ∧ Fwa a' ⟨v0, .slice (some ⟨ab, af, none⟩) us.length cp, .slice (some ⟨jb, jf, none⟩) ls.length cq, v6, .bool true, .pointer (some ⟨L.b, 0, none⟩), v9, .slice (some ⟨ib, 0, none⟩) 7 7, v11, .int .i64 (i : Int), .int .i64 (p : Int), .int .i64 ((manyTo X.wan p t : Nat) : Int), .int .i64 (t : Int), v16, v17, v18, v19, v20⟩ ∧ W' = w14) (fun a' _ => 7 - (intOf (a'.tmps.getD 15 undef)).toNat) ⟨0, Nat.zero_le _, F18, rfl⟩ ?_)
    rintro ai _ ⟨t, ht, Fi, rfl⟩
    have hmt : (intOf (ai.tmps.getD 15 undef)).toNat = t := by rw [Fi.s15]; simp [intOf]
    refine wp_seq (wp_seq (reg_mono (wa_r19 (by kernel_rfl) _ Fi rfl ?_)))
    intro a19 F19 g19
    by_cases ht7 : t < 7
    case neg =>
      rw [decide_eq_false (show ¬ (t : Int) < 7 by omega)] at g19
      refine wp_cond_false g19 (wp_exit ?_)
      obtain rfl : t = 7 := by omega
      exact ⟨_, F19, rfl⟩
    rw [decide_eq_true (show (t : Int) < 7 by omega)] at g19
    refine wp_cond_true g19 (wp_skip ?_)
    show Code.wp _ _ _ _ _
    have gt := bArr_get hlen ht7
    refine wp_seq (wp_block ?_)
    by_cases hy : X.wan.getD t false = true
    · rw [hy] at gt
      by_cases htp : t = p
      · subst htp
        refine wp_seq (reg_mono (wa_r21e (by kernel_rfl) _ F19 rfl rfl rfl T.row ht7 gt ?_))
        intro a21 F21 g21
        refine wp_cond_false g21 (wp_skip ?_)
        show Code.wp _ _ _ _ _
        refine reg_mono (wa_r20 (by kernel_rfl) _ F21 rfl (by omega) ?_)
        intro a20 F20
        try dsimp only at F20
        rw [← many_no (l := X.wan) (k := t) (p := t) (Or.inr rfl)] at F20
        refine ⟨⟨t + 1, ht7, F20, rfl⟩, ?_⟩
        rw [hmt, F20.s15]
        simp [intOf]
        omega
      · refine wp_seq (reg_mono (wa_r21n (by kernel_rfl) _ F19 rfl rfl rfl T.row ht7 gt htp ?_))
        intro a21 F21 g21
        refine wp_cond_true g21 ?_
        refine reg_all (wa_r22 (by kernel_rfl) _ F21 rfl (by have := many_le X.wan p t; omega) ?_)
        intro a22 F22
        try dsimp only at F22
        show Code.wp _ _ _ _ _
        refine reg_mono (wa_r20 (by kernel_rfl) _ F22 rfl (by omega) ?_)
        intro a20 F20
        try dsimp only at F20
        rw [← many_yes hy htp] at F20
        refine ⟨⟨t + 1, ht7, F20, rfl⟩, ?_⟩
        rw [hmt, F20.s15]
        simp [intOf]
        omega
    · have hy2 : X.wan.getD t false = false := by cases hb : X.wan.getD t false with
        | true => exact absurd hb hy
        | false => rfl
      rw [hy2] at gt
      refine wp_seq (reg_mono (wa_r21f (by kernel_rfl) _ F19 rfl rfl rfl T.row ht7 gt ?_))
      intro a21 F21 g21
      refine wp_cond_false g21 (wp_skip ?_)
      show Code.wp _ _ _ _ _
      refine reg_mono (wa_r20 (by kernel_rfl) _ F21 rfl (by omega) ?_)
      intro a20 F20
      try dsimp only at F20
      rw [← many_no (l := X.wan) (k := t) (p := p) (Or.inl hy2)] at F20
      refine ⟨⟨t + 1, ht7, F20, rfl⟩, ?_⟩
      rw [hmt, F20.s15]
      simp [intOf]
      omega
  rintro a18 w18 ⟨y15, F18, rfl⟩
  refine wp_seq (reg_mono (wa_r23 (by kernel_rfl) _ F18 ?_))
  intro a23 F23
  try dsimp only at F23
  refine wp_midR (fun a' W' => Fwa a' ⟨v0, .slice (some ⟨ab, af, none⟩) us.length cp, .slice (some ⟨jb, jf, none⟩) ls.length cq, v6, .bool true, .pointer (some ⟨L.b, 0, none⟩), v9, .slice (some ⟨ib, 0, none⟩) 7 7, v11, .int .i64 (i : Int), .int .i64 (p : Int), .int .i64 ((manyTo X.wan p 7 : Nat) : Int), y15, .int .i64 (kdOf j), v17, v18, v19, v20⟩ ∧ W' = w18) ?_ ?_
  · refine wp_seq (reg_mono (wa_r24 (by kernel_rfl) _ F23 rfl rfl l2 (hJv T) ?_))
    intro a24 F24 g24
    cases j with
    | true =>
      refine wp_cond_true g24 ?_
      refine reg_mono (wa_r25 (by kernel_rfl) _ F24 ?_)
      intro a25 F25
      exact ⟨F25, rfl⟩
    | false =>
      refine wp_cond_false g24 (wp_skip ?_)
      exact ⟨F24, rfl⟩
  rintro a24 w24 ⟨F24, rfl⟩
  have hok2 := apply_ok hX (by omega) (rencP (wantC j p)).data.toList
  have hct2 := (apply_cnt X (rencP (wantC j p)).data.toList).1
  have PD := pdo T.m hX (by omega) (by omega) (wantC j p) (wantC_ok j p)
  have hD1 := fun h0 => want_do (j := j) hlen hp h1 h0
  have hD2 : j = false → _ := fun e h0 => e ▸ want_not hlen hp h1 h0
  by_cases hz : j = false ∧ manyTo X.wan p 7 = 0
  · obtain ⟨rfl, hz⟩ := hz
    obtain ⟨p1, p2⟩ := want_not hlen hp h1 hz
    clear hD1 hD2
    generalize applyM X (rencP (wantC false p)).data.toList = P at *
    refine wp_seq (reg_mono (wa_r26 (x := 7) (y := P.1.n) (ln := P.1.recs.length) (R := fun aq cq u => ∃ L', MAt u L' P.2 ∧ MStep w24 u L L') (by kernel_rfl) _ F24 rfl rfl rfl (PD.mono fun e u q => ?_) ?_))
    · obtain ⟨aq, cr, e1, _, L', m', s', _⟩ := q
      rw [p1] at e1
      exact ⟨aq, cr, e1, L', m', s'⟩
    rintro a26 u26 aq cr F26 ⟨L', m26, s26⟩
    try dsimp only at F26
    have T26 := (T.step s26 m26).to ((Below.refl _ _).alloc (Nat.le_refl _) (.cells #[.int .i64 7, .int .i64 P.1.n, .slice aq P.1.recs.length cr] 37))
    have x26 := heap_alloc_new u26 (.cells #[.int .i64 7, .int .i64 P.1.n, .slice aq P.1.recs.length cr] 37)
    generalize u26.heap.size = rb at *
    generalize u26.alloc (.cells #[.int .i64 7, .int .i64 P.1.n, .slice aq P.1.recs.length cr] 37) = w26 at *
    have ea : L'.b = L.b := s26.b
    refine wp_seq (wp_seq (reg_mono (wa_r27z (by kernel_rfl) _ F26 rfl rfl rfl l2 (hJv T26) hz ?_)))
    intro a27 F27 g27
    rw [decide_eq_true hz] at g27
    refine wp_cond_true g27 ?_
    show Code.wp _ _ _ _ _
    refine wp_seq (wp_seq (reg_mono (wa_r28 (by kernel_rfl) _ F27 rfl x26 rfl ?_)))
    intro a28 F28 g28
    refine wp_cond_false g28 (wp_skip ?_)
    show Code.wp _ _ _ _ _
    refine wp_exit ?_
    show Code.wp _ _ _ _ _
    refine reg_mono (wa_r12 (by kernel_rfl) _ F28 rfl (by omega) ?_)
    intro a12 F12
    try dsimp only at F12
    rw [← p2] at T26 h1
    refine ⟨⟨i + 1, L', P.2, _, l1, l2, l3, F12, rfl, rfl, rfl, by rw [ea], rfl, rfl, T26, hok2, by omega, h1⟩, ?_⟩
    rw [hmk, F12.s12]
    simp [intOf]
    omega
  have hz2 : j = true ∨ manyTo X.wan p 7 ≠ 0 := by
    cases j with
    | true => exact Or.inl rfl
    | false => exact Or.inr fun e => hz ⟨rfl, e⟩
  obtain ⟨p1, p3, p2, h1'⟩ := hD1 hz2
  clear hD1 hD2
  generalize applyM X (rencP (wantC j p)).data.toList = P at *
  refine wp_seq (reg_mono (wa_r26 (x := 0) (y := P.1.n) (ln := P.1.recs.length) (R := fun aq cq u => ∃ L', MAt u L' P.2 ∧ MStep w24 u L L') (by kernel_rfl) _ F24 rfl rfl rfl (PD.mono fun e u q => ?_) ?_))
  · obtain ⟨aq, cr, e1, _, L', m', s', _⟩ := q
    rw [p1] at e1
    exact ⟨aq, cr, e1, L', m', s'⟩
  rintro a26 u26 aq cr F26 ⟨L', m26, s26⟩
  try dsimp only at F26
  have T26 := (T.step s26 m26).to ((Below.refl _ _).alloc (Nat.le_refl _) (.cells #[.int .i64 0, .int .i64 P.1.n, .slice aq P.1.recs.length cr] 37))
  have x26 := heap_alloc_new u26 (.cells #[.int .i64 0, .int .i64 P.1.n, .slice aq P.1.recs.length cr] 37)
  have n26 : u26.heap.size ≠ ib := fun e => by have := heap_lt (T.step s26 m26).row; omega
  generalize u26.heap.size = rb at *
  generalize u26.alloc (.cells #[.int .i64 0, .int .i64 P.1.n, .slice aq P.1.recs.length cr] 37) = w26 at *
  have ea : L'.b = L.b := s26.b
  refine wp_midR (fun a' W' => Fwa a' ⟨v0, .slice (some ⟨ab, af, none⟩) us.length cp, .slice (some ⟨jb, jf, none⟩) ls.length cq, v6, .bool true, .pointer (some ⟨L.b, 0, none⟩), v9, .slice (some ⟨ib, 0, none⟩) 7 7, v11, .int .i64 (i : Int), .int .i64 (p : Int), .int .i64 ((manyTo X.wan p 7 : Nat) : Int), y15, .int .i64 (kdOf j), .pointer (some ⟨rb, 0, none⟩), v18, v19, v20⟩ ∧ W' = w26) ?_ ?_
  · cases j with
    | true =>
      refine wp_seq (reg_mono (wa_r27j (by kernel_rfl) _ F26 rfl rfl l2 (hJv T26) ?_))
      intro a27 F27 g27
      refine wp_cond_false g27 (wp_skip ?_)
      exact ⟨F27, rfl⟩
    | false =>
      refine wp_seq (reg_mono (wa_r27n (by kernel_rfl) _ F26 rfl rfl rfl l2 (hJv T26) (fun e => hz ⟨rfl, e⟩) ?_))
      intro a27 F27 g27
      refine wp_cond_false g27 (wp_skip ?_)
      exact ⟨F27, rfl⟩
  rintro a27 w27 ⟨F27, rfl⟩
  refine wp_seq (reg_mono (wa_r30 (by kernel_rfl) _ F27 rfl rfl rfl rfl T26.row l2 (hJv T26) hp (bArr_get hlen hp) ?_))
  intro a30 F30
  try dsimp only at F30
  have T30 := T26.set p j
  have x30 : (w27.setCell ⟨ib, p, none⟩ (.bool j)).heap[rb]? = some (.cells #[.int .i64 0, .int .i64 P.1.n, .slice aq P.1.recs.length cr] 37 (0, 0)) := ((Touch.refl (fun k => k = ib) w27).setCell ⟨ib, p, none⟩ _ (fun _ => rfl)).at x26 n26
  generalize w27.setCell ⟨ib, p, none⟩ (.bool j) = w30 at *
  refine wp_midR (fun a' W' => Fwa a' ⟨v0, .slice (some ⟨ab, af, none⟩) us.length cp, .slice (some ⟨jb, jf, none⟩) ls.length cq, v6, .bool true, .pointer (some ⟨L.b, 0, none⟩), v9, .slice (some ⟨ib, 0, none⟩) 7 7, v11, .int .i64 (i : Int), .int .i64 (p : Int), .int .i64 ((manyTo X.wan p 7 + (if j then 1 else 0) : Nat) : Int), y15, .int .i64 (kdOf j), .pointer (some ⟨rb, 0, none⟩), v18, v19, v20⟩ ∧ W' = w30) ?_ ?_
  · refine wp_seq (reg_mono (wa_r31 (by kernel_rfl) _ F30 rfl rfl l2 (hJv T30) ?_))
    intro a31 F31 g31
    cases j with
    | true =>
      refine wp_cond_true g31 ?_
      refine reg_mono (wa_r32 (by kernel_rfl) _ F31 rfl (by have := many_le X.wan p 7; omega) ?_)
      intro a32 F32
      exact ⟨F32, rfl⟩
    | false =>
      refine wp_cond_false g31 (wp_skip ?_)
      exact ⟨F31, rfl⟩
  rintro a31 w31 ⟨F31, rfl⟩
  refine wp_seq (reg_mono (wa_r33 (by kernel_rfl) _ F31 rfl rfl x30 rfl p3 ?_))
  intro a33 F33 g33
  refine wp_cond_false g33 (wp_skip ?_)
  show Code.wp _ _ _ _ _
  refine reg_mono (wa_r12 (by kernel_rfl) _ F33 rfl (by omega) ?_)
  intro a12 F12
  try dsimp only at F12
  rw [← p2] at T30 h1'
  refine ⟨⟨i + 1, L', P.2, _, l1, l2, l3, F12, rfl, rfl, rfl, by rw [ea], rfl, rfl, T30, hok2, by omega, h1'⟩, ?_⟩
  rw [hmk, F12.s12]
  simp [intOf]
  omega
end Go.Proofs.YtlfodldlkchmoaaGreat.Y
