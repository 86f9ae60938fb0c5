/-
  carillonref15's of, as it runs (mkvi.py).
-/
import Derived.Test.YtfoomgdlbkjaeaaGreatZVH
namespace Go.Proofs.YtfoomgdlbkjaeaaGreat.Y
open Go.RowKit
set_option maxHeartbeats 8000000
set_option maxRecDepth 100000
set_option linter.unusedSimpArgs false
set_option linter.unusedVariables false
open Go.Maps
theorem wp_mid2 {P : Program} {c1 c2 : Code} {Q : Exit → Act → World → Prop} {a : Act} {w : World} (Mid : Act → World → Prop) (h1 : Code.wp P c1 (Exit.then Mid Q) a w) (h2 : ∀ a w, Mid a w → Code.wp P c2 Q a w) : Code.wp P (c1.seq c2) Q a w :=
  wp_seq (wp_mono h1 fun e a w q => by
    cases e with
    | normal => exact h2 a w q
    | _ => exact q)
theorem li_head (nm : ByteArray) (lo fi ct : Int) (P : List PU) (R : List Rec) (k : Nat) (hk : k < 12) : (K.itemCells (loadItems nm lo fi ct P R))[k]? = (K.itemCells (itemsHd nm lo fi ct))[k]? := by
  have e0 : (K.itemCells (itemsHd nm lo fi ct)).length = 12 := rfl
  rw [li_cells, List.getElem?_append_left (by rw [List.length_append]; omega), List.getElem?_append_left (by omega)]
theorem rof {s nm : ByteArray} {lo fi : Int} {P : List PU} {R : List Rec} (hD : Dump s nm lo fi P R) (w : World) {g n cp : Nat} (hn : n = 4 + 3 * P.length + 5 * R.length) (hg : g < w.heap.size) (hcl : ∀ k v, (K.itemCells (loadItems nm lo fi (P.length : Int) P R))[k]? = some v → w.cell? ⟨g, k, none⟩ = some v) :
    Calls Tryz.prog 53 #[.slice (some ⟨g, 0, none⟩) n cp, .int .i64 (P.length : Int)] w fun e w' => Below w.heap.size w w' ∧ ((ofB nm lo fi P R = false ∧ e = .returned (.tuple #[.pointer none, .bool false])) ∨ (ofB nm lo fi P R = true ∧ ∃ X : XL, e = .returned (.tuple #[.pointer (some ⟨X.b, 0, none⟩), .bool true]) ∧ XAt w' X ⟨nm, lo, fi, P.map prPR, R⟩ ∧ ∀ j, X.own j → w.heap.size ≤ j)) := by
  have hPl := hD.few
  have hRl := hD.recs
  obtain ⟨l0, l1⟩ := hD.low64
  obtain ⟨f0, f1⟩ := hD.fin64
  have c2 : w.cell? ⟨g, 2, none⟩ = some (.string nm) := hcl 2 _ (by rw [li_head _ _ _ _ _ _ _ (by omega)]; rfl)
  have c4 : w.cell? ⟨g, 4, none⟩ = some (.int .u64 lo) := hcl 4 _ (by rw [li_head _ _ _ _ _ _ _ (by omega)]; rfl)
  have c7 : w.cell? ⟨g, 7, none⟩ = some (.int .u64 fi) := hcl 7 _ (by rw [li_head _ _ _ _ _ _ _ (by omega)]; rfl)
  go_enter Tryz.func53, Tryz.ntmps53
  refine wp_seq (reg_mono (xo_r0 (by kernel_rfl) _ (v := ⟨_, _, _, _, _, _, _, _, _, _, _⟩) ⟨rfl, rfl, rfl, rfl, rfl, rfl, rfl, rfl, rfl, rfl, rfl, rfl, rfl⟩ ?_))
  intro a0 F0
  try dsimp only at F0
  have hnm := hD.name
  refine wp_seq (reg_mono (xo_r1 (R := fun W => W = w) (by kernel_rfl) _ F0 rfl (by omega) c2 (rword nm (by omega) w) ?_))
  rintro a1 w1 F1 rfl
  try dsimp only at F1
  have ofn : ∀ b, ofB nm lo fi P R = b → ofB nm lo fi P R = b := fun _ h => h
  have fin : ∀ {a9 : Act} {F : Vxo} {W : World}, Fxo a9 F → F.v4 = .pointer none → F.v5 = .bool false → Below w1.heap.size w1 W → ofB nm lo fi P R = false → bodyPost Tryz.prog Tryz.f53 (fun e w' => Below w1.heap.size w1 w' ∧ ((ofB nm lo fi P R = false ∧ e = .returned (.tuple #[.pointer none, .bool false])) ∨ (ofB nm lo fi P R = true ∧ ∃ X : XL, e = .returned (.tuple #[.pointer (some ⟨X.b, 0, none⟩), .bool true]) ∧ XAt w' X ⟨nm, lo, fi, P.map prPR, R⟩ ∧ ∀ j, X.own j → w1.heap.size ≤ j))) .ret a9 W := fun F9 h4 h5 b h => xo_ret F9 h4 h5 ⟨b, .inl ⟨h, rfl⟩⟩
  cases hw : wordB nm with
  | false =>
    rw [hw] at F1
    refine wp_seq (wp_seq (reg_mono (xo_r2a (by kernel_rfl) _ F1 rfl rfl ?_)))
    intro a2 m2 F2 g2
    refine wp_cond_true g2 ?_
    refine wp_seq (reg_mono (xo_r3 (by kernel_rfl) _ F2 ?_))
    intro a3 F3
    refine wp_ret ?_
    try dsimp only [Exit.then, Exit.inBlock]
    exact fin F3 rfl rfl (below_drewN (Below.refl _ _) _) (by unfold ofB; rw [hw]; rfl)
  | true =>
  rw [hw] at F1
  by_cases hlf : lo > fi
  · refine wp_seq (wp_seq (reg_mono (xo_r2b (by kernel_rfl) _ F1 rfl rfl (by omega) c4 c7 hlf ?_)))
    intro a2 m2 F2 g2
    refine wp_cond_true g2 ?_
    refine wp_seq (reg_mono (xo_r3 (by kernel_rfl) _ F2 ?_))
    intro a3 F3
    refine wp_ret ?_
    try dsimp only [Exit.then, Exit.inBlock]
    exact fin F3 rfl rfl (below_drewN (Below.refl _ _) _) (by unfold ofB; rw [decide_eq_true hlf]; simp)
  by_cases hft : fi > 9007199254740991
  · refine wp_seq (wp_seq (reg_mono (xo_r2c (by kernel_rfl) _ F1 rfl rfl (by omega) c4 c7 hlf hft ?_)))
    intro a2 m2 F2 g2
    refine wp_cond_true g2 ?_
    refine wp_seq (reg_mono (xo_r3 (by kernel_rfl) _ F2 ?_))
    intro a3 F3
    refine wp_ret ?_
    try dsimp only [Exit.then, Exit.inBlock]
    exact fin F3 rfl rfl (below_drewN (Below.refl _ _) _) (by unfold ofB topN; rw [decide_eq_true hft]; simp)
  have hof : ofB nm lo fi P R = (ofP fi none P && ofY lo fi none R) := by
    unfold ofB topN
    rw [hw, decide_eq_false hlf, decide_eq_false hft]
    simp
  refine wp_seq (wp_seq (reg_mono (xo_r2d (by kernel_rfl) _ F1 rfl rfl (by omega) c4 c7 hlf hft ?_)))
  intro a2 m2 F2 g2
  refine wp_cond_false g2 (wp_skip ?_)
  show Code.wp _ _ _ _ _
  have b2 : Below w1.heap.size w1 (w1.drewN m2) := below_drewN (Below.refl _ _) _
  have hc2 : ∀ W, Below w1.heap.size w1 W → ∀ k v, (K.itemCells (loadItems nm lo fi (P.length : Int) P R))[k]? = some v → W.cell? ⟨g, k, none⟩ = some v := fun W b k v h => (b.cell (p := ⟨g, k, none⟩) hg).trans (hcl k v h)
  have hg2 : ∀ W, Below w1.heap.size w1 W → g < W.heap.size := fun W b => Nat.lt_of_lt_of_le hg b.size
  generalize w1.drewN m2 = w2 at *
  refine wp_seq (reg_mono (xo_r4 (by kernel_rfl) _ F2 rfl (by omega) ((b2.cell (p := ⟨g, _, none⟩) hg).trans c2) ((b2.cell (p := ⟨g, _, none⟩) hg).trans c4) ((b2.cell (p := ⟨g, _, none⟩) hg).trans c7) l0 (by omega) (by omega) ?_))
  intro a4 w4 F4 X4 b4
  try dsimp only at F4
  have hhi := b2.size
  have I4 : OfI w1 w4 w2.heap.size nm lo fi [] [] none 0 none 0 := ⟨X4, World.ownsRow_nil _ _ _ _, World.ownsRow_nil _ _ _ _, b2.trans (b4.mono b2.size), hhi⟩
  generalize w2.heap.size = tb at *
  clear X4 b4 b2
  refine wp_seq (reg_mono (xo_r5 (by kernel_rfl) _ F4 ?_))
  intro a5 F5
  try dsimp only at F5
  refine wp_seq (wp_seq (reg_mono (xo_r6 (by kernel_rfl) _ F5 ?_)))
  intro a6 F6
  try dsimp only at F6
  refine wp_block (wp_loop (fun a' W => ∃ (ii at9 : Nat) (po : Option Addr) (pc : Nat) (x10 x11 x12 : Value), ii ≤ P.length ∧ at9 = 4 + 3 * ii ∧ OfI w1 W tb nm lo fi ((P.take ii).map prPR) [] po pc none 0 ∧ ofP fi none P = ofP fi (lastN (P.take ii)) (P.drop ii) ∧ Fxo a' { v0 := .slice (some ⟨g, 0, none⟩) n cp, v1 := .int .i64 (P.length : Int), v4 := .pointer none, v5 := .bool false, v6 := .bool true, v7 := .pointer (some ⟨tb, 0, none⟩), v8 := .int .i64 (at9 : Int), v9 := .int .i64 (ii : Int), v10 := x10, v11 := x11, v12 := x12 }) (fun a' _ => P.length - (intOf (a'.tmps.getD 9 undef)).toNat) ⟨0, 4, none, 0, _, _, _, Nat.zero_le _, rfl, I4, rfl, F6⟩ ?_)
  clear F0 F1 F2 F4 F5 F6 I4 g2
  rintro a' W ⟨ii, at9, po, pc, x10, x11, x12, hii, hat, hI, hofp, F⟩
  have hmk : (intOf (a'.tmps.getD 9 undef)).toNat = ii := by rw [F.s9]; simp [intOf]
  by_cases hlt : (ii : Int) < (P.length : Int)
  case pos =>
    have hil : ii < P.length := by omega
    refine wp_seq (wp_seq (reg_mono (xo_r7y (by kernel_rfl) _ F rfl rfl hlt ?_)))
    intro a7 F7 g7
    refine wp_cond_true g7 (wp_skip ?_)
    show Code.wp _ _ _ _ _
    have hdrop : P.drop ii = P[ii] :: P.drop (ii + 1) := List.drop_eq_getElem_cons hil
    rw [hdrop, ofP_cons] at hofp
    have htake : P.take (ii + 1) = P.take ii ++ [P[ii]] := List.take_succ_eq_append_getElem hil
    have hlast : lastN (P.take (ii + 1)) = some P[ii].name := by rw [htake, lastN_snoc]
    have hps : (P.take (ii + 1)).map prPR = (P.take ii).map prPR ++ [prPR P[ii]] := by rw [htake, List.map_append]; rfl
    obtain ⟨⟨s0, s1⟩, o0, o1⟩ := hD.prods64 P[ii] (List.getElem_mem hil)
    have hnmz := hD.names P[ii] (List.getElem_mem hil)
    have kn : ∀ W, Below w1.heap.size w1 W → W.cell? ⟨g, at9 * 3 + 2, none⟩ = some (.string P[ii].name) := fun W b => hc2 W b _ _ (by rw [show at9 * 3 + 2 = 12 + ii * 9 + 2 by omega, li_prod _ _ _ _ _ _ ii 2 hil (by omega)]; rfl)
    have ks : ∀ W, Below w1.heap.size w1 W → W.cell? ⟨g, (at9 + 1) * 3 + 1, none⟩ = some (.int .u64 P[ii].seq) := fun W b => hc2 W b _ _ (by rw [show (at9 + 1) * 3 + 1 = 12 + ii * 9 + 4 by omega, li_prod _ _ _ _ _ _ ii 4 hil (by omega)]; rfl)
    have ko : ∀ W, Below w1.heap.size w1 W → W.cell? ⟨g, (at9 + 2) * 3 + 1, none⟩ = some (.int .u64 P[ii].off) := fun W b => hc2 W b _ _ (by rw [show (at9 + 2) * 3 + 1 = 12 + ii * 9 + 7 by omega, li_prod _ _ _ _ _ _ ii 7 hil (by omega)]; rfl)
    have k7 : ∀ W, Below w1.heap.size w1 W → W.cell? ⟨g, 7, none⟩ = some (.int .u64 fi) := fun W b => hc2 W b _ _ (by rw [li_head _ _ _ _ _ _ _ (by omega)]; rfl)
    have hprev : ∀ hi0 : 0 < ii, lastN (P.take ii) = some (P[ii - 1]'(by omega)).name := fun hi0 => by
      have e : P.take ii = P.take (ii - 1) ++ [P[ii - 1]'(by omega)] := by
        have := List.take_succ_eq_append_getElem (l := P) (i := ii - 1) (by omega)
        rwa [show ii - 1 + 1 = ii by omega] at this
      rw [e, lastN_snoc]
    generalize hp9 : P[ii] = p at *
    refine wp_seq (wp_block ?_)
    refine wp_seq (reg_mono (xo_r9 (R := fun W' => W' = W) (by kernel_rfl) _ F7 rfl rfl (by omega) (kn W hI.below) (rword p.name (by omega) W) ?_))
    rintro a9 w9 F9 rfl
    try dsimp only at F9
    have fin2 : ∀ {a9 : Act} {V : Vxo} {W' : World}, Fxo a9 V → V.v4 = .pointer none → V.v5 = .bool false → Below w9.heap.size w9 W' → (wordB p.name && !decide (p.seq > topN) && !decide (p.off ≥ fi) && riseB (lastN (P.take ii)) p.name && ofP fi (some p.name) (P.drop (ii + 1))) = false → _ := fun {a9 V W'} F9 h4 h5 b h => fin (W := W') F9 h4 h5 (hI.below.trans (b.mono hI.below.size)) (by rw [hof, hofp, h]; rfl)
    cases hwp : wordB p.name with
    | false =>
      rw [hwp] at F9
      refine wp_seq (wp_seq (reg_mono (xo_r10a (by kernel_rfl) _ F9 rfl rfl rfl ?_)))
      intro a10 m10 F10 g10
      refine wp_cond_true g10 ?_
      refine wp_seq (reg_mono (xo_r11 (by kernel_rfl) _ F10 ?_))
      intro a11 F11
      refine wp_ret ?_
      try dsimp only [Exit.then, Exit.inBlock]
      exact fin2 F11 rfl rfl (below_drewN (Below.refl _ _) _) (by rw [hwp]; rfl)
    | true =>
    rw [hwp] at F9
    by_cases hsq : p.seq > 9007199254740991
    · refine wp_seq (wp_seq (reg_mono (xo_r10b (by kernel_rfl) _ F9 rfl rfl rfl (by omega) (by omega) (ks _ hI.below) hsq ?_)))
      intro a10 m10 F10 g10
      refine wp_cond_true g10 ?_
      refine wp_seq (reg_mono (xo_r11 (by kernel_rfl) _ F10 ?_))
      intro a11 F11
      refine wp_ret ?_
      try dsimp only [Exit.then, Exit.inBlock]
      exact fin2 F11 rfl rfl (below_drewN (Below.refl _ _) _) (by unfold topN; rw [decide_eq_true hsq]; simp)
    by_cases hof9 : p.off ≥ fi
    · refine wp_seq (wp_seq (reg_mono (xo_r10c (by kernel_rfl) _ F9 rfl rfl rfl (by omega) (by omega) (ks _ hI.below) (ko _ hI.below) (k7 _ hI.below) hsq hof9 ?_)))
      intro a10 m10 F10 g10
      refine wp_cond_true g10 ?_
      refine wp_seq (reg_mono (xo_r11 (by kernel_rfl) _ F10 ?_))
      intro a11 F11
      refine wp_ret ?_
      try dsimp only [Exit.then, Exit.inBlock]
      exact fin2 F11 rfl rfl (below_drewN (Below.refl _ _) _) (by rw [decide_eq_true hof9]; simp)
    refine wp_mid2 (fun a W' => Below w9.heap.size w9 W' ∧ riseB (lastN (P.take ii)) p.name = true ∧ Fxo a { v0 := .slice (some ⟨g, 0, none⟩) n cp, v1 := .int .i64 (P.length : Int), v4 := .pointer none, v5 := .bool false, v6 := .bool true, v7 := .pointer (some ⟨tb, 0, none⟩), v8 := .int .i64 (at9 : Int), v9 := .int .i64 (ii : Int), v10 := .bool true, v11 := x11, v12 := x12 }) ?_ ?_
    · by_cases hi0 : 0 < ii
      · have hX := hI.xat
        obtain ⟨pb, po9, hpo, hpb, z0, _, _⟩ := hX.prod (k := ii - 1) (by show ii - 1 < ((P.take ii).map prPR).length; rw [List.length_map, List.length_take]; omega)
        have hpo : po = some ⟨pb, po9, none⟩ := hpo
        have hlen9 : ((P.take ii).map prPR).length = ii := by rw [List.length_map, List.length_take]; omega
        have z3 : w9.cell? ⟨tb, 3, none⟩ = some (.slice (some ⟨pb, po9, none⟩) ii pc) := by
          have := box_cell hI.box 3 rfl
          rw [this, ← hpo]
          simp
          omega
        have hpn : ((P.take ii).map prPR)[ii - 1]'(by rw [hlen9]; omega) = prPR (P[ii - 1]'(by omega)) := by simp
        have z0 : w9.cell? ⟨pb, po9 + (ii - 1) * 3, none⟩ = some (.string (P[ii - 1]'(by omega)).name) := by
          rw [z0]
          show some (Value.string (((P.take ii).map prPR)[ii - 1]'(by rw [hlen9]; omega)).name) = _
          rw [hpn]; rfl
        have hlp := hprev hi0
        generalize (P[ii - 1]'(by omega)).name = pn at *
        refine wp_seq (reg_mono (xo_r10e (by kernel_rfl) _ F9 rfl rfl rfl rfl rfl (by omega) (by omega) (ks _ hI.below) (ko _ hI.below) (k7 _ hI.below) hsq hof9 hi0 (by omega) (kn _ hI.below) z3 z0 (hg2 _ hI.below) (heap_lt hI.box) hpb ?_))
        intro a10 w10 F10 g10 b10
        have hrb : riseB (lastN (P.take ii)) p.name = !(Op.bytesLess p.name.toList pn.toList || p.name.toList == pn.toList) := by rw [hlp]; rfl
        cases hle : (Op.bytesLess p.name.toList pn.toList || p.name.toList == pn.toList) with
        | true =>
          rw [hle] at g10 hrb
          refine wp_cond_true g10 ?_
          refine wp_seq (reg_mono (xo_r11 (by kernel_rfl) _ F10 ?_))
          intro a11 F11
          refine wp_ret ?_
          try dsimp only [Exit.then, Exit.inBlock]
          exact fin2 F11 rfl rfl b10 (by rw [hrb]; simp)
        | false =>
          rw [hle] at g10 hrb
          refine wp_cond_false g10 (wp_skip ?_)
          exact ⟨b10, by rw [hrb]; rfl, F10⟩
      · have hi00 : ii = 0 := by omega
        subst hi00
        refine wp_seq (reg_mono (xo_r10d (by kernel_rfl) _ F9 rfl rfl rfl rfl (by omega) (by omega) (ks _ hI.below) (ko _ hI.below) (k7 _ hI.below) hsq hof9 ?_))
        intro a10 m10 F10 g10
        refine wp_cond_false g10 (wp_skip ?_)
        exact ⟨below_drewN (Below.refl _ _) _, rfl, F10⟩
    rintro a10 w10 ⟨b10, hrise, F10⟩
    have hI10 := hI.step b10
    obtain ⟨ta, tc, w5, hrun, hc3, hf3, hI5⟩ := hI10.pr (prPR p) (by rw [List.length_map, List.length_take]; omega)
    have hlen9 : ((P.take ii).map prPR).length = ii := by rw [List.length_map, List.length_take]; omega
    have k1 := kn _ hI10.below
    have k2 := ks _ hI10.below
    have k3 := ko _ hI10.below
    have c1 := box_cell hI10.box 3 rfl
    refine wp_seq (reg_mono (xo_r12 (by kernel_rfl) _ F10 rfl rfl rfl (by omega) (by omega) k1 k2 k3 s0 (by omega) o0 (by omega) c1 hrun hc3 hf3 ?_))
    intro a12 F12
    try dsimp only at F12
    refine reg_all (xo_r13 (by kernel_rfl) _ F12 rfl (by omega) ?_)
    intro a13 F13
    try dsimp only at F13
    show Code.wp _ _ _ _ _
    refine reg_all (xo_r8 (by kernel_rfl) _ F13 rfl (by omega) ?_)
    intro a8 F8
    try dsimp only at F8
    rw [← hps] at hI5
    have hl5 : ((P.take (ii + 1)).map prPR).length = ((P.take ii).map prPR).length + 1 := by rw [hps, List.length_append]; rfl
    refine ⟨⟨ii + 1, at9 + 3, ta, tc, _, _, _, by omega, by omega, hI5, ?_, F8⟩, ?_⟩
    · rw [hofp, hwp, decide_eq_false (show ¬ p.seq > topN from hsq), decide_eq_false hof9, hrise, hlast]
      simp
    · rw [hmk, F8.s9]
      simp [intOf]
      omega
  -- behind the producers
  have hil : ii = P.length := by omega
  subst hil
  rw [List.drop_length] at hofp
  rw [List.take_length] at hI
  have hofy : ofB nm lo fi P R = ofY lo fi none R := by rw [hof, hofp]; rfl
  refine wp_seq (wp_seq (reg_mono (xo_r7n (by kernel_rfl) _ F rfl rfl hlt ?_)))
  intro a7 F7 g7
  refine wp_cond_false g7 (wp_exit ?_)
  show Code.wp _ _ _ _ _
  refine wp_seq (wp_block (wp_loop (fun a' W => ∃ (k at9 : Nat) (ro : Option Addr) (rc : Nat) (x10 x11 x12 : Value), k ≤ R.length ∧ at9 = 4 + 3 * P.length + 5 * k ∧ OfI w1 W tb nm lo fi (P.map prPR) (R.take k) po pc ro rc ∧ ofY lo fi none R = ofY lo fi (lastO (R.take k)) (R.drop k) ∧ Fxo a' { v0 := .slice (some ⟨g, 0, none⟩) n cp, v1 := .int .i64 (P.length : Int), v4 := .pointer none, v5 := .bool false, v6 := .bool true, v7 := .pointer (some ⟨tb, 0, none⟩), v8 := .int .i64 (at9 : Int), v9 := .int .i64 (P.length : Int), v10 := x10, v11 := x11, v12 := x12 }) (fun a' _ => n - (intOf (a'.tmps.getD 8 undef)).toNat) ⟨0, at9, none, 0, _, _, _, Nat.zero_le _, by omega, hI, rfl, F7⟩ ?_))
  clear F F7 hI g7 hmk hat
  rintro a' W ⟨k, at9, ro, rc, x10, x11, x12, hk, hat, hI, hofk, F⟩
  have hmk : (intOf (a'.tmps.getD 8 undef)).toNat = at9 := by rw [F.s8]; simp [intOf]
  by_cases hlt2 : (at9 : Int) < (n : Int)
  case neg =>
    have hkl : k = R.length := by omega
    subst hkl
    rw [List.drop_length] at hofk
    rw [List.take_length] at hI
    refine wp_seq (wp_seq (reg_mono (xo_r14n (by kernel_rfl) _ F rfl rfl hlt2 ?_)))
    intro a14 F14 g14
    refine wp_cond_false g14 (wp_exit ?_)
    show Code.wp _ _ _ _ _
    refine wp_seq (reg_mono (xo_r23 (by kernel_rfl) _ F14 ?_))
    intro a23 F23
    refine wp_ret ?_
    try dsimp only [Exit.then, Exit.inBlock]
    exact xo_ret F23 rfl rfl ⟨hI.below, .inr ⟨by rw [hofy, hofk]; rfl, ⟨tb, po, pc, ro, rc⟩, rfl, hI.xat, hI.own⟩⟩
  have hkl : k < R.length := by omega
  refine wp_seq (wp_seq (reg_mono (xo_r14y (by kernel_rfl) _ F rfl rfl hlt2 ?_)))
  intro a14 F14 g14
  refine wp_cond_true g14 (wp_skip ?_)
  show Code.wp _ _ _ _ _
  have hdrop : R.drop k = R[k] :: R.drop (k + 1) := List.drop_eq_getElem_cons hkl
  rw [hdrop, ofY_cons] at hofk
  have htake : R.take (k + 1) = R.take k ++ [R[k]] := List.take_succ_eq_append_getElem hkl
  have hlast : lastO (R.take (k + 1)) = some R[k].off := by rw [htake, lastO_snoc]
  obtain ⟨⟨s0, s1⟩, o0, o1⟩ := hD.recs64 R[k] (List.getElem_mem hkl)
  obtain ⟨z1, z2, z3⟩ := hD.texts R[k] (List.getElem_mem hkl)
  have kc : ∀ j v, j < 15 → (K.itemCells (itemsY R[k]))[j]? = some v → ∀ W, Below w1.heap.size w1 W → W.cell? ⟨g, 12 + 9 * P.length + k * 15 + j, none⟩ = some v := fun j v hj hv W b => hc2 W b _ _ (by rw [li_rec _ _ _ _ _ _ k j hkl hj]; exact hv)
  have y0 : ∀ W, Below w1.heap.size w1 W → W.cell? ⟨g, at9 * 3 + 1, none⟩ = some (.int .u64 R[k].off) := fun W b => by rw [show at9 * 3 + 1 = 12 + 9 * P.length + k * 15 + 1 by omega]; exact kc 1 _ (by omega) rfl W b
  have y1 : ∀ W, Below w1.heap.size w1 W → W.cell? ⟨g, (at9 + 1) * 3 + 2, none⟩ = some (.string R[k].prod) := fun W b => by rw [show (at9 + 1) * 3 + 2 = 12 + 9 * P.length + k * 15 + 5 by omega]; exact kc 5 _ (by omega) rfl W b
  have y2 : ∀ W, Below w1.heap.size w1 W → W.cell? ⟨g, (at9 + 2) * 3 + 1, none⟩ = some (.int .u64 R[k].seq) := fun W b => by rw [show (at9 + 2) * 3 + 1 = 12 + 9 * P.length + k * 15 + 7 by omega]; exact kc 7 _ (by omega) rfl W b
  have y3 : ∀ W, Below w1.heap.size w1 W → W.cell? ⟨g, (at9 + 3) * 3 + 2, none⟩ = some (.string R[k].key) := fun W b => by rw [show (at9 + 3) * 3 + 2 = 12 + 9 * P.length + k * 15 + 11 by omega]; exact kc 11 _ (by omega) rfl W b
  have y4 : ∀ W, Below w1.heap.size w1 W → W.cell? ⟨g, (at9 + 4) * 3 + 2, none⟩ = some (.string R[k].val) := fun W b => by rw [show (at9 + 4) * 3 + 2 = 12 + 9 * P.length + k * 15 + 14 by omega]; exact kc 14 _ (by omega) rfl W b
  have hprev : ∀ hi0 : 0 < k, lastO (R.take k) = some (R[k - 1]'(by omega)).off := fun hi0 => by
    have e : R.take k = R.take (k - 1) ++ [R[k - 1]'(by omega)] := by
      have := List.take_succ_eq_append_getElem (l := R) (i := k - 1) (by omega)
      rwa [show k - 1 + 1 = k by omega] at this
    rw [e, lastO_snoc]
  clear kc
  generalize hr9 : R[k] = r at *
  have fin3 : ∀ {a9 : Act} {V : Vxo} {W' : World}, Fxo a9 V → V.v4 = .pointer none → V.v5 = .bool false → Below W.heap.size W W' → (!decide (r.off > topN) && !decide (r.seq > topN) && decide (RightP r) && !decide (r.off < lo) && !decide (r.off ≥ fi) && offB (lastO (R.take k)) r.off && ofY lo fi (some r.off) (R.drop (k + 1))) = false → _ := fun {a9 V W'} F9 h4 h5 b h => fin (W := W') F9 h4 h5 (hI.below.trans (b.mono hI.below.size)) (by rw [hofy, hofk, h])
  refine wp_block ?_
  by_cases ho : r.off > 9007199254740991
  · refine wp_seq (wp_seq (reg_mono (xo_r15a (by kernel_rfl) _ F14 rfl rfl (by omega) (by omega) (y0 _ hI.below) ho ?_)))
    intro a15 F15 g15
    refine wp_cond_true g15 ?_
    refine wp_seq (reg_mono (xo_r16 (by kernel_rfl) _ F15 ?_))
    intro a16 F16
    refine wp_ret ?_
    try dsimp only [Exit.then, Exit.inBlock]
    exact fin3 F16 rfl rfl (Below.refl _ _) (by unfold topN; rw [decide_eq_true ho]; rfl)
  refine wp_seq (wp_seq (reg_mono (xo_r15b (by kernel_rfl) _ F14 rfl rfl (by omega) (by omega) (y0 _ hI.below) (y2 _ hI.below) ho ?_)))
  intro a15 F15 g15
  by_cases hs : r.seq > 9007199254740991
  · rw [decide_eq_true hs] at g15
    refine wp_cond_true g15 ?_
    refine wp_seq (reg_mono (xo_r16 (by kernel_rfl) _ F15 ?_))
    intro a16 F16
    refine wp_ret ?_
    try dsimp only [Exit.then, Exit.inBlock]
    exact fin3 F16 rfl rfl (Below.refl _ _) (by unfold topN; rw [decide_eq_true hs]; simp)
  rw [decide_eq_false hs] at g15
  refine wp_cond_false g15 (wp_skip ?_)
  show Code.wp _ _ _ _ _
  refine wp_seq (reg_mono (xo_r17 (by kernel_rfl) _ F15 rfl rfl (by omega) (by omega) (y0 _ hI.below) (y1 _ hI.below) (y2 _ hI.below) (y3 _ hI.below) (y4 _ hI.below) (hg2 _ hI.below) o0 (by omega) s0 (by omega) ?_))
  intro a17 w17 F17 X17 b17
  try dsimp only at F17
  generalize W.heap.size = rb at F17 X17
  have hI17 := hI.step b17
  refine wp_seq (reg_mono (xo_r18 (R := fun W' => Below w17.heap.size w17 W') (by kernel_rfl) _ F17 rfl X17 (rright_any r ⟨by omega, by omega, by omega, by omega, by omega, by omega, by omega⟩ w17) ?_))
  intro a18 w18 F18 b18
  try dsimp only at F18
  have X18 := (b18.block _ (heap_lt X17)).trans X17
  have hI18 := hI17.step b18
  have bW18 := b17.trans (b18.mono b17.size)
  have t1 : w18.cell? ⟨tb, 1, none⟩ = some (.int .i64 lo) := box_cell hI18.box 1 rfl
  have t2 : w18.cell? ⟨tb, 2, none⟩ = some (.int .i64 fi) := box_cell hI18.box 2 rfl
  cases hrp : decide (RightP r) with
  | false =>
    rw [hrp] at F18
    refine wp_seq (wp_seq (reg_mono (xo_r19a (by kernel_rfl) _ F18 rfl rfl rfl ?_)))
    intro a19 m19 F19 g19
    refine wp_cond_true g19 ?_
    refine wp_seq (reg_mono (xo_r20 (by kernel_rfl) _ F19 ?_))
    intro a20 F20
    refine wp_ret ?_
    try dsimp only [Exit.then, Exit.inBlock]
    exact fin3 F20 rfl rfl (below_drewN bW18 _) (by rw [hrp]; simp)
  | true =>
  rw [hrp] at F18
  by_cases hlo : r.off < lo
  · refine wp_seq (wp_seq (reg_mono (xo_r19b (by kernel_rfl) _ F18 rfl rfl rfl X18 t1 t2 hlo ?_)))
    intro a19 m19 F19 g19
    refine wp_cond_true g19 ?_
    refine wp_seq (reg_mono (xo_r20 (by kernel_rfl) _ F19 ?_))
    intro a20 F20
    refine wp_ret ?_
    try dsimp only [Exit.then, Exit.inBlock]
    exact fin3 F20 rfl rfl (below_drewN bW18 _) (by rw [decide_eq_true hlo]; simp)
  by_cases hfo : r.off ≥ fi
  · refine wp_seq (wp_seq (reg_mono (xo_r19c (by kernel_rfl) _ F18 rfl rfl rfl X18 t1 t2 hlo hfo ?_)))
    intro a19 m19 F19 g19
    refine wp_cond_true g19 ?_
    refine wp_seq (reg_mono (xo_r20 (by kernel_rfl) _ F19 ?_))
    intro a20 F20
    refine wp_ret ?_
    try dsimp only [Exit.then, Exit.inBlock]
    exact fin3 F20 rfl rfl (below_drewN bW18 _) (by rw [decide_eq_true hfo]; simp)
  have hlk : (R.take k).length = k := by rw [List.length_take]; omega
  refine wp_mid2 (fun a W' => Below w18.heap.size w18 W' ∧ offB (lastO (R.take k)) r.off = true ∧ Fxo a { v0 := .slice (some ⟨g, 0, none⟩) n cp, v1 := .int .i64 (P.length : Int), v4 := .pointer none, v5 := .bool false, v6 := .bool true, v7 := .pointer (some ⟨tb, 0, none⟩), v8 := .int .i64 (at9 : Int), v9 := .int .i64 (P.length : Int), v10 := x10, v11 := .pointer (some ⟨rb, 0, none⟩), v12 := .bool true }) ?_ ?_
  · by_cases hi0 : 0 < k
    · obtain ⟨_, g9, o9, hro, hg9, l5, _⟩ := (recs_of_own hI18.rrow).five (k - 1) (by omega)
      have hlo5 : (R.take k)[k - 1]'(by omega) = R[k - 1]'(by omega) := by simp
      rw [hlo5] at l5
      have t4 : w18.cell? ⟨tb, 4, none⟩ = some (.slice (some ⟨g9, o9, none⟩) k rc) := by
        have := box_cell hI18.box 4 rfl
        rw [this, ← hro]
        simp [hlk]
      have hlp := hprev hi0
      generalize (R[k - 1]'(by omega)).off = lx at *
      refine wp_seq (reg_mono (xo_r19e (by kernel_rfl) _ F18 rfl rfl rfl X18 t1 t2 t4 l5 hlo hfo hi0 (by omega) ?_))
      intro a19 m19 F19 g19
      have hob : offB (lastO (R.take k)) r.off = !decide (r.off ≤ lx) := by rw [hlp]; rfl
      by_cases hle : r.off ≤ lx
      · rw [decide_eq_true hle] at g19 hob
        refine wp_cond_true g19 ?_
        refine wp_seq (reg_mono (xo_r20 (by kernel_rfl) _ F19 ?_))
        intro a20 F20
        refine wp_ret ?_
        try dsimp only [Exit.then, Exit.inBlock]
        exact fin3 F20 rfl rfl (below_drewN bW18 _) (by rw [hob]; simp)
      · rw [decide_eq_false hle] at g19 hob
        refine wp_cond_false g19 (wp_skip ?_)
        exact ⟨below_drewN (Below.refl _ _) _, by rw [hob]; rfl, F19⟩
    · have hk0 : k = 0 := by omega
      subst hk0
      have t4 : w18.cell? ⟨tb, 4, none⟩ = some (.slice ro 0 rc) := box_cell hI18.box 4 rfl
      refine wp_seq (reg_mono (xo_r19d (by kernel_rfl) _ F18 rfl rfl rfl X18 t1 t2 t4 hlo hfo ?_))
      intro a19 m19 F19 g19
      refine wp_cond_false g19 (wp_skip ?_)
      exact ⟨below_drewN (Below.refl _ _) _, rfl, F19⟩
  rintro a19 w19 ⟨b19, hoff, F19⟩
  have hI19 := hI18.step b19
  have X19 := (b19.block _ (heap_lt X18)).trans X18
  obtain ⟨ta, tc, w5, hrun, hc4, hf4, hI5⟩ := hI19.rd r (by omega)
  have c1 := box_cell hI19.box 4 rfl
  refine wp_seq (reg_mono (xo_r21 (by kernel_rfl) _ F19 rfl rfl X19 c1 hrun hc4 hf4 ?_))
  intro a21 F21
  try dsimp only at F21
  refine reg_all (xo_r22 (by kernel_rfl) _ F21 rfl (by omega) ?_)
  intro a22 F22
  try dsimp only at F22
  rw [← htake] at hI5
  have hl5 : (R.take (k + 1)).length = (R.take k).length + 1 := by rw [htake, List.length_append]; rfl
  refine ⟨⟨k + 1, at9 + 5, ta, tc, _, _, _, by omega, by omega, hI5, ?_, F22⟩, ?_⟩
  · rw [hofk, decide_eq_false (show ¬ r.off > topN from ho), decide_eq_false (show ¬ r.seq > topN from hs), hrp, decide_eq_false hlo, decide_eq_false hfo, hoff, hlast]
    simp
  · rw [hmk, F22.s8]
    simp [intOf]
    omega
end Go.Proofs.YtfoomgdlbkjaeaaGreat.Y
