/-
  Dump and Load on lists: a topic's producers, its items, and what they are read as.
-/
import Derived.Test.YtfoomgdlbkjaeaaGreatZUQ
import Derived.Test.YtfoomgdlbkjaeaaGreatZUO
import Derived.Test.YtfoomgdlbkjaeaaGreatZRep
import Derived.Test.YtfoomgdlbkjaeaaGreatZUS
import Derived.Test.YtfoomgdlbkjaeaaGreatZT8
namespace Go.Proofs.YtfoomgdlbkjaeaaGreat.Y
open Go.RowKit
set_option maxHeartbeats 8000000
attribute [local go_sem ↓] Go.wp_at_zero Go.wp_at_succ
set_option linter.unusedSimpArgs false
set_option linter.unusedVariables false
open Go.Maps
theorem pu_cell (l : List PU) (i j : Nat) (hi : i < l.length) (hj : j < 9) : (K.itemCells (l.flatMap itemsPr))[i * 9 + j]? = (K.itemCells (itemsPr l[i]))[j]? := by
  induction l generalizing i with
  | nil => cases hi
  | cons p l ih =>
    have e1 : K.itemCells ((p :: l).flatMap itemsPr) = K.itemCells (itemsPr p) ++ K.itemCells (l.flatMap itemsPr) := by unfold K.itemCells; rw [List.flatMap_cons, List.flatMap_append]
    have e2 : (K.itemCells (itemsPr p)).length = 9 := rfl
    rw [e1]
    cases i with
    | zero => rw [List.getElem?_append_left (by omega), Nat.zero_mul, Nat.zero_add]; rfl
    | succ i =>
      rw [List.getElem?_append_right (by omega), e2, show (i + 1) * 9 + j - 9 = i * 9 + j by omega]
      exact ih i (by simpa using hi)
theorem ry_cell (l : List Rec) (i j : Nat) (hi : i < l.length) (hj : j < 15) : (K.itemCells (l.flatMap itemsY))[i * 15 + j]? = (K.itemCells (itemsY l[i]))[j]? := by
  induction l generalizing i with
  | nil => cases hi
  | cons p l ih =>
    have e1 : K.itemCells ((p :: l).flatMap itemsY) = K.itemCells (itemsY p) ++ K.itemCells (l.flatMap itemsY) := by unfold K.itemCells; rw [List.flatMap_cons, List.flatMap_append]
    have e2 : (K.itemCells (itemsY p)).length = 15 := rfl
    rw [e1]
    cases i with
    | zero => rw [List.getElem?_append_left (by omega), Nat.zero_mul, Nat.zero_add]; rfl
    | succ i =>
      rw [List.getElem?_append_right (by omega), e2, show (i + 1) * 15 + j - 15 = i * 15 + j by omega]
      exact ih i (by simpa using hi)
def loadItems (nm : ByteArray) (lo fi ct : Int) (P : List PU) (R : List Rec) : List K.It := itemsHd nm lo fi ct ++ P.flatMap itemsPr ++ R.flatMap itemsY
theorem li_len (nm : ByteArray) (lo fi ct : Int) (P : List PU) (R : List Rec) : (loadItems nm lo fi ct P R).length = 4 + 3 * P.length + 5 * R.length := by
  unfold loadItems
  rw [List.length_append, List.length_append, flat_len3, flat_len5]
  rfl
theorem li_cells (nm : ByteArray) (lo fi ct : Int) (P : List PU) (R : List Rec) : K.itemCells (loadItems nm lo fi ct P R) = K.itemCells (itemsHd nm lo fi ct) ++ K.itemCells (P.flatMap itemsPr) ++ K.itemCells (R.flatMap itemsY) := by
  unfold loadItems K.itemCells
  rw [List.flatMap_append, List.flatMap_append]
theorem ic_len (l : List K.It) : (K.itemCells l).length = 3 * l.length := by
  unfold K.itemCells
  induction l with
  | nil => rfl
  | cons x l ih => rw [List.flatMap_cons, List.length_append, ih, List.length_cons]; show 3 + _ = _; omega
theorem li_prod (nm : ByteArray) (lo fi ct : Int) (P : List PU) (R : List Rec) (i j : Nat) (hi : i < P.length) (hj : j < 9) : (K.itemCells (loadItems nm lo fi ct P R))[12 + i * 9 + j]? = (K.itemCells (itemsPr P[i]))[j]? := by
  have e0 : (K.itemCells (itemsHd nm lo fi ct)).length = 12 := rfl
  have e1 : (K.itemCells (P.flatMap itemsPr)).length = 9 * P.length := by rw [ic_len, flat_len3]; omega
  rw [li_cells, List.getElem?_append_left (by rw [List.length_append]; omega), List.getElem?_append_right (by omega), e0, show 12 + i * 9 + j - 12 = i * 9 + j by omega]
  exact pu_cell P i j hi hj
theorem li_rec (nm : ByteArray) (lo fi ct : Int) (P : List PU) (R : List Rec) (i j : Nat) (hi : i < R.length) (hj : j < 15) : (K.itemCells (loadItems nm lo fi ct P R))[12 + 9 * P.length + i * 15 + j]? = (K.itemCells (itemsY R[i]))[j]? := by
  have e0 : (K.itemCells (itemsHd nm lo fi ct)).length = 12 := rfl
  have e1 : (K.itemCells (P.flatMap itemsPr)).length = 9 * P.length := by rw [ic_len, flat_len3]; omega
  rw [li_cells, List.getElem?_append_right (by rw [List.length_append]; omega), List.length_append, e0, e1, show 12 + 9 * P.length + i * 15 + j - (12 + 9 * P.length) = i * 15 + j by omega]
  exact ry_cell R i j hi hj
theorem wrap_in (x : Int) : -9223372036854775808 ≤ IntKind.i64.wrap x ∧ IntKind.i64.wrap x ≤ 9223372036854775807 := by rw [IntKind.wrap_i64]; omega
def loadB (nm : ByteArray) (lo fi : Int) (P : List PU) (R : List Rec) : Bool := wordB nm && markB (IntKind.i64.wrap lo) (IntKind.i64.wrap fi) && knowF (IntKind.i64.wrap fi) none (P.map prW) && haveF (IntKind.i64.wrap fi) (IntKind.i64.wrap lo) (R.map recW)
def loadG (nm : ByteArray) (lo fi : Int) (P : List PU) (R : List Rec) : TG := ⟨nm, (IntKind.i64.wrap lo).toNat, (IntKind.i64.wrap fi).toNat, R.map recW, knowD (.map []) (P.map prW), P.length⟩
theorem markB_out {lo fi : Int} (h : markB lo fi = true) : 0 ≤ lo ∧ lo ≤ fi ∧ fi ≤ 9007199254740991 := of_decide_eq_true h
theorem tload (s T : ByteArray) (hs : s.size ≤ 9223372036854775807) (hT : T.size ≤ 9223372036854775807) (hH : ∀ w, Calls Tryz.prog 75 #[.string s] w fun e w' => e = .returned (.string T) ∧ Below w.heap.size w w') (nm : ByteArray) (lo fi : Int) (P : List PU) (R : List Rec) (hP : P.length ≤ 332) (hR : R.length ≤ 1000000) (hd : K.decF [116, 108, 108, 108] T.data.toList = (itemsHd nm lo fi (P.length : Int), 0)) (hd2 : K.decF (shapeT P.length) s.data.toList = (loadItems nm lo fi (P.length : Int) P R, 0)) (hnm : nm.size ≤ 281474976710656) (hPn : ∀ p ∈ P, p.name.size ≤ 281474976710656) (hRn : ∀ r ∈ R, r.prod.size ≤ 281474976710656 ∧ r.key.size ≤ 281474976710656 ∧ r.val.size ≤ 281474976710656) (w : World) :
    Calls Tryz.prog 20 #[.string s] w fun e w' => Below w.heap.size w w' ∧ ((loadB nm lo fi P R = false ∧ e = .returned (.tuple #[.pointer none, .int .i64 10])) ∨ (loadB nm lo fi P R = true ∧ ∃ L : LOC, e = .returned (.tuple #[.pointer (some ⟨L.b, 0, none⟩), .int .i64 0]) ∧ TAt w' L (loadG nm lo fi P R) ∧ ∀ j, L.own j → w.heap.size ≤ j)) := by
  have hlen := li_len nm lo fi (P.length : Int) P R
  have HI := titems_good s T hs hT w (hH w) _ _ _ _ hd P.length rfl hP _ hd2 (by omega)
  go_enter Tryz.func20, Tryz.ntmps20
  refine wp_seq (reg_mono (ld_r0 (by kernel_rfl) _ (v := ⟨_, _, _, _, _, _, _, _, _⟩) ⟨rfl, rfl, rfl, rfl, rfl, rfl, rfl, rfl, rfl, rfl, rfl⟩ ?_))
  intro a0 F0
  try dsimp only at F0
  refine wp_seq (reg_mono (ld_r1 (s := s) (n1 := 4) (n2 := 3 * P.length) (n3 := 5 * R.length) (ok := true) (R := fun ho hc po pc ro rc u => ∃ g cp g2 cp2, ho = some ⟨g, 0, none⟩ ∧ hc = cp ∧ po = partAt g2 4 cp2 ∧ pc = cp2 - 4 ∧ ro = partAt g2 (4 + 3 * P.length) cp2 ∧ rc = cp2 - (4 + 3 * P.length) ∧ 4 ≤ cp ∧ 4 + 3 * P.length + 5 * R.length ≤ cp2 ∧ g < u.heap.size ∧ (∃ ct, u.heap[g2]? = some (.cells ct 83 (0, 0))) ∧ (∀ j x, (K.itemCells (itemsHd nm lo fi (P.length : Int)))[j]? = some x → u.cell? ⟨g, j, none⟩ = some x) ∧ (∀ j x, (K.itemCells (loadItems nm lo fi (P.length : Int) P R))[j]? = some x → u.cell? ⟨g2, j, none⟩ = some x) ∧ Below w.heap.size w u) (by kernel_rfl) _ F0 rfl (HI.mono fun e u q => ?_) ?_))
  · obtain ⟨g, cp, g2, cp2, e1, q1, q2, q3, q4, q5, q6, q7⟩ := q
    rw [hlen, show 4 + 3 * P.length + 5 * R.length - (4 + 3 * P.length) = 5 * R.length by omega] at e1
    exact ⟨_, _, _, _, _, _, e1, g, cp, g2, cp2, rfl, rfl, rfl, rfl, rfl, rfl, q1, by omega, q3, q4, q5, q6, q7⟩
  rintro a1 w1 _ _ _ _ _ _ F1 ⟨g, cp, g2, cp2, rfl, rfl, rfl, rfl, rfl, rfl, z1, z2, z3, ⟨ct, z4⟩, z5, z6, b1⟩
  try dsimp only at F1
  clear HI
  refine wp_seq (wp_seq (reg_mono (ld_r2 (by kernel_rfl) _ F1 rfl ?_)))
  intro a2 F2 g2'
  refine wp_cond_false g2' (wp_skip ?_)
  show Code.wp _ _ _ _ _
  have HN := tnew nm hnm w1
  have c2 := z5 2 (.string nm) rfl
  cases hw : wordB nm with
  | false =>
    rw [hw] at HN
    refine wp_seq (reg_mono (ld_r4 (ec := 5) (R := fun po u => po = none ∧ Below w1.heap.size w1 u) (by kernel_rfl) _ F2 rfl c2 (HN.mono fun e u q => ?_) ?_))
    · obtain ⟨q1, ⟨_, q2⟩ | ⟨q2, _⟩⟩ := q
      · exact ⟨_, q2, rfl, q1⟩
      · cases q2
    rintro a4 w4 _ F4 ⟨rfl, b4⟩
    try dsimp only at F4
    -- New refused: the others are not asked
    refine wp_seq (wp_seq (reg_mono (ld_r5x (by kernel_rfl) _ F4 rfl (by decide) ?_)))
    intro a5 w5 F5 g5 b5
    refine wp_cond_true g5 ?_
    show Code.wp _ _ _ _ _
    refine wp_seq (reg_mono (ld_r6 (by kernel_rfl) _ F5 ?_))
    intro a6 F6
    try dsimp only at F6
    refine wp_ret ?_
    simp only [Exit.then]
    exact ld_ret F6 rfl rfl ⟨b1.trans ((b4.trans (b5.mono b4.size)).mono b1.size), .inl ⟨by unfold loadB; rw [hw]; rfl, rfl⟩⟩
  | true =>
  rw [hw] at HN
  refine wp_seq (reg_mono (ld_r4 (ec := 0) (R := fun po u => ∃ L : LOC, po = some ⟨L.b, 0, none⟩ ∧ TAt u L (TG.new nm) ∧ (∀ j, L.own j → w1.heap.size ≤ j) ∧ Below w1.heap.size w1 u) (by kernel_rfl) _ F2 rfl c2 (HN.mono fun e u q => ?_) ?_))
  · obtain ⟨q1, ⟨q2, _⟩ | ⟨_, L, q3, q4, q5⟩⟩ := q
    · cases q2
    · exact ⟨_, q3, L, rfl, q4, q5, q1⟩
  rintro a4 w4 _ F4 ⟨L, rfl, t4, o4, b4⟩
  try dsimp only at F4
  have hg2 := heap_lt z4
  have cellT : ∀ (W : World) (k o : Nat), Touch L.own w4 W → k < w1.heap.size → W.cell? ⟨k, o, none⟩ = w1.cell? ⟨k, o, none⟩ := fun W k o t hk => by
    have h1 := t.block k (Nat.lt_of_lt_of_le hk b4.size) (fun e => by have := o4 k e; omega)
    have h2 := b4.block k hk
    exact World.cell?_of_block (w := w1) (a := ⟨k, o, none⟩) (h1.trans h2)
  have blkT : ∀ (W : World), Touch L.own w4 W → W.heap[g2]? = some (.cells ct 83 (0, 0)) := fun W t => (t.block g2 (Nat.lt_of_lt_of_le hg2 b4.size) (fun e => by have := o4 g2 e; omega)).trans ((b4.block g2 hg2).trans z4)
  have hg1' : ∀ W, Touch L.own w4 W → W.cell? ⟨g, 4, none⟩ = some (.int .u64 lo) := fun W t => (cellT W g 4 t z3).trans (z5 4 _ rfl)
  have hg2' : ∀ W, Touch L.own w4 W → W.cell? ⟨g, 7, none⟩ = some (.int .u64 fi) := fun W t => (cellT W g 7 t z3).trans (z5 7 _ rfl)
  have below4 : ∀ {W : World}, Touch L.own w4 W → Below w.heap.size w W := fun t => b1.trans ((b4.trans (t.toBelow b4.size fun k hk e => by have := o4 k e; omega)).mono b1.size)
  have hM : ∀ (G1 : TG), (markB (IntKind.i64.wrap lo) (IntKind.i64.wrap fi) = true → G1 = { TG.new nm with low := (IntKind.i64.wrap lo).toNat, fin := (IntKind.i64.wrap fi).toNat }) → ∀ W, Touch L.own w4 W → TAt W L (TG.new nm) → Calls Tryz.prog 43 #[.pointer (some ⟨L.b, 0, none⟩), .int .i64 (IntKind.i64.wrap lo), .int .i64 (IntKind.i64.wrap fi)] W fun e w' => e = .returned (.bool (markB (IntKind.i64.wrap lo) (IntKind.i64.wrap fi))) ∧ Touch L.own W w' ∧ (markB (IntKind.i64.wrap lo) (IntKind.i64.wrap fi) = true → TAt w' L G1) := by
    intro G1 hG1 W t tt
    refine (tmark tt _ _).mono fun e u ⟨q1, q2⟩ => ⟨q1, q2 ▸ mark_touch W L _ _, fun hm => ?_⟩
    obtain ⟨m1, m2, m3⟩ := markB_out hm
    have := tt.mark (IntKind.i64.wrap lo).toNat (IntKind.i64.wrap fi).toNat
    rw [Int.toNat_of_nonneg m1, Int.toNat_of_nonneg (Int.le_trans m1 m2)] at this
    rw [hG1 hm, q2]
    exact this
  cases hm : markB (IntKind.i64.wrap lo) (IntKind.i64.wrap fi) with
  | false =>
    have hb : loadB nm lo fi P R = false := by unfold loadB; rw [hw, hm]; rfl
    have hM1 := hM (TG.new nm) (fun e => by rw [hm] at e; cases e)
    rw [hm] at hM1
    refine wp_seq (wp_seq (reg_mono (ld_r5b (G2 := TG.new nm) (G3 := TG.new nm) (np := 0) (nr := 0) (P := []) (R := []) (by kernel_rfl) _ F4 rfl rfl rfl t4 hg1' hg2' hM1 ?_)))
    intro a5 w5 F5 g5 t5
    refine wp_cond_true g5 ?_
    show Code.wp _ _ _ _ _
    refine wp_seq (reg_mono (ld_r6 (by kernel_rfl) _ F5 ?_))
    intro a6 F6
    try dsimp only at F6
    refine wp_ret ?_
    simp only [Exit.then]
    exact ld_ret F6 rfl rfl ⟨below4 t5, .inl ⟨hb, rfl⟩⟩
  | true =>
  obtain ⟨m1, m2, m3⟩ := markB_out hm
  have hM1 := hM { TG.new nm with low := (IntKind.i64.wrap lo).toNat, fin := (IntKind.i64.wrap fi).toNat } (fun _ => rfl)
  rw [hm] at hM1
  have eL : ((IntKind.i64.wrap lo).toNat : Int) = IntKind.i64.wrap lo := Int.toNat_of_nonneg m1
  have eF : ((IntKind.i64.wrap fi).toNat : Int) = IntKind.i64.wrap fi := Int.toNat_of_nonneg (Int.le_trans m1 m2)
  have part4 : partAt g2 4 cp2 = some ⟨g2, 12, none⟩ ∨ P.length = 0 := by
    unfold partAt
    by_cases e : cp2 = 4
    · exact .inr (by omega)
    · exact .inl (if_neg e)
  have partR : partAt g2 (4 + 3 * P.length) cp2 = some ⟨g2, (4 + 3 * P.length) * 3, none⟩ ∨ R.length = 0 := by
    unfold partAt
    by_cases e : cp2 = 4 + 3 * P.length
    · exact .inr (by omega)
    · exact .inl (if_neg e)
  have hPc : ∀ W, Touch L.own w4 W → Calls Tryz.prog 45 #[.slice (partAt g2 4 cp2) (3 * P.length) (cp2 - 4)] W fun e w' => ∃ ro rc, e = .returned (.slice ro P.length rc) ∧ OwnsQ w' 75 3 (.slice ro P.length rc) P.length (prodCells (P.map prW)) ∧ Below W.heap.size W w' := by
    intro W t
    refine (tprof P g2 12 (cp2 - 4) (partAt g2 4 cp2) (fun h => part4.resolve_right (by omega)) W (by omega) (by omega) ct (blkT W t) fun i hi => ?_).mono fun e u ⟨ro, rc, q1, q2, q3⟩ => ⟨ro, rc, q1, OwnsQ.of_row q2, q3⟩
    refine ⟨?_, ?_, ?_⟩
    · rw [cellT W g2 _ t hg2, z6 _ (.string P[i].name) (by rw [li_prod _ _ _ _ _ _ i 2 hi (by omega)]; rfl)]
    · rw [cellT W g2 _ t hg2, z6 _ (.int .u64 P[i].seq) (by rw [li_prod _ _ _ _ _ _ i 4 hi (by omega)]; rfl)]
    · rw [cellT W g2 _ t hg2, z6 _ (.int .u64 P[i].off) (by rw [li_prod _ _ _ _ _ _ i 7 hi (by omega)]; rfl)]
  have hKc : ∀ W ro rc, Touch L.own w4 W → TAt W L { TG.new nm with low := (IntKind.i64.wrap lo).toNat, fin := (IntKind.i64.wrap fi).toNat } → OwnsQ W 75 3 (.slice ro P.length rc) P.length (prodCells (P.map prW)) → Calls Tryz.prog 44 #[.pointer (some ⟨L.b, 0, none⟩), .slice ro P.length rc] W fun e w' => e = .returned (.bool (knowF (IntKind.i64.wrap fi) none (P.map prW))) ∧ Touch L.own W w' ∧ (knowF (IntKind.i64.wrap fi) none (P.map prW) = true → TAt w' L ⟨nm, (IntKind.i64.wrap lo).toNat, (IntKind.i64.wrap fi).toNat, [], knowD (.map []) (P.map prW), P.length⟩) := by
    intro W ro rc t tt qq
    have h := tknow tt (P.map prW) ro rc (by rw [List.length_map]; exact qq) (fun p hp => by
      obtain ⟨p0, hp0, rfl⟩ := List.mem_map.1 hp
      exact hPn p0 hp0) (by rw [List.length_map]; omega) (Nat.zero_le _)
    simp only [eF, List.length_map] at h
    refine h.mono fun e u ⟨q1, q2, q3⟩ => ⟨q1, q2, fun hk => ?_⟩
    have := q3 hk
    have e0 : (TG.new nm).n + P.length = P.length := Nat.zero_add _
    simp only [TG.new, Nat.zero_add] at this
    exact this
  cases hk : knowF (IntKind.i64.wrap fi) none (P.map prW) with
  | false =>
    have hb : loadB nm lo fi P R = false := by unfold loadB; rw [hw, hm, hk]; rfl
    rw [hk] at hKc
    refine wp_seq (wp_seq (reg_mono (ld_r5c (G2 := ⟨nm, (IntKind.i64.wrap lo).toNat, (IntKind.i64.wrap fi).toNat, [], knowD (.map []) (P.map prW), P.length⟩) (G3 := TG.new nm) (nr := 0) (R := []) (by kernel_rfl) _ F4 rfl rfl rfl rfl t4 hg1' hg2' hM1 hPc hKc ?_)))
    intro a5 w5 F5 g5 t5
    refine wp_cond_true g5 ?_
    show Code.wp _ _ _ _ _
    refine wp_seq (reg_mono (ld_r6 (by kernel_rfl) _ F5 ?_))
    intro a6 F6
    try dsimp only at F6
    refine wp_ret ?_
    simp only [Exit.then]
    exact ld_ret F6 rfl rfl ⟨below4 t5, .inl ⟨hb, rfl⟩⟩
  | true =>
  rw [hk] at hKc
  have hRc : ∀ W, Touch L.own w4 W → Calls Tryz.prog 47 #[.slice (partAt g2 (4 + 3 * P.length) cp2) (5 * R.length) (cp2 - (4 + 3 * P.length))] W fun e w' => ∃ ro rc, e = .returned (.slice ro R.length rc) ∧ OwnsQ w' 39 5 (.slice ro R.length rc) R.length (recCells (R.map recW)) ∧ (∀ j, (Value.slice ro R.length rc).ownBlock = some j → w4.heap.size ≤ j) ∧ Below W.heap.size W w' := by
    intro W t
    refine (trecf R g2 ((4 + 3 * P.length) * 3) (cp2 - (4 + 3 * P.length)) (partAt g2 (4 + 3 * P.length) cp2) (fun h => partR.resolve_right (by omega)) W (by omega) (by omega) ct (blkT W t) fun i hi => ?_).mono fun e u ⟨ro, rc, q1, q2, q3⟩ => ⟨ro, rc, q1, OwnsQ.of_row q2, fun j hj => Nat.le_trans t.size (q2.lt j hj).1, q3⟩
    have e : ∀ j, (4 + 3 * P.length) * 3 + i * 15 + j = 12 + 9 * P.length + i * 15 + j := fun j => by omega
    refine ⟨?_, ?_, ?_, ?_, ?_⟩
    · rw [e, cellT W g2 _ t hg2, z6 _ (.int .u64 R[i].off) (by rw [li_rec _ _ _ _ _ _ i 1 hi (by omega)]; rfl)]
    · rw [e, cellT W g2 _ t hg2, z6 _ (.string R[i].prod) (by rw [li_rec _ _ _ _ _ _ i 5 hi (by omega)]; rfl)]
    · rw [e, cellT W g2 _ t hg2, z6 _ (.int .u64 R[i].seq) (by rw [li_rec _ _ _ _ _ _ i 7 hi (by omega)]; rfl)]
    · rw [e, cellT W g2 _ t hg2, z6 _ (.string R[i].key) (by rw [li_rec _ _ _ _ _ _ i 11 hi (by omega)]; rfl)]
    · rw [e, cellT W g2 _ t hg2, z6 _ (.string R[i].val) (by rw [li_rec _ _ _ _ _ _ i 14 hi (by omega)]; rfl)]
  have hHc : ∀ W ro rc, Touch L.own w4 W → TAt W L ⟨nm, (IntKind.i64.wrap lo).toNat, (IntKind.i64.wrap fi).toNat, [], knowD (.map []) (P.map prW), P.length⟩ → OwnsQ W 39 5 (.slice ro R.length rc) R.length (recCells (R.map recW)) → (∀ j, (Value.slice ro R.length rc).ownBlock = some j → w4.heap.size ≤ j) → Calls Tryz.prog 46 #[.pointer (some ⟨L.b, 0, none⟩), .slice ro R.length rc] W fun e w' => e = .returned (.bool (haveF (IntKind.i64.wrap fi) (IntKind.i64.wrap lo) (R.map recW))) ∧ Touch L.own W w' ∧ (haveF (IntKind.i64.wrap fi) (IntKind.i64.wrap lo) (R.map recW) = true → TAt w' { L with ro := ro, rc := rc } (loadG nm lo fi P R)) := by
    intro W ro rc t tt qq _
    have h := thave tt (by show (IntKind.i64.wrap fi).toNat ≤ 9007199254840991; omega) (R.map recW) ro rc (by rw [List.length_map]; exact qq) (fun r hr => by
      obtain ⟨r0, hr0, rfl⟩ := List.mem_map.1 hr
      obtain ⟨y1, y2, y3⟩ := hRn r0 hr0
      exact ⟨(wrap_in _).1, (wrap_in _).2, (wrap_in _).1, (wrap_in _).2, y1, y2, y3⟩) (by rw [List.length_map]; omega)
    simp only [eF, eL, List.length_map] at h
    exact h
  cases hh : haveF (IntKind.i64.wrap fi) (IntKind.i64.wrap lo) (R.map recW) with
  | false =>
    have hb : loadB nm lo fi P R = false := by unfold loadB; rw [hw, hm, hk, hh]; rfl
    rw [hh] at hHc
    refine wp_seq (wp_seq (reg_mono (ld_r5d (G3 := TG.new nm) (by kernel_rfl) _ F4 rfl rfl rfl rfl rfl t4 hg1' hg2' hM1 hPc hKc hRc (fun W ro rc t tt qq nn => (hHc W ro rc t tt qq nn).mono fun e u ⟨q1, q2, q3⟩ => ⟨q1, q2, fun e => (by cases e)⟩) ?_)))
    intro a5 w5 F5 g5 t5
    refine wp_cond_true g5 ?_
    show Code.wp _ _ _ _ _
    refine wp_seq (reg_mono (ld_r6 (by kernel_rfl) _ F5 ?_))
    intro a6 F6
    try dsimp only at F6
    refine wp_ret ?_
    simp only [Exit.then]
    exact ld_ret F6 rfl rfl ⟨below4 t5, .inl ⟨hb, rfl⟩⟩
  | true =>
  have hb : loadB nm lo fi P R = true := by unfold loadB; rw [hw, hm, hk, hh]; rfl
  rw [hh] at hHc
  refine wp_seq (wp_seq (reg_mono (ld_r5e (G3 := loadG nm lo fi P R) (by kernel_rfl) _ F4 rfl rfl rfl rfl rfl t4 hg1' hg2' hM1 hPc hKc hRc (fun W ro rc t tt qq nn => (hHc W ro rc t tt qq nn).mono fun e u ⟨q1, q2, q3⟩ => ⟨q1, q2, fun e => ⟨{ L with ro := ro, rc := rc }, rfl, q3 e, fun j hj => hj.elim (fun h => .inl (.inl h)) fun h => h.elim (fun h => .inl (.inr (.inl h))) fun h => .inr (nn j ((own_block _ _ _ _).trans h))⟩⟩) ?_)))
  intro a5 w5 F5 g5 t5 ⟨L', eb, t5', o5⟩
  refine wp_cond_false g5 (wp_skip ?_)
  show Code.wp _ _ _ _ _
  rw [← eb] at F5
  refine wp_seq (reg_mono (ld_r7 (by kernel_rfl) _ F5 rfl ?_))
  intro a7 F7
  try dsimp only at F7
  refine wp_ret ?_
  exact ld_ret F7 rfl rfl ⟨below4 t5, .inr ⟨hb, L', rfl, t5', fun j hj => by
    rcases o5 j hj with e | e
    · exact Nat.le_trans b1.size (o4 j e)
    · exact Nat.le_trans b1.size (Nat.le_trans b4.size e)⟩⟩
end Go.Proofs.YtfoomgdlbkjaeaaGreat.Y
namespace Go.Proofs.YtfoomgdlbkjaeaaGreat.Y
open Go.RowKit
attribute [local go_sem ↓] Go.wp_at_zero Go.wp_at_succ
set_option linter.unusedSimpArgs false
set_option linter.unusedVariables false
open Go.Maps
theorem tload_bad (s : ByteArray) (w : World) (HI : Calls Tryz.prog 42 #[.string s] w fun e w' => e = .returned NOITEMS ∧ Below w.heap.size w w') :
    Calls Tryz.prog 20 #[.string s] w fun e w' => Below w.heap.size w w' ∧ e = .returned (.tuple #[.pointer none, .int .i64 10]) := by
  go_enter Tryz.func20, Tryz.ntmps20
  refine wp_seq (reg_mono (ld_r0 (by kernel_rfl) _ (v := ⟨_, _, _, _, _, _, _, _, _⟩) ⟨rfl, rfl, rfl, rfl, rfl, rfl, rfl, rfl, rfl, rfl, rfl⟩ ?_))
  intro a0 F0
  try dsimp only at F0
  refine wp_seq (reg_mono (ld_r1 (s := s) (n1 := 0) (n2 := 0) (n3 := 0) (ok := false) (R := fun _ _ _ _ _ _ u => Below w.heap.size w u) (by kernel_rfl) _ F0 rfl (HI.mono fun e u q => ?_) ?_))
  · exact ⟨_, _, _, _, _, _, q.1, q.2⟩
  rintro a1 w1 _ _ _ _ _ _ F1 b1
  try dsimp only at F1
  clear HI
  refine wp_seq (wp_seq (reg_mono (ld_r2 (by kernel_rfl) _ F1 rfl ?_)))
  intro a2 F2 g2'
  refine wp_cond_true g2' ?_
  show Code.wp _ _ _ _ _
  refine wp_seq (reg_mono (ld_r3 (by kernel_rfl) _ F2 ?_))
  intro a3 F3
  try dsimp only at F3
  refine wp_ret ?_
  simp only [Exit.then]
  exact ld_ret F3 rfl rfl ⟨b1, rfl⟩
end Go.Proofs.YtfoomgdlbkjaeaaGreat.Y
namespace Go.Proofs.YtfoomgdlbkjaeaaGreat.Y
open Go.RowKit Go.Maps Go.Sort
set_option maxRecDepth 100000
set_option linter.unusedSimpArgs false
set_option linter.unusedVariables false
def LFull (D : DataW Nat) : Prop := ∀ k, Maps.has D (.string k) = true → pget D k ≠ none
theorem lfull_empty : LFull (.map []) := fun k h => by cases h
theorem lfull_put {D : DataW Nat} (hD : IsMap D) (h : LFull D) (k : List UInt8) (a b : Int) : LFull (pput D k a b) := by
  intro k' hk
  by_cases e : k' = k
  · subst e
    rw [pget_put_same hD]
    simp
  · rw [pget_put_other D e]
    refine h k' ?_
    unfold pput at hk
    rw [has_put_other (fun e' => e (by injection e'))] at hk
    exact hk
theorem has_pget {D : DataW Nat} (hf : LFull D) (x : List UInt8) : Maps.has D (.string x) = true ↔ pget D x ≠ none := by
  constructor
  · exact hf x
  · intro h
    cases hh : Maps.has D (.string x) with
    | true => rfl
    | false =>
      exfalso
      apply h
      unfold pget
      rw [atKey_of_not_has hh]
section
variable {w : World} {b n : Nat} {D : DataW Nat}
theorem lkeys_mem (hown : w.ownsMap Tryz.prog 9 lastR b n D) (x : List UInt8) : x ∈ strKeys D ↔ Maps.has D (.string x) = true := by
  obtain ⟨es, hD, hko⟩ := hown.keysOf
  subst hD
  rw [has_eq, List.any_eq_true]
  show x ∈ es.map (fun p => strOf p.1) ↔ _
  rw [List.mem_map]
  constructor
  · rintro ⟨p, hp, rfl⟩
    obtain ⟨v, hv⟩ := hko p hp
    obtain ⟨a, _, ha, _⟩ := Maps.keyOf_str Tryz.underlying9 hv
    exact ⟨p, hp, by rw [ha]; simp [Lit.sameKey, strOf]⟩
  · rintro ⟨p, hp, hs⟩
    obtain ⟨v, hv⟩ := hko p hp
    obtain ⟨a, _, ha, _⟩ := Maps.keyOf_str Tryz.underlying9 hv
    rw [ha] at hs
    exact ⟨p, hp, by rw [ha]; simpa [Lit.sameKey, strOf] using hs⟩
theorem lkeys_nodup (hown : w.ownsMap Tryz.prog 9 lastR b n D) : (strKeys D).Nodup := by
  obtain ⟨es, hD, hpw⟩ := hown.tidy keyedS
  obtain ⟨es', hD', hko⟩ := hown.keysOf
  obtain rfl : es = es' := by rw [hD] at hD'; simpa using hD'
  subst hD
  show (es.map fun p => strOf p.1).Nodup
  refine List.pairwise_map.2 (hpw.imp_of_mem fun {p q} hp' hq' hne e => hne ?_)
  obtain ⟨v, hv⟩ := hko p hp'
  obtain ⟨a, _, ha, _⟩ := Maps.keyOf_str Tryz.underlying9 hv
  obtain ⟨v', hv'⟩ := hko q hq'
  obtain ⟨c, _, hc, _⟩ := Maps.keyOf_str Tryz.underlying9 hv'
  rw [ha, hc] at e ⊢
  exact congrArg _ e
theorem names_mem (hown : w.ownsMap Tryz.prog 9 lastR b n D) (hf : LFull D) (x : List UInt8) : x ∈ dnames D ↔ pget D x ≠ none := by
  unfold dnames
  rw [List.mem_mergeSort, lkeys_mem hown, has_pget hf]
theorem leB_tr : ∀ a b c : List UInt8, leB a b = true → leB b c = true → leB a c = true := fun a b c h1 h2 => by simp only [leB, decide_eq_true_eq] at *; exact List.le_trans h1 h2
theorem leB_tot : ∀ a b : List UInt8, (leB a b || leB b a) = true := fun a b => by simp only [leB, Bool.or_eq_true, decide_eq_true_eq]; exact List.le_total a b
def RiseL (l : List (List UInt8)) : Prop := l.Pairwise fun a b => a < b
theorem names_rise (hown : w.ownsMap Tryz.prog 9 lastR b n D) : RiseL (dnames D) := by
  have h1 : (dnames D).Pairwise fun a b => leB a b = true := List.pairwise_mergeSort leB_tr leB_tot _
  have h2 : (dnames D).Nodup := (List.mergeSort_perm _ _).nodup_iff.2 (lkeys_nodup hown)
  refine (h1.and h2).imp fun {x y} h => ?_
  have h3 := h.1
  simp only [leB, decide_eq_true_eq] at h3
  rcases List.le_iff_lt_or_eq.1 h3 with h4 | h4
  · exact h4
  · exact absurd h4 h.2
end
theorem rise_nodup {l : List (List UInt8)} (h : RiseL l) : l.Nodup := h.imp fun h e => by rw [e] at h; exact absurd h (List.lt_irrefl _)
theorem rise_eq {l m : List (List UInt8)} (hl : RiseL l) (hm : RiseL m) (h : ∀ x, x ∈ l ↔ x ∈ m) : l = m := by
  have hp : l.Perm m := (List.perm_ext_iff_of_nodup (rise_nodup hl) (rise_nodup hm)).2 h
  refine List.Perm.eq_of_pairwise (le := fun a b => leB a b = true) (fun a b _ _ h1 h2 => ?_) ?_ ?_ hp
  · simp only [leB, decide_eq_true_eq] at h1 h2
    exact List.le_antisymm h1 h2
  · exact hl.imp fun h => by simp only [leB, decide_eq_true_eq]; exact List.le_of_lt h
  · exact hm.imp fun h => by simp only [leB, decide_eq_true_eq]; exact List.le_of_lt h
theorem know_isMap : ∀ (l : List PU) {D : DataW Nat}, IsMap D → IsMap (knowD D l)
  | [], D, h => h
  | p :: l, D, h => know_isMap l (h.put _ _)
theorem know_full : ∀ (l : List PU) {D : DataW Nat}, IsMap D → LFull D → LFull (knowD D l)
  | [], D, _, h => h
  | p :: l, D, hm, h => know_full l (hm.put _ _) (lfull_put hm h _ _ _)
theorem know_not : ∀ (l : List PU) {D : DataW Nat} (k : List UInt8), (∀ p ∈ l, p.name.data.toList ≠ k) → pget (knowD D l) k = pget D k
  | [], D, k, _ => rfl
  | p :: l, D, k, h => by
    show pget (knowD (pput D _ _ _) l) k = _
    rw [know_not l k fun q hq => h q (by simp [hq])]
    exact pget_put_other _ (fun e => h p (by simp) e.symm) _ _
theorem know_in : ∀ (l : List PU) {D : DataW Nat} (hm : IsMap D) (hn : (l.map fun p => p.name.data.toList).Nodup) (p : PU), p ∈ l → pget (knowD D l) p.name.data.toList = some (p.off, p.seq)
  | q :: l, D, hm, hn, p, hp => by
    rw [List.map_cons, List.nodup_cons] at hn
    show pget (knowD (pput D _ _ _) l) _ = _
    rcases List.mem_cons.1 hp with rfl | hp
    · rw [know_not l _ fun r hr e => hn.1 (List.mem_map.2 ⟨r, hr, e⟩)]
      exact pget_put_same hm _ _ _
    · exact know_in l (hm.put _ _) hn.2 p hp
structure EqT (G H : TG) : Prop where
  name : H.name = G.name
  low : H.low = G.low
  fin : H.fin = G.fin
  recs : H.recs = G.recs
  prod : ∀ k, pget H.D k = pget G.D k
structure Tell (G : TG) : Prop where
  isMap : IsMap G.D
  full : LFull G.D
  prod : ∀ k o s, pget G.D k = some (o, s) → wordB ⟨k.toArray⟩ = true ∧ 0 ≤ s ∧ s ≤ 9007199254740991 ∧ 0 ≤ o ∧ o < (G.fin : Int)
end Go.Proofs.YtfoomgdlbkjaeaaGreat.Y
