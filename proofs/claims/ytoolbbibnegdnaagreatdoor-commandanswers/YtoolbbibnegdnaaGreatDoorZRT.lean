/-
  carillonref14's Answered, whole.
-/
import Derived.Test.YtoolbbibnegdnaaGreatDoorZHN
import Derived.Test.YtoolbbibnegdnaaGreatDoorZCL
import Derived.Test.YtoolbbibnegdnaaGreatDoorZGI
namespace Go.Proofs.YtoolbbibnegdnaaGreatDoor
open Go.RowKit

attribute [local go_sem ↓] Go.wp_at_zero Go.wp_at_succ
set_option linter.unusedSimpArgs false
set_option linter.unusedVariables false
theorem rdecP_call (s : ByteArray) (h : s.size ≤ 9223372036854775807) (w : World) : Calls Tryz.prog 33 #[.string ⟨#[108, 98, 108, 42, 108, 116, 108, 116, 116]⟩, .string s] w fun e w' => ∃ oo oc, e = .returned (.tuple #[.slice oo (K.decF shapeP s.data.toList).1.length oc, .int .i64 (K.decF shapeP s.data.toList).2]) ∧ w'.ownsRow w.heap.size 61 3 (.slice oo (K.decF shapeP s.data.toList).1.length oc) (K.decF shapeP s.data.toList).1.length (K.itemCells (K.decF shapeP s.data.toList).1) ∧ Below w.heap.size w w' :=
  (K.rdecode_any ⟨#[108, 98, 108, 42, 108, 116, 108, 116, 116]⟩ s w (by decide) h _ rfl).mono fun e w' ⟨v, h1, h2, h3⟩ => by
    obtain ⟨oo, oc, rfl⟩ := row_slice h2
    exact ⟨oo, oc, h1, h2, h3⟩
/-- What an item of a reply's record holds. -/
theorem rec_cells {W : World} {g : Nat} {a : Int} {r : RP} (hIt : K.ItemsAt W (some ⟨g, 0, none⟩) (itemsP a r)) {k : Nat} (hk : k < r.recs.length) :
    W.cell? ⟨g, (3 + 5 * k) * 3 + 1, none⟩ = some (.int .u64 r.recs[k].off) ∧ W.cell? ⟨g, (3 + 5 * k + 1) * 3 + 2, none⟩ = some (.string r.recs[k].prod) ∧ W.cell? ⟨g, (3 + 5 * k + 2) * 3 + 1, none⟩ = some (.int .u64 r.recs[k].seq) ∧ W.cell? ⟨g, (3 + 5 * k + 3) * 3 + 2, none⟩ = some (.string r.recs[k].key) ∧ W.cell? ⟨g, (3 + 5 * k + 4) * 3 + 2, none⟩ = some (.string r.recs[k].val) := by
  have hl := itemsP_len a r
  have get : ∀ j, j < 5 → ∃ x, (itemsR r.recs[k])[j]? = some x ∧ W.cell? ⟨g, (3 + 5 * k + j) * 3 + 1, none⟩ = some (.int .u64 x.n) ∧ W.cell? ⟨g, (3 + 5 * k + j) * 3 + 2, none⟩ = some (.string x.s) := by
    intro j hj
    have h1 := itemsP_get a r k j hk hj
    have hlt : 3 + 5 * k + j < (itemsP a r).length := by omega
    obtain ⟨b, off, e, _, _, c1, c2⟩ := hIt (3 + 5 * k + j) hlt
    injection e with e
    injection e with e1 e2 _
    subst e1 e2
    rw [Nat.zero_add] at c1 c2
    rw [List.getElem?_eq_getElem hlt] at h1
    exact ⟨_, h1.symm, c1, c2⟩
  obtain ⟨x0, e0, c0, _⟩ := get 0 (by omega)
  obtain ⟨x1, e1, _, c1⟩ := get 1 (by omega)
  obtain ⟨x2, e2, c2, _⟩ := get 2 (by omega)
  obtain ⟨x3, e3, _, c3⟩ := get 3 (by omega)
  obtain ⟨x4, e4, _, c4⟩ := get 4 (by omega)
  cases e0; cases e1; cases e2; cases e3; cases e4
  exact ⟨c0, c1, c2, c3, c4⟩
theorem head_cells {W : World} {g : Nat} {a : Int} {r : RP} (hIt : K.ItemsAt W (some ⟨g, 0, none⟩) (itemsP a r)) : W.cell? ⟨g, 1, none⟩ = some (.int .u64 a) ∧ W.cell? ⟨g, 4, none⟩ = some (.int .u64 r.code) ∧ W.cell? ⟨g, 7, none⟩ = some (.int .u64 (r.n + 1)) := by
  have hl := itemsP_len a r
  have get : ∀ j (hj : j < (itemsP a r).length), W.cell? ⟨g, j * 3 + 1, none⟩ = some (.int .u64 (itemsP a r)[j].n) := by
    intro j hj
    obtain ⟨b, off, e, _, _, c1, c2⟩ := hIt j hj
    injection e with e
    injection e with e1 e2 _
    subst e1 e2
    rw [Nat.zero_add] at c1
    exact c1
  exact ⟨get 0 (by omega), get 1 (by omega), get 2 (by omega)⟩
theorem code_small {a : Int} {r : RP} (h : ∀ x ∈ itemsP a r, x.ok ∧ K.faultF x = 0) : r.code ≤ 255 := by
  have h1 := (h ⟨1, r.code, ⟨#[]⟩⟩ (by simp [itemsP])).2
  unfold K.faultF at h1
  have k1 : K.kindB 1 = true := by decide
  have k2 : (256 : Int) ^ K.widthN 1 = 256 := by decide
  simp only [k1, k2] at h1
  apply Classical.byContradiction
  intro hn
  rw [if_neg (by decide), if_pos ⟨by decide, .inr (by omega)⟩] at h1
  exact absurd h1 (by decide)
set_option maxHeartbeats 8000000 in
set_option maxRecDepth 100000 in
theorem ransd (s : ByteArray) (h63 : s.size ≤ 9223372036854775807) (w : World) :
    Calls Tryz.prog 12 #[.string s] w (Gave w (answP s.data.toList).1 (answP s.data.toList).2.1 (answP s.data.toList).2.2) := by
  have HT := fun W => rtake_any s W h63
  have hsm := takeF_small s.data.toList
  have hA : answP s.data.toList = if (takeF s.data.toList).2.2 ≠ 0 then (0, RP.zero, (takeF s.data.toList).2.2) else if (takeF s.data.toList).2.1 ≠ s.size then (0, RP.zero, 10) else if (K.decF shapeP (takeF s.data.toList).1).2 ≠ 0 then (0, RP.zero, 10) else if askOk (replyOf (K.decF shapeP (takeF s.data.toList).1).1).1 ∧ (replyOf (K.decF shapeP (takeF s.data.toList).1).1).2.right then ((replyOf (K.decF shapeP (takeF s.data.toList).1).1).1, (replyOf (K.decF shapeP (takeF s.data.toList).1).1).2, 0) else (0, RP.zero, 10) := by
    unfold answP
    rw [show s.data.toList.length = s.size by simp]
  generalize answP s.data.toList = A at *
  generalize takeF s.data.toList = T at *
  obtain ⟨bd, m, er⟩ := T
  simp only at HT hsm hA
  have HD := rdecP_call ⟨bd.toArray⟩ (by show bd.toArray.size ≤ _; simp; omega)
  rw [show ((⟨bd.toArray⟩ : ByteArray).data.toList) = bd by simp] at HD
  have hdi := @dec_itemsP bd
  generalize K.decF shapeP bd = D at *
  obtain ⟨l, f⟩ := D
  simp only at HD hA hdi
  go_enter Tryz.func12, Tryz.ntmps12
  refine wp_seq (reg_mono (rz_r0 (by kernel_rfl) _ (v := ⟨_, _, _, _, _, _, _, _, _, _, _, _, _, _, _, _, _⟩) ⟨rfl, rfl, rfl, rfl, rfl, rfl, rfl, rfl, rfl, rfl, rfl, rfl, rfl, rfl, rfl, rfl, rfl, rfl, rfl⟩ ?_))
  intro a0 w0 b F0 Z0 hb0 B0
  try dsimp only at F0
  refine wp_seq (reg_mono (rz_r1 (by kernel_rfl) _ F0 rfl (fun W _ => HT W) ?_))
  intro a1 w1 F1 b1
  try dsimp only at F1
  have Z1 := (b1.block _ (heap_lt Z0)).trans Z0
  have B1 := B0.trans (b1.mono B0.size)
  have hbw : w.heap.size ≤ b := hb0
  clear F0 Z0 B0 b1
  by_cases her : er = 0
  case neg =>
    rw [if_pos her] at hA
    refine wp_seq (wp_seq (reg_mono (rz_r2a (by kernel_rfl) _ F1 rfl her ?_)))
    intro a2 F2
    try dsimp only at F2
    refine wp_cond_true F2.s20 ?_
    refine wp_seq (reg_mono (rz_r3 (B := w.heap.size) (by kernel_rfl) _ F2 rfl rfl Z1 hbw ?_))
    intro a3 w3 F3 Z3 B3
    subst hA
    exact wp_ret (rz_ret (R := Gave w 0 RP.zero er) F3 rfl rfl rfl Z3 (gave_zero er (B1.trans B3)))
  subst her
  rw [if_neg (fun e => e rfl)] at hA
  refine wp_seq (wp_seq (reg_mono (rz_r2b (by kernel_rfl) _ F1 rfl ?_)))
  intro a2 F2
  try dsimp only at F2
  refine wp_cond_false F2.s20 (wp_skip ?_)
  show Code.wp _ _ _ _ _
  refine wp_seq (reg_mono (rz_r4 (RR := fun oo oc w' => w'.ownsRow w1.heap.size 61 3 (.slice oo l.length oc) l.length (K.itemCells l)) (by kernel_rfl) _ F2 rfl (fun W hW => (HD W).mono fun e w' ⟨oo, oc, h1, h2, h3⟩ => ⟨oo, oc, h1, own_baseC h2 hW.size, h3⟩) ?_))
  intro a4 w4 oo oc F4 R4 b4
  try dsimp only at F4
  have Z4 := (b4.block _ (heap_lt Z1)).trans Z1
  have B4 := B1.trans (b4.mono B1.size)
  clear F1 F2 Z1
  -- the refusals share their end
  have bad : ∀ {a5 : Act} {v5 : Vrz} {w5 : World}, Frz a5 v5 → v5.v3 = .pointer (some ⟨b, 0, none⟩) → w5.heap[b]? = some (.cells #[.int .i64 0, .int .i64 0, .slice none 0 0] 37 (0, 0)) → Below w.heap.size w w5 → v5.v2 = .int .i64 0 → v5.v4 = .int .i64 10 → A = (0, RP.zero, 10) → bodyPost Tryz.prog Tryz.f12 (Gave w A.1 A.2.1 A.2.2) .ret a5 w5 := by
    intro a5 v5 w5 F5 e3 Z5 B5 e2 e4 eA
    subst eA
    exact rz_ret F5 e2 e3 e4 Z5 (gave_zero 10 B5)
  by_cases hf : f = 0
  case neg =>
    have hA2 : A = (0, RP.zero, 10) := by
      rw [hA]
      by_cases hm : m = s.size
      · rw [if_neg (fun e => e hm), if_pos hf]
      · rw [if_pos hm]
    refine wp_seq (wp_seq (reg_mono (rz_r5a (by kernel_rfl) _ F4 rfl hf ?_)))
    intro a5 F5
    try dsimp only at F5
    refine wp_cond_true F5.s49 ?_
    refine wp_seq (reg_mono (rz_r6 (B := w.heap.size) (by kernel_rfl) _ F5 rfl Z4 hbw ?_))
    intro a6 w6 F6 Z6 B6
    exact wp_ret (bad F6 rfl Z6 (B4.trans B6) rfl rfl hA2)
  subst hf
  by_cases hm : m = s.size
  case neg =>
    rw [if_pos hm] at hA
    refine wp_seq (wp_seq (reg_mono (rz_r5b (by kernel_rfl) _ F4 rfl rfl rfl h63 (by omega) ?_)))
    intro a5 F5
    try dsimp only at F5
    refine wp_cond_true F5.s49 ?_
    refine wp_seq (reg_mono (rz_r6 (B := w.heap.size) (by kernel_rfl) _ F5 rfl Z4 hbw ?_))
    intro a6 w6 F6 Z6 B6
    exact wp_ret (bad F6 rfl Z6 (B4.trans B6) rfl rfl hA)
  subst hm
  rw [if_neg (fun e => e rfl), if_neg (fun e => e rfl)] at hA
  obtain ⟨e1, _, e3, i1, i2, i3, il, ik, e4, e5, e6⟩ := hdi rfl
  have hlen : (replyOf l).2.recs.length ≤ 200 := by
    have := congrArg List.length e1
    rw [itemsP_len, e4] at this
    rw [e4]
    simp only [List.length_cons] at this
    omega
  generalize replyOf l = AR at *
  obtain ⟨aa, r⟩ := AR
  simp only at e1 hA hlen
  subst e1
  clear e4 e5 e6
  have hL := itemsP_len aa r
  obtain ⟨g, cp, ct, hv, _, hIt, hG4⟩ := own_items2 R4 (by omega)
  injection hv with hv1 _ hv3
  subst hv1 hv3
  obtain ⟨y0, y1, y2⟩ := head_cells hIt
  obtain ⟨_, _, p1, p2, _⟩ := (e3 ⟨3, aa, ⟨#[]⟩⟩ (by simp [itemsP])).1
  obtain ⟨_, _, p3, p4, _⟩ := (e3 ⟨1, r.code, ⟨#[]⟩⟩ (by simp [itemsP])).1
  obtain ⟨_, _, p5, p6, _⟩ := (e3 ⟨3, r.n + 1, ⟨#[]⟩⟩ (by simp [itemsP])).1
  simp only at p1 p2 p3 p4 p5 p6
  have hcs := code_small e3
  have hrec : ∀ x ∈ r.recs, (0 ≤ x.off) ∧ 0 ≤ x.seq ∧ x.prod.size ≤ 9223372036854775807 ∧ x.key.size ≤ 9223372036854775807 ∧ x.val.size ≤ 9223372036854775807 := fun x hx => by
    have hm := fun (z : K.It) (hz : z ∈ itemsR x) => (e3 z (by simp only [itemsP, List.mem_cons]; exact .inr (.inr (.inr (List.mem_flatMap.2 ⟨x, hx, hz⟩))))).1
    exact ⟨(hm ⟨3, x.off, ⟨#[]⟩⟩ (by simp [itemsR])).2.2.1, (hm ⟨3, x.seq, ⟨#[]⟩⟩ (by simp [itemsR])).2.2.1, (hm ⟨4, 0, x.prod⟩ (by simp [itemsR])).2.2.2.2, (hm ⟨4, 0, x.key⟩ (by simp [itemsR])).2.2.2.2, (hm ⟨4, 0, x.val⟩ (by simp [itemsR])).2.2.2.2⟩
  clear e3
  rw [hL] at F4
  refine wp_seq (wp_seq (reg_mono (rz_r5c (by kernel_rfl) _ F4 rfl rfl rfl rfl h63 (by omega) y0 y2 rfl ?_)))
  intro a5 F5
  try dsimp only at F5
  by_cases hg : aa > 9007199254740991 ∨ r.n + 1 > 9007199254740992
  case pos =>
    have hA2 : A = (0, RP.zero, 10) := by
      rw [hA]
      refine if_neg ?_
      rintro ⟨⟨_, q1⟩, _, _, _, q2, _⟩
      omega
    have s49 := F5.s49
    have e : (decide (aa > 9007199254740991) || decide (r.n + 1 > 9007199254740992)) = true := by
      rcases hg with h | h
      · rw [decide_eq_true h]; rfl
      · rw [decide_eq_true h, Bool.or_true]
    simp only [e] at s49
    refine wp_cond_true s49 ?_
    refine wp_seq (reg_mono (rz_r6 (B := w.heap.size) (by kernel_rfl) _ F5 rfl Z4 hbw ?_))
    intro a6 w6 F6 Z6 B6
    exact wp_ret (bad F6 rfl Z6 (B4.trans B6) rfl rfl hA2)
  have s49 := F5.s49
  have e : (decide (aa > 9007199254740991) || decide (r.n + 1 > 9007199254740992)) = false := by rw [decide_eq_false (fun h => hg (.inl h)), decide_eq_false (fun h => hg (.inr h))]; rfl
  simp only [e] at s49
  refine wp_cond_false s49 (wp_skip ?_)
  show Code.wp _ _ _ _ _
  refine wp_seq (reg_mono (rz_r7 (by kernel_rfl) _ F5 rfl (by omega) (heap_lt hG4) y1 y2 p3 (by omega) p5 (by omega) ?_))
  intro a7 w7 bx F7 hbx X7 b7
  try dsimp only at F7
  rw [show r.n + 1 - 1 = r.n by omega] at X7
  have hb4 : b < w4.heap.size := heap_lt Z4
  have Z7 := (b7.block _ hb4).trans Z4
  have G7 := (b7.block _ (heap_lt hG4)).trans hG4
  have B7 := B4.trans (b7.mono B4.size)
  have hne : b ≠ bx := by omega
  refine wp_seq (wp_seq (reg_mono (rz_r8 (by kernel_rfl) _ F7 ?_)))
  intro a8 F8
  try dsimp only at F8
  refine wp_block (wp_loop (fun a W => ∃ (k : Nat) (v : Vrz) (ro : Option Addr) (rc : Nat), k ≤ r.recs.length ∧ Frz a v ∧ v.v3 = .pointer (some ⟨b, 0, none⟩) ∧ v.v8 = .slice (some ⟨g, 0, none⟩) (3 + 5 * r.recs.length) oc ∧ v.v10 = .pointer (some ⟨bx, 0, none⟩) ∧ v.v11 = .int .i64 ((3 + 5 * k : Nat) : Int) ∧ W.heap[b]? = some (.cells #[.int .i64 0, .int .i64 0, .slice none 0 0] 37 (0, 0)) ∧ W.heap[bx]? = some (.cells #[.int .i64 r.code, .int .i64 r.n, .slice ro k rc] 37 (0, 0)) ∧ W.heap[g]? = some (.cells ct 61 (0, 0)) ∧ W.ownsRow w.heap.size 46 5 (.slice ro k rc) k (rcCells (r.recs.take k)) ∧ Below w.heap.size w W ∧ ∀ x ∈ r.recs.take k, x.off ≤ 9007199254740991 ∧ x.seq ≤ 9007199254740991) (fun a _ => 3 + 5 * r.recs.length - (intOf (a.tmps.getD 11 undef)).toNat) ⟨0, _, none, 0, Nat.zero_le _, F8, rfl, rfl, rfl, rfl, Z7, X7, G7, World.ownsRow_nil _ _ _ _, B7, fun x hx => by simp at hx⟩ ?_)
  clear F4 F5 F7 F8 s49 Z7 X7 G7 B7 b7 Z4 B4 b4
  rintro a9 w9 ⟨k, v, ro, rc, hk, F9, q3, q8, q10, q11, Z9, X9, G9, R9, B9, hsm9⟩
  have hmk : (intOf (a9.tmps.getD 11 undef)).toNat = 3 + 5 * k := by rw [F9.s11, q11]; simp [intOf]; omega
  refine wp_seq (wp_seq (reg_mono (rz_r9 (by kernel_rfl) _ F9 q8 q11 ?_)))
  intro a10 F10
  try dsimp only at F10
  have s66 := F10.s66
  by_cases hkl : k < r.recs.length
  case neg =>
    rw [decide_eq_false (by omega)] at s66
    refine wp_cond_false s66 (wp_exit ?_)
    show Code.wp _ _ _ _ _
    obtain rfl : k = r.recs.length := by omega
    rw [List.take_length] at R9 hsm9
    have hRC := recs_of_ownC R9
    have hrok : ∀ x ∈ r.recs, x.ok := fun x hx => by
      obtain ⟨h1, h2, h3, h4, h5⟩ := hrec x hx
      obtain ⟨h6, h7⟩ := hsm9 x hx
      exact ⟨by omega, by omega, by omega, by omega, h3, h4, h5⟩
    have hRR : ∀ W, Below w9.heap.size w9 W → Calls Tryz.prog 28 #[r.v ro rc] W fun e w' => e = .returned (.bool (decide r.right)) ∧ Below W.heap.size W w' := fun W hb => rrightrep r ro rc W (hRC.below hb (Nat.le_refl _)) hrok (by omega)
    simp only [RP.v] at hRR
    refine wp_seq (reg_mono (rz_r14 (by kernel_rfl) _ F10 q10 X9 hRR ?_))
    intro a11 w11 F11 b11
    try dsimp only at F11
    have Z11 := (b11.block _ (heap_lt Z9)).trans Z9
    have X11 := (b11.block _ (heap_lt X9)).trans X9
    have G11 := (b11.block _ (heap_lt G9)).trans G9
    have R11 := below_row b11 R9
    have B11 := B9.trans (b11.mono B9.size)
    refine wp_seq (wp_seq (reg_mono (rz_r15 (by kernel_rfl) _ F11 rfl ?_)))
    intro a12 F12
    try dsimp only at F12
    have s125 := F12.s125
    by_cases hr : r.right
    · rw [decide_eq_true hr] at s125
      refine wp_cond_false s125 (wp_skip ?_)
      show Code.wp _ _ _ _ _
      rw [if_pos ⟨⟨p1, by omega⟩, hr⟩] at hA
      have y0' : w11.cell? ⟨g, 1, none⟩ = some (.int .u64 aa) := (World.cell?_of_block (a := ⟨g, 1, none⟩) (G11.trans hG4.symm)).trans y0
      refine wp_seq (reg_mono (rz_r17 (B := w.heap.size) (by kernel_rfl) _ F12 q3 q8 q10 (by omega) X11 Z11 hbw hne y0' p1 (by omega) ?_))
      intro a13 w13 F13 Z13 B13 hot
      have R13 : w13.ownsRow w.heap.size 46 5 (.slice ro r.recs.length rc) r.recs.length (rcCells r.recs) := by
        refine ⟨R11.1, ?_⟩
        rcases R11.2 with h1 | ⟨g2, cap2, cur2, h1, h2, h3, h4⟩
        · exact .inl h1
        · refine .inr ⟨g2, cap2, cur2, h1, h2, (hot g2 (fun e => ?_)).trans h3, h4⟩
          subst e
          exact row_type R11 (by rw [h1]; rfl) Z11 (by decide)
      subst hA
      exact wp_ret (rz_ret (R := Gave w aa r 0) F13 rfl q3 rfl Z13 ⟨ro, rc, rfl, R13, B11.trans B13⟩)
    · rw [decide_eq_false hr] at s125
      refine wp_cond_true s125 ?_
      rw [if_neg (fun h => hr h.2)] at hA
      refine wp_seq (reg_mono (rz_r16 (B := w.heap.size) (by kernel_rfl) _ F12 q3 Z11 hbw ?_))
      intro a13 w13 F13 Z13 B13
      exact wp_ret (bad F13 q3 Z13 (B11.trans B13) rfl rfl hA)
  rw [decide_eq_true (by omega)] at s66
  refine wp_cond_true s66 (wp_skip ?_)
  show Code.wp _ _ _ _ _
  have cg : ∀ o, w9.cell? ⟨g, o, none⟩ = w4.cell? ⟨g, o, none⟩ := fun o => World.cell?_of_block (a := ⟨g, o, none⟩) (G9.trans hG4.symm)
  obtain ⟨z0, z1, z2, z3, z4⟩ := rec_cells hIt hkl
  rw [← cg] at z0 z1 z2 z3 z4
  have hx := hrec _ (List.getElem_mem hkl)
  have htk : r.recs.take (k + 1) = r.recs.take k ++ [r.recs[k]] := List.take_succ_eq_append_getElem hkl
  have hbadr : ¬ RightP r.recs[k] → A = (0, RP.zero, 10) := fun hn => by
    rw [hA]
    exact if_neg (fun h => hn (h.2.2.2.2.2.2 _ (List.getElem_mem hkl)))
  generalize r.recs[k] = x at *
  refine wp_seq (wp_block (wp_seq (wp_seq (reg_mono (rz_r11 (by kernel_rfl) _ F10 q8 q11 (by omega) (by omega) z0 z2 rfl ?_)))))
  intro a11 F11
  try dsimp only at F11
  have s83 := F11.s83
  by_cases hgt : x.off > 9007199254740991 ∨ x.seq > 9007199254740991
  · have e : (decide (x.off > 9007199254740991) || decide (x.seq > 9007199254740991)) = true := by
      rcases hgt with h | h
      · rw [decide_eq_true h]; rfl
      · rw [decide_eq_true h, Bool.or_true]
    simp only [e] at s83
    refine wp_cond_true s83 ?_
    refine wp_seq (reg_mono (rz_r12 (B := w.heap.size) (by kernel_rfl) _ F11 q3 Z9 hbw ?_))
    intro a12 w12 F12 Z12 B12
    refine wp_ret ?_
    exact bad F12 q3 Z12 (B9.trans B12) rfl rfl (hbadr (fun hR => by obtain ⟨_, h1, _, h2, _⟩ := hR; omega))
  · have e : (decide (x.off > 9007199254740991) || decide (x.seq > 9007199254740991)) = false := by rw [decide_eq_false (fun h => hgt (.inl h)), decide_eq_false (fun h => hgt (.inr h))]; rfl
    simp only [e] at s83
    refine wp_cond_false s83 (wp_skip ?_)
    show Code.wp _ _ _ _ _
    refine reg_all (rz_r13 (by kernel_rfl) _ F11 q8 q10 q11 (by omega) (by omega) X9 R9 B9.size (by omega) (fun e => row_type R9 e G9 (by decide)) z0 z1 z2 z3 z4 hx.1 (by omega) hx.2.1 (by omega) ?_)
    intro a12 w12 ro2 rc2 F12 X12 R12 t12
    show Code.wp _ _ _ _ _
    refine reg_mono (rz_r10 (by kernel_rfl) _ F12 q11 (by omega) ?_)
    intro a13 F13
    try dsimp only at F13
    refine ⟨⟨k + 1, _, ro2, rc2, by omega, F13, q3, q8, q10, by rw [show 3 + 5 * (k + 1) = 3 + 5 * k + 5 by omega], ?_, X12, ?_, ?_, ?_, ?_⟩, ?_⟩
    · exact t12.at Z9 (fun h => h.elim (fun e => hne e) (fun e => row_type R9 e Z9 (by decide)))
    · exact t12.at G9 (fun h => h.elim (fun e => by subst e; rw [X9] at G9; injection G9 with G9; injection G9 with _ G9 _; exact absurd G9 (by decide)) (fun e => row_type R9 e G9 (by decide)))
    · rw [htk, rcCells_append, rcCells_one]
      exact R12
    · exact B9.trans (t12.toBelow B9.size (fun j hj h => h.elim (fun e => by omega) (fun e => by have := (R9.lt j e).1; omega)))
    · rw [htk]
      intro y hy
      rcases List.mem_append.1 hy with hy | hy
      · exact hsm9 y hy
      · rw [List.mem_singleton] at hy
        subst hy
        omega
    · rw [hmk, F13.s11]
      simp [intOf]
      omega
end Go.Proofs.YtoolbbibnegdnaaGreatDoor
