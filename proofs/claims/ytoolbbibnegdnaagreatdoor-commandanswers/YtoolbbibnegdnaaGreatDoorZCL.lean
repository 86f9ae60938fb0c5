/-
  Answered (mkcl.py)
-/
import Derived.Test.YtoolbbibnegdnaaGreatDoorZHD
import Derived.Test.YtoolbbibnegdnaaGreatDoorZCF
import Derived.Test.YtoolbbibnegdnaaGreatDoorZCC
namespace Go.Proofs.YtoolbbibnegdnaaGreatDoor
open Go.RowKit

attribute [local go_sem ↓] Go.wp_at_zero Go.wp_at_succ
set_option linter.unusedSimpArgs false
set_option linter.unusedVariables false
theorem own_items2 {w : World} {B : Nat} {v : Value} {l : List K.It} (h : w.ownsRow B 61 3 v l.length (K.itemCells l)) (hl : 0 < l.length) : ∃ g cap ct, v = .slice (some ⟨g, 0, none⟩) l.length cap ∧ l.length ≤ cap ∧ K.ItemsAt w (some ⟨g, 0, none⟩) l ∧ w.heap[g]? = some (.cells ct 61 (0, 0)) := by
  obtain ⟨ao, cap, e, hat⟩ := K.items_of_own h
  rcases h.2 with ⟨h1, h2⟩ | ⟨g, cap2, cur, hv, hg, hh, hn, _, hs, ht⟩
  · omega
  · rw [hv] at e
    injection e with e1 e2 e3
    subst e1 e3
    exact ⟨g, _, cur, hv, hn, hat, hh⟩
theorem own_baseC {w : World} {B B' : Nat} {e : TypeId} {z : Nat} {v : Value} {n : Nat} {xs : List Value} (h : w.ownsRow B e z v n xs) (hB : B' ≤ B) : w.ownsRow B' e z v n xs := by
  refine ⟨h.1, ?_⟩
  rcases h.2 with h1 | ⟨g, cap, cur, h1, h2, rest⟩
  · exact .inl h1
  · exact .inr ⟨g, cap, cur, h1, Nat.le_trans hB h2, rest⟩
theorem rcCells_get (l : List Rec) (i j : Nat) (hi : i < l.length) (hj : j < 5) : (rcCells l)[i * 5 + j]? = (l[i].cells)[j]? := by
  induction l generalizing i with
  | nil => simp at hi
  | cons x l ih =>
    have e : rcCells (x :: l) = x.cells ++ rcCells l := by simp [rcCells]
    rw [e]
    cases i with
    | zero =>
      rw [Nat.zero_mul, Nat.zero_add, List.getElem?_append_left (by simpa [Rec.cells] using hj)]
      rfl
    | succ i =>
      rw [List.getElem?_append_right (by simp [Rec.cells]; omega), show (i + 1) * 5 + j - x.cells.length = i * 5 + j by simp [Rec.cells]; omega]
      exact ih i (by simpa using hi)
theorem recs_of_ownC {w : World} {B : Nat} {ro : Option Addr} {rc : Nat} {l : List Rec} (h : w.ownsRow B tRc 5 (.slice ro l.length rc) l.length (rcCells l)) : RecsC w ro l := by
  intro i hi
  rcases h.2 with ⟨h1, h2⟩ | ⟨g, cap, cur, hv, hg, hh, hn, _⟩
  · omega
  · injection hv with e1 e2 e3
    subst e1
    have key : ∀ j v, j < 5 → (l[i].cells)[j]? = some v → w.cell? ⟨g, 0 + i * 5 + j, none⟩ = some v := fun j v hj hv2 => by
      have := h.cells (g := g) rfl (i * 5 + j) v (by rw [rcCells_get l i j hi hj]; exact hv2)
      rw [Addr.add_lit] at this
      rw [show 0 + i * 5 + j = 0 + (i * 5 + j) by omega]
      exact this
    exact ⟨g, 0, rfl, heap_lt hh, key 0 _ (by omega) rfl, key 1 _ (by omega) rfl, key 2 _ (by omega) rfl, key 3 _ (by omega) rfl, key 4 _ (by omega) rfl⟩
theorem flatR_get (L : List Rec) (i j : Nat) (hi : i < L.length) (hj : j < 5) : (L.flatMap itemsR)[5 * i + j]? = (itemsR L[i])[j]? := by
  induction L generalizing i with
  | nil => simp at hi
  | cons x l ih =>
    rw [List.flatMap_cons]
    cases i with
    | zero =>
      rw [Nat.mul_zero, Nat.zero_add, List.getElem?_append_left (by simpa [itemsR] using hj)]
      rfl
    | succ i =>
      rw [List.getElem?_append_right (by simp [itemsR]; omega), show 5 * (i + 1) + j - (itemsR x).length = 5 * i + j by simp [itemsR]; omega]
      exact ih i (by simpa using hi)
theorem itemsP_get (a : Int) (r : RP) (i j : Nat) (hi : i < r.recs.length) (hj : j < 5) : (itemsP a r)[3 + 5 * i + j]? = (itemsR r.recs[i])[j]? := by
  rw [← flatR_get r.recs i j hi hj, show 3 + 5 * i + j = (5 * i + j) + 1 + 1 + 1 by omega]
  rfl
/-- A reply as the program reads it. -/
def rpW (r : RP) : RP := ⟨IntKind.i64.wrap r.code, backN (r.n + 1), r.recs.map recW⟩
theorem rpW_same {a : Int} {r : RP} (h : ∀ x ∈ itemsP a r, x.ok) (hr : (askOk (IntKind.i64.wrap a) ∧ (rpW r).right) ∨ (askOk a ∧ r.right)) : IntKind.i64.wrap a = a ∧ rpW r = r := by
  obtain ⟨_, _, p1, p2, _⟩ := h ⟨3, a, ⟨#[]⟩⟩ (by simp [itemsP])
  obtain ⟨_, _, p3, p4, _⟩ := h ⟨1, r.code, ⟨#[]⟩⟩ (by simp [itemsP])
  obtain ⟨_, _, p5, p6, _⟩ := h ⟨3, r.n + 1, ⟨#[]⟩⟩ (by simp [itemsP])
  have hrec : ∀ x ∈ r.recs, (0 ≤ x.off ∧ x.off < 18446744073709551616) ∧ 0 ≤ x.seq ∧ x.seq < 18446744073709551616 := fun x hx => by
    obtain ⟨_, _, q1, q2, _⟩ := h ⟨3, x.off, ⟨#[]⟩⟩ (by simp only [itemsP, List.mem_cons]; exact .inr (.inr (.inr (List.mem_flatMap.2 ⟨x, hx, by simp [itemsR]⟩))))
    obtain ⟨_, _, q3, q4, _⟩ := h ⟨3, x.seq, ⟨#[]⟩⟩ (by simp only [itemsP, List.mem_cons]; exact .inr (.inr (.inr (List.mem_flatMap.2 ⟨x, hx, by simp [itemsR]⟩))))
    exact ⟨⟨q1, q2⟩, q3, q4⟩
  simp only at p1 p2 p3 p4 p5 p6
  have e6 := backN_eq p5 p6
  have ha : IntKind.i64.wrap a = a := by
    rcases hr with ⟨⟨h1, h2⟩, _⟩ | ⟨⟨h1, h2⟩, _⟩
    · rw [IntKind.wrap_i64] at h1 h2 ⊢; omega
    · rw [IntKind.wrap_i64]; omega
  have hc : IntKind.i64.wrap r.code = r.code := by
    rcases hr with ⟨_, h1, h2, _⟩ | ⟨_, h1, h2, _⟩
    · simp only [rpW] at h1 h2; rw [IntKind.wrap_i64] at h1 h2 ⊢; omega
    · rw [IntKind.wrap_i64]; omega
  have hn : backN (r.n + 1) = r.n := by
    rcases hr with ⟨_, _, _, h1, h2, _⟩ | ⟨_, _, _, h1, h2, _⟩
    · simp only [rpW] at h1 h2; split at e6 <;> omega
    · split at e6 <;> omega
  have hl : r.recs.map recW = r.recs := by
    refine (List.map_congr_left fun x hx => ?_).trans (List.map_id _)
    obtain ⟨⟨q1, q2⟩, q3, q4⟩ := hrec x hx
    show Rec.mk _ _ _ _ _ = Rec.mk x.off x.prod x.seq x.key x.val
    rcases hr with ⟨_, _, _, _, _, _, h1⟩ | ⟨_, _, _, _, _, _, h1⟩
    · obtain ⟨r1, r2, r3, r4, _⟩ := h1 (recW x) (List.mem_map.2 ⟨x, hx, rfl⟩)
      simp only [recW] at r1 r2 r3 r4
      have g1 : IntKind.i64.wrap x.off = x.off := by rw [IntKind.wrap_i64] at r1 r2 ⊢; omega
      have g2 : IntKind.i64.wrap x.seq = x.seq := by rw [IntKind.wrap_i64] at r3 r4 ⊢; omega
      rw [g1, g2]
    · obtain ⟨r1, r2, r3, r4, _⟩ := h1 x hx
      have g1 : IntKind.i64.wrap x.off = x.off := by rw [IntKind.wrap_i64]; omega
      have g2 : IntKind.i64.wrap x.seq = x.seq := by rw [IntKind.wrap_i64]; omega
      rw [g1, g2]
  refine ⟨ha, ?_⟩
  show RP.mk _ _ _ = RP.mk r.code r.n r.recs
  rw [hc, hn, hl]
theorem decP_call (s : ByteArray) (h : s.size ≤ 9223372036854775807) (w : World) : Calls Tryz.prog 34 #[.string ⟨#[108, 98, 108, 42, 108, 116, 108, 116, 116]⟩, .string s] w fun e w' => ∃ v, e = .returned (.tuple #[v, .int .i64 (K.decF shapeP s.data.toList).2]) ∧ w'.ownsRow w.heap.size 61 3 v (K.decF shapeP s.data.toList).1.length (K.itemCells (K.decF shapeP s.data.toList).1) ∧ Below w.heap.size w w' :=
  K.decode_any ⟨#[108, 98, 108, 42, 108, 116, 108, 116, 116]⟩ s w (by unfold maxLen; decide) (by unfold maxLen; omega) _ rfl
/-- The items of a reply, read: the number and the reply. -/
theorem preplyof_items (a : Int) (r : RP) (v : Value) (w : World) (B : Nat) (hrow : w.ownsRow B 61 3 v (itemsP a r).length (K.itemCells (itemsP a r))) (hq : r.recs.length ≤ 200) :
    Calls Tryz.prog 35 #[v] w fun e w' => ∃ ro rc, e = .returned (.tuple #[.int .i64 (IntKind.i64.wrap a), (rpW r).v ro rc]) ∧ w'.ownsRow w.heap.size tRc 5 (.slice ro (rpW r).recs.length rc) (rpW r).recs.length (rcCells (rpW r).recs) ∧ Below w.heap.size w w' := by
  obtain ⟨g, cap, ct, rfl, hcap, hat, hgt⟩ := own_items2 hrow (by rw [itemsP_len]; omega)
  have hl : (rpW r).recs.length = r.recs.length := by simp [rpW]
  rw [itemsP_len] at hcap ⊢
  refine (preplyof a r.code (r.n + 1) r.recs g cap w hq hcap ct hgt (it_cell hat rfl (i := 0) (x := ⟨3, a, ⟨#[]⟩⟩) rfl).1 (it_cell hat rfl (i := 1) (x := ⟨1, r.code, ⟨#[]⟩⟩) rfl).1 (it_cell hat rfl (i := 2) (x := ⟨3, r.n + 1, ⟨#[]⟩⟩) rfl).1 fun i hi => ?_).mono ?_
  · have key := fun j x (hj : j < 5) (hx : (itemsR r.recs[i])[j]? = some x) => it_cell hat rfl (i := 3 + 5 * i + j) (x := x) (by rw [itemsP_get a r i j hi hj]; exact hx)
    have k0 := (key 0 _ (by omega) rfl).1
    have k1 := (key 1 _ (by omega) rfl).2.1
    have k2 := (key 2 _ (by omega) rfl).1
    have k3 := (key 3 _ (by omega) rfl).2.1
    have k4 := (key 4 _ (by omega) rfl).2.1
    rw [show (3 + 5 * i + 0) * 3 + 1 = 9 + i * 15 + 1 by omega] at k0
    rw [show (3 + 5 * i + 1) * 3 + 2 = 9 + i * 15 + 5 by omega] at k1
    rw [show (3 + 5 * i + 2) * 3 + 1 = 9 + i * 15 + 7 by omega] at k2
    rw [show (3 + 5 * i + 3) * 3 + 2 = 9 + i * 15 + 11 by omega] at k3
    rw [show (3 + 5 * i + 4) * 3 + 2 = 9 + i * 15 + 14 by omega] at k4
    exact ⟨k0, k1, k2, k3, k4⟩
  · rintro e w' ⟨ro, rc, rfl, h1, h2⟩
    refine ⟨ro, rc, ?_, ?_, h2⟩
    · unfold RP.v
      rw [hl]
      rfl
    · rw [hl]
      exact h1
theorem box3 {W : World} {b : Nat} {t : TypeId} {v0 v1 v2 : Value} (h : W.heap[b]? = some (.cells #[v0, v1, v2] t (0, 0))) : (W.cell? ⟨b, 0, none⟩ = some v0 ∧ W.cell? ⟨b, 1, none⟩ = some v1 ∧ W.cell? ⟨b, 2, none⟩ = some v2) ∧ W.frozen? ⟨b, 0, none⟩ = false ∧ W.frozen? ⟨b, 1, none⟩ = false ∧ W.frozen? ⟨b, 2, none⟩ = false :=
  ⟨⟨box_cell h 0 rfl, box_cell h 1 rfl, box_cell h 2 rfl⟩, box_free h 0, box_free h 1, box_free h 2⟩
def set3 (W : World) (b : Nat) (x0 x1 x2 : Value) : World := ((W.setCell ⟨b, 0, none⟩ x0).setCell ⟨b, 1, none⟩ x1).setCell ⟨b, 2, none⟩ x2
theorem set3_below {B : Nat} {w W : World} {b : Nat} {x0 x1 x2 : Value} (h : Below B w W) (hb : B ≤ b) : Below B w (set3 W b x0 x1 x2) := ((h.setCell (p := ⟨b, 0, none⟩) hb _).setCell (p := ⟨b, 1, none⟩) hb _).setCell (p := ⟨b, 2, none⟩) hb _
theorem set3_row {w : World} {base : Nat} {e : TypeId} {size : Nat} {v : Value} {n : Nat} {xs : List Value} (hv : w.ownsRow base e size v n xs) (b : Nat) (x0 x1 x2 : Value) (hn : v.ownBlock ≠ some b) : (set3 w b x0 x1 x2).ownsRow base e size v n xs := set_row (set_row (set_row hv b 0 x0 hn) b 1 x1 hn) b 2 x2 hn
/-- A reply's box behind a call. -/
structure RB (w w' : World) : Prop where
  below : Below w.heap.size w w'
  box : w'.heap[w.heap.size]? = some (.cells #[.int .i64 0, .int .i64 0, .slice none 0 0] tRp (0, 0))
theorem RB.to {w w1 w2 : World} (h : RB w w1) (hb : Below w1.heap.size w1 w2) : RB w w2 := ⟨h.below.trans (hb.mono h.below.size), (hb.block _ (heap_lt h.box)).trans h.box⟩
theorem RB.new (w : World) : RB w (w.alloc (.cells #[.int .i64 0, .int .i64 0, .slice none 0 0] tRp)) := ⟨(Below.refl _ w).alloc (Nat.le_refl _) _, heap_alloc_new w _⟩
def Gave (w : World) (a : Int) (r : RP) (f : Int) (e : Ending) (w' : World) : Prop := ∃ ro rc, e = .returned (.tuple #[.int .i64 a, r.v ro rc, .int .i64 f]) ∧ w'.ownsRow w.heap.size tRc 5 (.slice ro r.recs.length rc) r.recs.length (rcCells r.recs) ∧ Below w.heap.size w w'
theorem gave_zero {w w' : World} (f : Int) (hb : Below w.heap.size w w') : Gave w 0 RP.zero f (.returned (.tuple #[.int .i64 0, .agg #[.int .i64 0, .int .i64 0, .slice none 0 0], .int .i64 f])) w' := ⟨none, 0, rfl, World.ownsRow_nil _ _ _ _, hb⟩
set_option maxHeartbeats 4000000 in
theorem pansd_only (s : ByteArray) (h63 : s.size ≤ 9223372036854775807) (w : World) (hT : Tab w) (he : (onlyF s.data.toList).2 ≠ 0) :
    Calls Tryz.prog 13 #[.string s] w (Gave w 0 RP.zero (onlyF s.data.toList).2) := by
  have HC := hide (fun W hW => ponly s h63 W hW)
  have K0 := hide (RB.new w)
  have HT := hide (hT.below K0.out.below)
  generalize onlyF s.data.toList = T at *
  obtain ⟨b, er⟩ := T
  simp only at *
  have hnb : (er != 0) = true := by rw [bne_iff_ne]; exact he
  generalize b.toArray = ba at *
  clear he hT
  have HZ := hide (fun w' hb => gave_zero (w := w) (w' := w') er hb)
  generalize Gave w 0 RP.zero er = Post at *
  go_enter Tryz.func13, Tryz.ntmps13
  go_wp2_with fail
  refine (HC.out _ HT.out).mono ?_
  rintro e w1 ⟨rfl, b1⟩
  have K1 := hide (K0.out.to b1)
  obtain ⟨⟨c0, c1, c2⟩, f0, f1, f2⟩ := box3 K1.out.box
  clear b1 HC K0
  go_wp2
  refine bodyPost_ret (v := .tuple #[.int .i64 0, .agg #[.int .i64 0, .int .i64 0, .slice none 0 0], .int .i64 er]) (by simp [results, Tryz.results13, go_sem, c0, c1, c2]) rfl ?_
  exact HZ.out _ (set3_below K1.out.below (Nat.le_refl _))
set_option maxHeartbeats 4000000 in
theorem pansd_dec (s : ByteArray) (h63 : s.size ≤ 9223372036854775807) (w : World) (hT : Tab w) (he : (onlyF s.data.toList).2 = 0) (hd : (K.decF shapeP (onlyF s.data.toList).1).2 ≠ 0) :
    Calls Tryz.prog 13 #[.string s] w (Gave w 0 RP.zero 10) := by
  have HC := hide (fun W hW => ponly s h63 W hW)
  have hsm := onlyF_small s.data.toList
  have K0 := hide (RB.new w)
  have HT := hide (hT.below K0.out.below)
  generalize onlyF s.data.toList = T at *
  obtain ⟨b, er⟩ := T
  simp only at *
  subst he
  have HD := hide (decP_call ⟨b.toArray⟩ (by show b.toArray.size ≤ _; simp; omega))
  rw [show ((⟨b.toArray⟩ : ByteArray).data.toList) = b by simp] at HD
  generalize b.toArray = ba at *
  generalize K.decF shapeP b = R at *
  obtain ⟨l, fe⟩ := R
  simp only at *
  have hnb : (fe != 0) = true := by rw [bne_iff_ne]; exact hd
  clear hd hT hsm
  have HZ := hide (fun w' hb => gave_zero (w := w) (w' := w') 10 hb)
  generalize Gave w 0 RP.zero 10 = Post at *
  go_enter Tryz.func13, Tryz.ntmps13
  go_wp2_with fail
  refine (HC.out _ HT.out).mono ?_
  rintro e w1 ⟨rfl, b1⟩
  have K1 := hide (K0.out.to b1)
  clear b1 HC K0
  go_wp2_with fail
  refine (HD.out _).mono ?_
  rintro e w2 ⟨v, rfl, _, b2⟩
  have K2 := hide (K1.out.to b2)
  obtain ⟨⟨c0, c1, c2⟩, f0, f1, f2⟩ := box3 K2.out.box
  clear b2 HD K1
  go_wp2
  refine bodyPost_ret (v := .tuple #[.int .i64 0, .agg #[.int .i64 0, .int .i64 0, .slice none 0 0], .int .i64 10]) (by simp [results, Tryz.results13, go_sem, c0, c1, c2]) rfl ?_
  exact HZ.out _ (set3_below K2.out.below (Nat.le_refl _))
theorem recW_ok {x : Rec} (h1 : x.prod.size ≤ 9223372036854775807) (h2 : x.key.size ≤ 9223372036854775807) (h3 : x.val.size ≤ 9223372036854775807) : (recW x).ok := by
  refine ⟨?_, ?_, ?_, ?_, h1, h2, h3⟩ <;> simp only [recW, IntKind.wrap_i64] <;> omega
set_option maxHeartbeats 16000000 in
set_option maxRecDepth 100000 in
theorem pansd_items (s : ByteArray) (h63 : s.size ≤ 9223372036854775807) (w : World) (hT : Tab w) (he : (onlyF s.data.toList).2 = 0) (a : Int) (r : RP) (hd : K.decF shapeP (onlyF s.data.toList).1 = (itemsP a r, 0)) (hq : r.recs.length ≤ 200) (hok : ∀ x ∈ (rpW r).recs, x.ok) (Post : Ending → World → Prop)
    (hgood : askOk (IntKind.i64.wrap a) → (rpW r).right → ∀ ro rc w', w'.ownsRow w.heap.size tRc 5 (.slice ro (rpW r).recs.length rc) (rpW r).recs.length (rcCells (rpW r).recs) → Below w.heap.size w w' → Post (.returned (.tuple #[.int .i64 (IntKind.i64.wrap a), (rpW r).v ro rc, .int .i64 0])) w')
    (hbad : ¬ (askOk (IntKind.i64.wrap a) ∧ (rpW r).right) → ∀ w', Below w.heap.size w w' → Post (.returned (.tuple #[.int .i64 0, .agg #[.int .i64 0, .int .i64 0, .slice none 0 0], .int .i64 10])) w') :
    Calls Tryz.prog 13 #[.string s] w Post := by
  have HC := hide (fun W hW => ponly s h63 W hW)
  have hsm := onlyF_small s.data.toList
  have K0 := hide (RB.new w)
  have HT := hide (hT.below K0.out.below)
  have HG := hide hgood
  have HBD := hide hbad
  generalize onlyF s.data.toList = T at *
  obtain ⟨b, er⟩ := T
  simp only at *
  subst he
  have HD := hide (decP_call ⟨b.toArray⟩ (by show b.toArray.size ≤ _; simp; omega))
  rw [show ((⟨b.toArray⟩ : ByteArray).data.toList) = b by simp, hd] at HD
  have HP := hide (fun v W B h => preplyof_items a r v W B h hq)
  have HN := hide (fun w => pnumber (IntKind.i64.wrap a) w)
  rw [greatB_iff] at HN
  have HR := hide (fun ro rc W h => pisreply (rpW r) ro rc W h hok (by have : (rpW r).recs.length = r.recs.length := by simp [rpW]
                                                                       omega))
  generalize b.toArray = ba at *
  generalize itemsP a r = its at *
  generalize IntKind.i64.wrap a = aw at *
  generalize rpW r = rw' at *
  clear hd hT hsm hgood hbad hok hq
  obtain ⟨cd, nn, l⟩ := rw'
  simp only [RP.v] at *
  generalize hll : l.length = ll at *
  generalize its.length = il at *
  go_enter Tryz.func13, Tryz.ntmps13
  go_wp2_with fail
  refine (HC.out _ HT.out).mono ?_
  rintro e w1 ⟨rfl, b1⟩
  have K1 := hide (K0.out.to b1)
  clear b1 HC K0
  go_wp2_with fail
  refine (HD.out _).mono ?_
  rintro e w2 ⟨v, rfl, hrow, b2⟩
  have K2 := hide (K1.out.to b2)
  have HRow := hide hrow
  obtain ⟨vo, vc, rfl⟩ := row_slice hrow
  clear b2 HD K1 hrow
  go_wp2_with fail
  refine (HP.out _ _ _ HRow.out).mono ?_
  rintro e w3 ⟨ro, rc, rfl, hown, b3⟩
  have K3 := hide (K2.out.to b3)
  have hlt := heap_lt K2.out.box
  have HO3 := hide (own_baseC hown (Nat.le_of_lt hlt))
  have HNB : Hid ((Value.slice ro ll rc).ownBlock ≠ some w.heap.size) := fun e => by have := (hown.lt _ e).1; omega
  clear b3 HP K2 hown HRow
  have K4 := hide (K3.out.to ((Below.refl _ w3).alloc (Nat.le_refl _) (.cells #[.int .i64 cd, .int .i64 nn, .slice ro ll rc] tRp)))
  have X4 := hide (heap_alloc_new w3 (.cells #[.int .i64 cd, .int .i64 nn, .slice ro ll rc] tRp))
  have HO4 := hide (below_row ((Below.refl _ w3).alloc (Nat.le_refl _) (.cells #[.int .i64 cd, .int .i64 nn, .slice ro ll rc] tRp)) HO3.out)
  have hlt3 := heap_lt K3.out.box
  have hne : w.heap.size ≠ w3.heap.size := Nat.ne_of_lt hlt3
  have HLL := hide hll
  clear hll
  go_wp2_with fail
  refine (HN.out _).mono ?_
  rintro e w' ⟨rfl, rfl⟩
  by_cases ha : askOk aw
  · rw [decide_eq_true ha]
    have HA := hide ha
    clear ha HN HO3 K3
    generalize w3.alloc (.cells #[.int .i64 cd, .int .i64 nn, .slice ro ll rc] tRp) = w4 at *
    obtain ⟨⟨d0, d1, d2⟩, _⟩ := box3 X4.out
    go_wp2_with fail
    refine (HR.out ro rc _ (recs_of_ownC (by rw [HLL.out]; exact HO4.out))).mono ?_
    rintro e w5 ⟨rfl, b5⟩
    have K5 := hide (K4.out.to b5)
    have X5 := (b5.block _ (heap_lt X4.out)).trans X4.out
    have HO5 := hide (below_row b5 HO4.out)
    obtain ⟨⟨c0, c1, c2⟩, f0, f1, f2⟩ := box3 K5.out.box
    obtain ⟨⟨d0, d1, d2⟩, _⟩ := box3 X5
    clear b5 X5 X4 HO4 K4 HR
    by_cases hr : (⟨cd, nn, l⟩ : RP).right
    · rw [decide_eq_true hr]
      have HRR := hide hr
      clear hr
      have HF := hide (fun w' h1 h2 => HG.out HA.out HRR.out ro rc w' h1 h2)
      clear HG HBD
      go_upto_region 10 with fail
      go_region
      all_goals (
        go_wp2
        refine bodyPost_ret (v := .tuple #[.int .i64 aw, .agg #[.int .i64 cd, .int .i64 nn, .slice ro ll rc], .int .i64 0]) (by simp [results, Tryz.results13, go_sem, c0, c1, c2, d0, d1, d2]) rfl ?_
        refine HF.out _ ?_ ?_
        · first
          | exact set3_row HO5.out _ _ _ _ HNB.out
          | exact set3_row (below_row ((Below.refl _ _).drew) HO5.out) _ _ _ _ HNB.out
        · first
          | exact set3_below K5.out.below (Nat.le_refl _)
          | exact set3_below K5.out.below.drew (Nat.le_refl _))
    · rw [decide_eq_false hr]
      have HRR := hide hr
      clear hr
      have HF := hide (HBD.out (fun h => HRR.out h.2))
      clear HG HBD
      go_wp2
      refine bodyPost_ret (v := .tuple #[.int .i64 0, .agg #[.int .i64 0, .int .i64 0, .slice none 0 0], .int .i64 10]) (by simp [results, Tryz.results13, go_sem, c0, c1, c2]) rfl ?_
      exact HF.out _ (set3_below K5.out.below (Nat.le_refl _))
  · rw [decide_eq_false ha]
    have HF := hide (HBD.out (fun h => ha h.1))
    clear ha HN HO3 K3 HG HBD HR
    generalize w3.alloc (.cells #[.int .i64 cd, .int .i64 nn, .slice ro ll rc] tRp) = w4 at *
    obtain ⟨⟨c0, c1, c2⟩, f0, f1, f2⟩ := box3 K4.out.box
    go_wp2
    refine bodyPost_ret (v := .tuple #[.int .i64 0, .agg #[.int .i64 0, .int .i64 0, .slice none 0 0], .int .i64 10]) (by simp [results, Tryz.results13, go_sem, c0, c1, c2]) rfl ?_
    exact HF.out _ (set3_below K4.out.below (Nat.le_refl _))
theorem answP_bad {s : List UInt8} (h : (onlyF s).2 ≠ 0) : answP s = (0, RP.zero, (onlyF s).2) := by
  unfold answP
  rcases onlyF_bad h with ⟨h1, h2⟩ | ⟨h1, h2, h3⟩
  · rw [if_pos h1, h2]
  · rw [if_neg (fun e => e h1), if_pos h2, h3]
theorem answP_ok {s : List UInt8} (h : (onlyF s).2 = 0) : answP s = if (K.decF shapeP (onlyF s).1).2 ≠ 0 then (0, RP.zero, 10) else if askOk (replyOf (K.decF shapeP (onlyF s).1).1).1 ∧ (replyOf (K.decF shapeP (onlyF s).1).1).2.right then ((replyOf (K.decF shapeP (onlyF s).1).1).1, (replyOf (K.decF shapeP (onlyF s).1).1).2, 0) else (0, RP.zero, 10) := by
  obtain ⟨h1, h2, h3⟩ := onlyF_ok h
  unfold answP
  rw [if_neg (fun e => e h1), if_neg (fun e => e h2), h3]
theorem panswered (s : ByteArray) (h63 : s.size ≤ 9223372036854775807) (w : World) (hT : Tab w) :
    Calls Tryz.prog 13 #[.string s] w (Gave w (answP s.data.toList).1 (answP s.data.toList).2.1 (answP s.data.toList).2.2) := by
  by_cases he : (onlyF s.data.toList).2 = 0
  · rw [answP_ok he]
    by_cases hd : (K.decF shapeP (onlyF s.data.toList).1).2 = 0
    · rw [if_neg (fun e => e hd)]
      obtain ⟨e1, _, e3, a, b, c, l, k, e4, e5, e6⟩ := dec_itemsP hd
      have hlen : (replyOf (K.decF shapeP (onlyF s.data.toList).1).1).2.recs.length ≤ 200 := by
        have := congrArg List.length e1
        rw [itemsP_len, e4] at this
        rw [e4]
        simp only [List.length_cons] at this
        omega
      have hok := fun x hx => (e3 x hx).1
      rw [← e1] at hok
      have ed : K.decF shapeP (onlyF s.data.toList).1 = (itemsP (replyOf (K.decF shapeP (onlyF s.data.toList).1).1).1 (replyOf (K.decF shapeP (onlyF s.data.toList).1).1).2, 0) := Prod.ext e1.symm hd
      generalize replyOf (K.decF shapeP (onlyF s.data.toList).1).1 = AR at *
      obtain ⟨aa, r⟩ := AR
      simp only at *
      refine pansd_items s h63 w hT he aa r ed hlen (fun x hx => ?_) _ (fun h1 h2 ro rc w' h3 h4 => ?_) (fun h1 w' h4 => ?_)
      · obtain ⟨y, hy, rfl⟩ := List.mem_map.1 hx
        have hm := fun (z : K.It) (hz : z ∈ itemsR y) => hok z (by simp only [itemsP, List.mem_cons]; exact .inr (.inr (.inr (List.mem_flatMap.2 ⟨y, hy, hz⟩))))
        exact recW_ok (hm ⟨4, 0, y.prod⟩ (by simp [itemsR])).2.2.2.2 (hm ⟨4, 0, y.key⟩ (by simp [itemsR])).2.2.2.2 (hm ⟨4, 0, y.val⟩ (by simp [itemsR])).2.2.2.2
      · obtain ⟨g1, g2⟩ := rpW_same hok (.inl ⟨h1, h2⟩)
        rw [g1] at h1 ⊢
        rw [g2] at h2 h3 ⊢
        rw [if_pos ⟨h1, h2⟩]
        exact ⟨ro, rc, rfl, h3, h4⟩
      · have hn : ¬ (askOk aa ∧ r.right) := fun h => by
          obtain ⟨g1, g2⟩ := rpW_same hok (.inr h)
          rw [g1, g2] at h1
          exact h1 h
        rw [if_neg hn]
        exact gave_zero 10 h4
    · rw [if_pos hd]
      exact pansd_dec s h63 w hT he hd
  · rw [answP_bad he]
    exact pansd_only s h63 w hT he
end Go.Proofs.YtoolbbibnegdnaaGreatDoor
