/-
  Decode (mkc9.py)
-/
import Derived.Test.YtlfodldlkchmoaaGreatZC9
namespace Go.Proofs.YtlfodldlkchmoaaGreat
open Go.RowKit
set_option maxHeartbeats 8000000
set_option maxRecDepth 100000
attribute [local go_sem ↓] Go.wp_at_zero Go.wp_at_succ
set_option linter.unusedSimpArgs false
set_option linter.unusedVariables false
theorem own_items {w : World} {B : Nat} {v : Value} {l : List K.It} (h : w.ownsRow B 110 3 v l.length (K.itemCells l)) (hl : 0 < l.length) : ∃ g cap, v = .slice (some ⟨g, 0, none⟩) l.length cap ∧ l.length ≤ cap ∧ K.ItemsAt w (some ⟨g, 0, none⟩) l := by
  obtain ⟨ao, cap, e, hat⟩ := K.items_of_own h
  rcases h.2 with ⟨h1, h2⟩ | ⟨g, cap2, cur, hv, hg, hh, hn, _, hs, ht⟩
  · omega
  · rw [hv] at e
    injection e with e1 e2 e3
    subst e1 e3
    exact ⟨g, _, hv, hn, hat⟩
theorem box9 {W : World} {b : Nat} {c : CM} (h : W.heap[b]? = some (.cells c.cells 31 (0, 0))) :
    (W.cell? ⟨b, 0, none⟩ = some (.int .i64 c.kind) ∧ W.cell? ⟨b, 1, none⟩ = some (.string c.topic) ∧ W.cell? ⟨b, 2, none⟩ = some (.string c.name) ∧ W.cell? ⟨b, 3, none⟩ = some (.int .i64 c.seq) ∧ W.cell? ⟨b, 4, none⟩ = some (.string c.key) ∧ W.cell? ⟨b, 5, none⟩ = some (.string c.val) ∧ W.cell? ⟨b, 6, none⟩ = some (.int .i64 c.n) ∧ W.cell? ⟨b, 7, none⟩ = some (.int .i64 c.node) ∧ W.cell? ⟨b, 8, none⟩ = some (.int .i64 c.ask)) ∧
    (W.frozen? ⟨b, 0, none⟩ = false ∧ W.frozen? ⟨b, 1, none⟩ = false ∧ W.frozen? ⟨b, 2, none⟩ = false ∧ W.frozen? ⟨b, 3, none⟩ = false ∧ W.frozen? ⟨b, 4, none⟩ = false ∧ W.frozen? ⟨b, 5, none⟩ = false ∧ W.frozen? ⟨b, 6, none⟩ = false ∧ W.frozen? ⟨b, 7, none⟩ = false ∧ W.frozen? ⟨b, 8, none⟩ = false) :=
  ⟨⟨box_cell h 0 rfl, box_cell h 1 rfl, box_cell h 2 rfl, box_cell h 3 rfl, box_cell h 4 rfl, box_cell h 5 rfl, box_cell h 6 rfl, box_cell h 7 rfl, box_cell h 8 rfl⟩, box_free h 0, box_free h 1, box_free h 2, box_free h 3, box_free h 4, box_free h 5, box_free h 6, box_free h 7, box_free h 8⟩
def set9 (W : World) (b : Nat) (c : CM) : World := ((((((((W.setCell ⟨b, 0, none⟩ (.int .i64 c.kind)).setCell ⟨b, 1, none⟩ (.string c.topic)).setCell ⟨b, 2, none⟩ (.string c.name)).setCell ⟨b, 3, none⟩ (.int .i64 c.seq)).setCell ⟨b, 4, none⟩ (.string c.key)).setCell ⟨b, 5, none⟩ (.string c.val)).setCell ⟨b, 6, none⟩ (.int .i64 c.n)).setCell ⟨b, 7, none⟩ (.int .i64 c.node)).setCell ⟨b, 8, none⟩ (.int .i64 c.ask)
theorem set9_below {B : Nat} {w W : World} {b : Nat} {c : CM} (h : Below B w W) (hb : B ≤ b) : Below B w (set9 W b c) := (((((((((h).setCell (p := ⟨b, 0, none⟩) hb _).setCell (p := ⟨b, 1, none⟩) hb _).setCell (p := ⟨b, 2, none⟩) hb _).setCell (p := ⟨b, 3, none⟩) hb _).setCell (p := ⟨b, 4, none⟩) hb _).setCell (p := ⟨b, 5, none⟩) hb _).setCell (p := ⟨b, 6, none⟩) hb _).setCell (p := ⟨b, 7, none⟩) hb _).setCell (p := ⟨b, 8, none⟩) hb _
theorem cmW_same {x0 x1 x2 x3 x4 x5 x6 x7 x8 : K.It} (h : ∀ x ∈ [x0, x1, x2, x3, x4, x5, x6, x7, x8], x.ok) (hr : (cmW x0 x1 x2 x3 x4 x5 x6 x7 x8).right = true ∨ (cmOf [x0, x1, x2, x3, x4, x5, x6, x7, x8]).right = true) : cmW x0 x1 x2 x3 x4 x5 x6 x7 x8 = cmOf [x0, x1, x2, x3, x4, x5, x6, x7, x8] := by
  obtain ⟨_, _, p1, p2, _⟩ := h x0 (by simp)
  obtain ⟨_, _, p3, p4, _⟩ := h x3 (by simp)
  obtain ⟨_, _, p5, p6, _⟩ := h x6 (by simp)
  obtain ⟨_, _, p7, p8, _⟩ := h x7 (by simp)
  obtain ⟨_, _, p9, p10, _⟩ := h x8 (by simp)
  have e6 := backN_eq p5 p6
  show CM.mk _ _ _ _ _ _ _ _ _ = CM.mk _ _ _ _ _ _ _ _ _
  rcases hr with hr | hr
  · obtain ⟨k1, k2, o1, o2, a1, a2, s1, s2, n1, n2, _⟩ := CM.small hr
    simp only [cmW, IntKind.wrap_i64] at k1 k2 o1 o2 a1 a2 s1 s2 n1 n2
    have q0 : IntKind.i64.wrap x0.n = x0.n := by rw [IntKind.wrap_i64]; omega
    have q3 : IntKind.i64.wrap x3.n = x3.n := by rw [IntKind.wrap_i64]; omega
    have q7 : IntKind.i64.wrap x7.n = x7.n := by rw [IntKind.wrap_i64]; omega
    have q8 : IntKind.i64.wrap x8.n = x8.n := by rw [IntKind.wrap_i64]; omega
    have q6 : backN x6.n = x6.n - 1 := by split at e6 <;> omega
    rw [q0, q3, q6, q7, q8]
  · obtain ⟨k1, k2, o1, o2, a1, a2, s1, s2, n1, n2, _⟩ := CM.small hr
    simp only [cmOf] at k1 k2 o1 o2 a1 a2 s1 s2 n1 n2
    have q0 : IntKind.i64.wrap x0.n = x0.n := by rw [IntKind.wrap_i64]; omega
    have q3 : IntKind.i64.wrap x3.n = x3.n := by rw [IntKind.wrap_i64]; omega
    have q7 : IntKind.i64.wrap x7.n = x7.n := by rw [IntKind.wrap_i64]; omega
    have q8 : IntKind.i64.wrap x8.n = x8.n := by rw [IntKind.wrap_i64]; omega
    have q6 : backN x6.n = x6.n - 1 := by split at e6 <;> omega
    rw [q0, q3, q6, q7, q8]
theorem decC_call (s : ByteArray) (h : s.size ≤ 9223372036854775807) (w : World) : Calls Tryz.prog 54 #[.string ⟨#[98, 116, 116, 108, 116, 116, 108, 98, 108]⟩, .string s] w fun e w' => ∃ v, e = .returned (.tuple #[v, .int .i64 (K.decF shapeC s.data.toList).2]) ∧ w'.ownsRow w.heap.size 110 3 v (K.decF shapeC s.data.toList).1.length (K.itemCells (K.decF shapeC s.data.toList).1) ∧ Below w.heap.size w w' :=
  K.decode_any ⟨#[98, 116, 116, 108, 116, 116, 108, 98, 108]⟩ s w (by unfold maxLen; decide) (by unfold maxLen; omega) _ rfl
theorem pdec_fault (s : ByteArray) (h : s.size ≤ 9223372036854775807) (w : World) (hd : (K.decF shapeC s.data.toList).2 ≠ 0) :
    Calls Tryz.prog 28 #[.string s] w fun e w' => e = .returned (.tuple #[CM.zero.v, .int .i64 (K.decF shapeC s.data.toList).2]) ∧ Below w.heap.size w w' := by
  have HD := hide (decC_call s h)
  generalize K.decF shapeC s.data.toList = R at *
  obtain ⟨l, er⟩ := R
  have hne : (er != 0) = true := by rw [bne_iff_ne]; exact hd
  simp only at HD hd
  have K0 := hide (CB.new w CM.zero)
  clear h
  simp only [CM.zero, CM.cells] at K0
  go_enter Tryz.func28, Tryz.ntmps28
  go_wp2_with fail
  refine (HD.out _).mono ?_
  rintro e w1 ⟨v, rfl, _, b1⟩
  have K1 := hide (K0.out.to b1)
  obtain ⟨⟨c0, c1, c2, c3, c4, c5, c6, c7, c8⟩, ⟨f0, f1, f2, f3, f4, f5, f6, f7, f8⟩⟩ := box9 K1.out.box
  simp only at c0 c1 c2 c3 c4 c5 c6 c7 c8
  clear b1 HD K0
  go_wp2
  refine bodyPost_ret (v := .tuple #[CM.zero.v, .int .i64 er]) (by simp [results, Tryz.results28, go_sem, CM.zero, CM.v, CM.cells, c0, c1, c2, c3, c4, c5, c6, c7, c8]) rfl ⟨rfl, ?_⟩
  exact set9_below (c := CM.zero) K1.out.below (Nat.le_refl _)
theorem pdec_nine (s : ByteArray) (h : s.size ≤ 9223372036854775807) (w : World) (x0 x1 x2 x3 x4 x5 x6 x7 x8 : K.It) (hd : K.decF shapeC s.data.toList = ([x0, x1, x2, x3, x4, x5, x6, x7, x8], 0)) (cm : CM) (hx : cm = cmW x0 x1 x2 x3 x4 x5 x6 x7 x8) (hok : cm.ok) (rv : Value) (rf : Int) (hgood : cm.right = true → rv = cm.v ∧ rf = 0) (hbad : cm.right = false → rv = CM.zero.v ∧ rf = 10) :
    Calls Tryz.prog 28 #[.string s] w fun e w' => e = .returned (.tuple #[rv, .int .i64 rf]) ∧ Below w.heap.size w w' := by
  have HG := hide hgood
  have HBD := hide hbad
  have HD := hide (decC_call s h)
  rw [hd] at HD
  have HP : Hid (∀ g cp w, K.ItemsAt w (some ⟨g, 0, none⟩) [x0, x1, x2, x3, x4, x5, x6, x7, x8] → Calls Tryz.prog 55 #[.slice (some ⟨g, 0, none⟩) 9 cp] w fun e w' => e = .returned cm.v ∧ Below w.heap.size w w') := fun g cp w hat => by
    rw [hx]
    exact pcmd g cp x0 x1 x2 x3 x4 x5 x6 x7 x8 w hat
  have HR := hide (pright cm hok)
  have K0 := hide (CB.new w CM.zero)
  generalize hl : [x0, x1, x2, x3, x4, x5, x6, x7, x8] = its at *
  have hl9 : its.length = 9 := by rw [← hl]; rfl
  clear hgood hbad hok h hd hx hl
  generalize cm.right = rr at *
  obtain ⟨k, t, m, s', y, v, n, o, a⟩ := cm
  simp only [CM.zero, CM.cells, CM.v] at K0 HP HR HG
  go_enter Tryz.func28, Tryz.ntmps28
  go_wp2_with fail
  refine (HD.out _).mono ?_
  rintro e w1 ⟨v', rfl, ho, b1⟩
  obtain ⟨g, cap, rfl, hcap, hat⟩ := own_items ho (by omega)
  simp only [hl9]
  have K1 := hide (K0.out.to b1)
  have HA := hide hat
  clear b1 HD K0 hat ho hcap
  go_wp2_with fail
  refine (HP.out _ _ _ HA.out).mono ?_
  rintro e w2 ⟨rfl, b2⟩
  have K2 := hide (K1.out.to b2)
  clear b2 K1 HA HP
  have K3 := hide (K2.out.to ((Below.refl _ w2).alloc (Nat.le_refl _) (.cells (CM.mk k t m s' y v n o a).cells 31)))
  have X3 := hide (heap_alloc_new w2 (.cells (CM.mk k t m s' y v n o a).cells 31))
  have hlt := heap_lt K2.out.box
  simp only [CM.cells] at K3 X3
  go_wp2_with fail
  refine (HR.out _).mono ?_
  rintro e w4 ⟨rfl, b4⟩
  have K4 := hide (K3.out.to b4)
  have X4 := (b4.block _ (heap_lt X3.out)).trans X3.out
  obtain ⟨⟨c0, c1, c2, c3, c4, c5, c6, c7, c8⟩, ⟨f0, f1, f2, f3, f4, f5, f6, f7, f8⟩⟩ := box9 K4.out.box
  obtain ⟨⟨d0, d1, d2, d3, d4, d5, d6, d7, d8⟩, _⟩ := box9 (c := CM.mk k t m s' y v n o a) X4
  simp only at c0 c1 c2 c3 c4 c5 c6 c7 c8 d0 d1 d2 d3 d4 d5 d6 d7 d8
  have hne : w.heap.size ≠ w2.heap.size := Nat.ne_of_lt hlt
  clear b4 K3 X3 HR X4 K2
  cases rr
  · obtain ⟨rfl, rfl⟩ := HBD.out rfl
    go_wp2
    refine bodyPost_ret (v := .tuple #[CM.zero.v, .int .i64 10]) (by simp [results, Tryz.results28, go_sem, CM.zero, CM.v, CM.cells, c0, c1, c2, c3, c4, c5, c6, c7, c8]) rfl ⟨rfl, ?_⟩
    exact set9_below (c := CM.zero) K4.out.below (Nat.le_refl _)
  · obtain ⟨rfl, rfl⟩ := HG.out rfl
    go_wp2
    refine bodyPost_ret (v := .tuple #[(CM.mk k t m s' y v n o a).v, .int .i64 0]) (by simp [results, Tryz.results28, go_sem, CM.v, CM.cells, c0, c1, c2, c3, c4, c5, c6, c7, c8]) rfl ⟨rfl, ?_⟩
    exact set9_below (c := CM.mk k t m s' y v n o a) K4.out.below (Nat.le_refl _)
theorem pdec (s : ByteArray) (h : s.size ≤ 9223372036854775807) (w : World) :
    Calls Tryz.prog 28 #[.string s] w fun e w' => e = .returned (.tuple #[(decC s.data.toList).1.v, .int .i64 (decC s.data.toList).2]) ∧ Below w.heap.size w w' := by
  by_cases h1 : (K.decF shapeC s.data.toList).2 = 0
  · obtain ⟨x0, x1, x2, x3, x4, x5, x6, x7, x8, h9⟩ := dec_nine _ h1
    have hok := fun x hx => ((dec_itemsC h1).2 x hx).1
    have hfl := fun x hx => ((dec_itemsC h1).2 x hx).2
    rw [h9] at hok hfl
    have e9 : K.decF shapeC s.data.toList = ([x0, x1, x2, x3, x4, x5, x6, x7, x8], 0) := Prod.ext h9 h1
    have eD : decC s.data.toList = if (cmOf [x0, x1, x2, x3, x4, x5, x6, x7, x8]).right then (cmOf [x0, x1, x2, x3, x4, x5, x6, x7, x8], 0) else (CM.zero, 10) := by
      unfold decC
      rw [e9, if_neg (fun e => e rfl)]
    refine pdec_nine s h w x0 x1 x2 x3 x4 x5 x6 x7 x8 e9 (cmW x0 x1 x2 x3 x4 x5 x6 x7 x8) rfl ⟨(hok x1 (by simp)).2.2.2.2, (hok x2 (by simp)).2.2.2.2, (hok x4 (by simp)).2.2.2.2, (hok x5 (by simp)).2.2.2.2⟩ _ _ (fun hr => ?_) (fun hr => ?_)
    · rw [eD]
      have e := cmW_same hok (.inl hr)
      rw [e] at hr
      rw [if_pos hr, e]
      exact ⟨rfl, rfl⟩
    · rw [eD]
      have hn : ¬ (cmOf [x0, x1, x2, x3, x4, x5, x6, x7, x8]).right = true := fun h2 => by
        rw [cmW_same hok (.inr h2), h2] at hr
        cases hr
      rw [if_neg hn]
      exact ⟨rfl, rfl⟩
  · have eD : decC s.data.toList = (CM.zero, (K.decF shapeC s.data.toList).2) := by unfold decC; rw [if_pos h1]
    rw [eD]
    exact pdec_fault s h w h1
end Go.Proofs.YtlfodldlkchmoaaGreat
