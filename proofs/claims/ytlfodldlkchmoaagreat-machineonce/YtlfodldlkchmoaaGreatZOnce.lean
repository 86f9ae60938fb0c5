/-
  MachineOnce: for all deeds ahead and between, and any command, the law's call returns true and leaves them as they were; no condition.
-/
import Derived.Test.YtlfodldlkchmoaaGreatZJ24
import Derived.Test.YtlfodldlkchmoaaGreatZJ31
import Derived.Test.YtlfodldlkchmoaaGreatZJ10
import Derived.Test.YtlfodldlkchmoaaGreatZRA
import Derived.Test.YtlfodldlkchmoaaGreatZJ18
import Derived.Test.YtlfodldlkchmoaaGreatZJ21
import Derived.Test.YtlfodldlkchmoaaGreatZYCl
namespace Go.Proofs.YtlfodldlkchmoaaGreat.Y
open Go.RowKit
set_option maxHeartbeats 16000000
set_option maxRecDepth 100000
attribute [local go_sem ↓] Go.wp_at_zero Go.wp_at_succ
set_option linter.unusedSimpArgs false
set_option linter.unusedVariables false
open Go.Maps
structure OW (w0 w : World) (L : LM) (X : MS) : Prop where
  m : MAt w L X
  bel : Below w0.heap.size w0 w
  ol : ∀ j, L.own j → w0.heap.size ≤ j
theorem OW.to {w0 w w' : World} {L : LM} {X : MS} (h : OW w0 w L X) (b : Below w.heap.size w w') : OW w0 w' L X := ⟨h.m.below b, h.bel.trans (b.mono h.bel.size), h.ol⟩
theorem OW.step {w0 w w' : World} {L L' : LM} {X X' : MS} (h : OW w0 w L X) (s : MStep w w' L L') (m : MAt w' L' X') : OW w0 w' L' X' := by
  refine ⟨m, h.bel.trans (s.touch.toBelow h.bel.size fun k hk e => by have := h.ol k e; omega), fun j e => ?_⟩
  rcases s.own _ e with e2 | e2
  · exact h.ol j e2
  · exact Nat.le_trans h.bel.size e2
structure BX (w : World) (L : LM) (b : Nat) (cs : Array Value) (t : TypeId) : Prop where
  at_ : w.heap[b]? = some (.cells cs t (0, 0))
  no : ¬ L.own b
theorem BX.to {w w' : World} {L : LM} {b : Nat} {cs : Array Value} {t : TypeId} (h : BX w L b cs t) (hb : Below w.heap.size w w') : BX w' L b cs t := ⟨Below.at hb h.at_, h.no⟩
theorem BX.step {w w' : World} {L L' : LM} {b : Nat} {cs : Array Value} {t : TypeId} (h : BX w L b cs t) (s : MStep w w' L L') : BX w' L' b cs t :=
  ⟨s.touch.at h.at_ h.no, fun e => by
    rcases s.own _ e with e | e
    · exact h.no e
    · have := heap_lt h.at_; omega⟩
theorem BX.new {w : World} {L : LM} {X : MS} (m : MAt w L X) (cs : Array Value) (t : TypeId) : BX (w.alloc (.cells cs t)) L w.heap.size cs t := ⟨heap_alloc_new _ _, fun e => by have := m.lim _ e; omega⟩
theorem OW.set {w0 w : World} {L : LM} {X : MS} {b : Nat} {cs : Array Value} {t : TypeId} (h : OW w0 w L X) (hb : BX w L b cs t) (h0 : w0.heap.size ≤ b) (o : Nat) (x : Value) : OW w0 (w.setCell ⟨b, o, none⟩ x) L X ∧ BX (w.setCell ⟨b, o, none⟩ x) L b (cs.setIfInBounds o x) t := by
  have tt : Touch (fun k => k = b) w (w.setCell ⟨b, o, none⟩ x) := (Touch.refl _ w).setCell ⟨b, o, none⟩ _ (fun _ => rfl)
  exact ⟨⟨h.m.keep tt fun k e e2 => hb.no (by rw [← e2]; exact e), h.bel.trans (tt.toBelow h.bel.size fun k hk e => by omega), h.ol⟩, wset hb.at_, hb.no⟩
def c9 (x : CM) : Array Value := #[.int .i64 x.kind, .string x.topic, .string x.name, .int .i64 x.seq, .string x.key, .string x.val, .int .i64 x.n, .int .i64 x.node, .int .i64 x.ask]
def onceC (x : CM) : CM := { x with kind := 2, n := 0 }
theorem c9_once (x : CM) : ((c9 x).setIfInBounds 0 (.int .i64 2)).setIfInBounds 6 (.int .i64 0) = c9 (onceC x) := rfl
theorem onceC_ok {x : CM} (h : x.ok) : (onceC x).ok := ⟨h.t, h.m, h.y, h.v⟩
theorem toList_ne {a b : ByteArray} (h : a ≠ b) : a.toList ≠ b.toList := fun e => h (bytes_ext (by rw [← ByteArray.toList_eq, ← ByteArray.toList_eq]; exact e))
def skipC (cm dm : CM) : Prop := dm.kind = 8 ∨ dm.kind = 9 ∨ (dm.kind = 2 ∧ dm.topic = cm.topic ∧ dm.name = cm.name ∧ cm.seq < dm.seq)
theorem on_r20 {K : Act → World → Prop} {c : Code} (hc : regOf (Tryz.f5.body.getD .skip) 20 = some c) (a : Act) {v : Von} {wq : World} {cb db : Nat} {cm dm : CM} (hF : Fon a v) (h1 : v.v4 = .pointer (some ⟨cb, 0, none⟩)) (h2 : v.v14 = .pointer (some ⟨db, 0, none⟩)) (hC : wq.heap[cb]? = some (.cells (c9 cm) 31 (0, 0))) (hD : wq.heap[db]? = some (.cells (c9 dm) 31 (0, 0)))
    (hQ : ∀ a', Fon a' v → (skipC cm dm ∧ a'.tmps.getD 111 undef = .bool true) ∨ (¬ skipC cm dm ∧ a'.tmps.getD 111 undef = .bool false) → K a' wq) : Code.wp Tryz.prog c (Exit.then K fun _ _ _ => False) a wq := by
  by_cases k8 : dm.kind = 8
  · exact on_r20a hc a hF h1 h2 hC hD k8 fun a' F g => hQ a' F (.inl ⟨.inl k8, g⟩)
  by_cases k9 : dm.kind = 9
  · exact on_r20b hc a hF h1 h2 hC hD k9 fun a' F g => hQ a' F (.inl ⟨.inr (.inl k9), g⟩)
  by_cases k2 : dm.kind = 2
  case neg => exact on_r20k hc a hF h1 h2 hC hD k8 k9 k2 fun a' F g => hQ a' F (.inr ⟨fun e => e.elim k8 fun e => e.elim k9 fun e => k2 e.1, g⟩)
  by_cases ht : dm.topic = cm.topic
  case neg => exact on_r20t hc a hF h1 h2 hC hD k2 (toList_ne ht) fun a' F g => hQ a' F (.inr ⟨fun e => e.elim k8 fun e => e.elim k9 fun e => ht e.2.1, g⟩)
  by_cases hn : dm.name = cm.name
  case neg => exact on_r20n hc a hF h1 h2 hC hD k2 ht (toList_ne hn) fun a' F g => hQ a' F (.inr ⟨fun e => e.elim k8 fun e => e.elim k9 fun e => hn e.2.2.1, g⟩)
  refine on_r20s hc a hF h1 h2 hC hD k2 ht hn fun a' F g => hQ a' F ?_
  by_cases hs : cm.seq < dm.seq
  · rw [decide_eq_true hs] at g
    exact .inl ⟨.inr (.inr ⟨k2, ht, hn, hs⟩), g⟩
  · rw [decide_eq_false hs] at g
    exact .inr ⟨fun e => e.elim k8 fun e => e.elim k9 fun e => hs e.2.2.2, g⟩
theorem on_r9 {K : Act → World → Prop} {c : Code} (hc : regOf (Tryz.f5.body.getD .skip) 9 = some c) (a : Act) {v : Von} {wq : World} {cb : Nat} {cm : CM} (hF : Fon a v) (h1 : v.v11 = .pointer (some ⟨cb, 0, none⟩)) (hC : wq.heap[cb]? = some (.cells (c9 cm) 31 (0, 0)))
    (hQ : ∀ a', Fon a' v → ((cm.kind ≠ 8 ∧ cm.kind ≠ 9) ∧ a'.tmps.getD 50 undef = .bool true) ∨ a'.tmps.getD 50 undef = .bool false → K a' wq) : Code.wp Tryz.prog c (Exit.then K fun _ _ _ => False) a wq := by
  by_cases k8 : cm.kind = 8
  · exact on_r9a hc a hF h1 hC k8 fun a' F g => hQ a' F (.inr g)
  by_cases k9 : cm.kind = 9
  · exact on_r9b hc a hF h1 hC k9 fun a' F g => hQ a' F (.inr g)
  exact on_r9c hc a hF h1 hC ⟨k8, k9⟩ fun a' F g => hQ a' F (.inl ⟨⟨k8, k9⟩, g⟩)
theorem on_r31 {K : Act → World → Prop} {c : Code} (hc : regOf (Tryz.f5.body.getD .skip) 31 = some c) (a : Act) {v : Von} {wq : World} {cb lb lf n cp k : Nat} {cm : CM} {r : Rec} (hF : Fon a v) (h1 : v.v4 = .pointer (some ⟨cb, 0, none⟩)) (h2 : v.v18 = .slice (some ⟨lb, lf, none⟩) n cp) (h3 : v.v20 = .int .i64 (k : Int)) (hC : wq.heap[cb]? = some (.cells (c9 cm) 31 (0, 0))) (hk : k < n) (hR : ∀ j, j < 5 → wq.cell? ⟨lb, lf + k * 5 + j, none⟩ = r.cells[j]?)
    (hQ : ∀ a' nn, Fon a' v → ((r.prod = cm.name ∧ r.seq = cm.seq) ∧ a'.tmps.getD 168 undef = .bool true) ∨ (¬ (r.prod = cm.name ∧ r.seq = cm.seq) ∧ a'.tmps.getD 168 undef = .bool false) → K a' (wq.drewN nn)) : Code.wp Tryz.prog c (Exit.then K fun _ _ _ => False) a wq := by
  by_cases hp : r.prod = cm.name
  case neg => exact on_r31p hc a hF h1 h2 h3 hC hk hR (toList_ne hp) fun a' nn F g => hQ a' nn F (.inr ⟨fun e => hp e.1, g⟩)
  by_cases hs : r.seq = cm.seq
  · exact on_r31y hc a hF h1 h2 h3 hC hk hR hp hs fun a' nn F g => hQ a' nn F (.inl ⟨⟨hp, hs⟩, g⟩)
  · exact on_r31s hc a hF h1 h2 h3 hC hk hR hp hs fun a' nn F g => hQ a' nn F (.inr ⟨fun e => hs e.2, g⟩)
theorem on_r6 {K : Act → World → Prop} {c : Code} (hc : regOf (Tryz.f5.body.getD .skip) 6 = some c) (a : Act) {v : Von} {wq : World} {ao : Option Addr} {n cp k : Nat} (hF : Fon a v) (h1 : v.v0 = .slice ao n cp) (h2 : v.v10 = .int .i64 (k : Int)) (hQ : ∀ a', Fon a' v → a'.tmps.getD 35 undef = .bool (decide (k < n ∧ k < 40)) → K a' wq) : Code.wp Tryz.prog c (Exit.then K fun _ _ _ => False) a wq := by
  by_cases hk : k < n
  · refine on_r6y hc a hF h1 h2 (by omega) fun a' F g => hQ a' F ?_
    rw [g]
    by_cases h8 : k < 40
    · rw [decide_eq_true (show (k : Int) < 40 by omega), decide_eq_true (⟨hk, h8⟩ : k < n ∧ k < 40)]
    · rw [decide_eq_false (show ¬ (k : Int) < 40 by omega), decide_eq_false (fun e : k < n ∧ k < 40 => h8 e.2)]
  · refine on_r6n hc a hF h1 h2 (by omega) fun a' F g => hQ a' F ?_
    rw [g, decide_eq_false (fun e : k < n ∧ k < 40 => hk e.1)]
theorem on_r17 {K : Act → World → Prop} {c : Code} (hc : regOf (Tryz.f5.body.getD .skip) 17 = some c) (a : Act) {v : Von} {wq : World} {ao : Option Addr} {n cp k : Nat} (hF : Fon a v) (h1 : v.v2 = .slice ao n cp) (h2 : v.v13 = .int .i64 (k : Int)) (hQ : ∀ a', Fon a' v → a'.tmps.getD 70 undef = .bool (decide (k < n ∧ k < 40)) → K a' wq) : Code.wp Tryz.prog c (Exit.then K fun _ _ _ => False) a wq := by
  by_cases hk : k < n
  · refine on_r17y hc a hF h1 h2 (by omega) fun a' F g => hQ a' F ?_
    rw [g]
    by_cases h8 : k < 40
    · rw [decide_eq_true (show (k : Int) < 40 by omega), decide_eq_true (⟨hk, h8⟩ : k < n ∧ k < 40)]
    · rw [decide_eq_false (show ¬ (k : Int) < 40 by omega), decide_eq_false (fun e : k < n ∧ k < 40 => h8 e.2)]
  · refine on_r17n hc a hF h1 h2 (by omega) fun a' F g => hQ a' F ?_
    rw [g, decide_eq_false (fun e : k < n ∧ k < 40 => hk e.1)]
def cntB (i t : Nat) : Nat := if i < t then 1 else 0
theorem once_walk (ao bo : Option Addr) (cp cq : Nat) (us vs : List GD) (x : CM) (hx : x.ok) (w : World) (hG : GDs w ao us) (hH : GDs w bo vs) :
    Calls Tryz.prog 5 #[.slice ao us.length cp, .agg #[.int .i64 x.kind, .string x.topic, .string x.name, .int .i64 x.seq, .string x.key, .string x.val, .int .i64 x.n, .int .i64 x.node, .int .i64 x.ask], .slice bo vs.length cq] w fun e w' => e = .returned (.bool true) ∧ Below w.heap.size w w' := by
  go_enter Tryz.func5, Tryz.ntmps5
  refine wp_seq (reg_mono (on_r0 (cm := x) (by kernel_rfl) _ (v := ⟨_, _, _, _, _, _, _, _, _, _, _, _, _, _, _, _, _, _⟩) ⟨rfl, rfl, rfl, rfl, rfl, rfl, rfl, rfl, rfl, rfl, rfl, rfl, rfl, rfl, rfl, rfl, rfl, rfl, rfl, rfl⟩ rfl ?_))
  intro a0 F0
  try dsimp only at F0
  have b01 := (Below.refl w.heap.size w).alloc (Nat.le_refl _) (.cells (c9 x) 31)
  have x1 : (w.alloc (.cells (c9 x) 31)).heap[w.heap.size]? = _ := heap_alloc_new w (.cells (c9 x) 31)
  have hcb : w.heap.size ≤ w.heap.size := Nat.le_refl _
  change Code.wp _ _ _ _ (w.alloc (.cells (c9 x) 31))
  generalize w.alloc (.cells (c9 x) 31) = w1 at *
  obtain ⟨cb, HCB⟩ : ∃ cb, cb = w.heap.size := ⟨_, rfl⟩
  rw [← HCB] at F0 x1
  replace hcb : w.heap.size ≤ cb := by omega
  clear HCB
  refine wp_seq (reg_mono (on_r1 (by kernel_rfl) _ F0 (pexamples w1) ?_))
  intro a1 w2 F1 b12
  try dsimp only at F1
  have x2 := Below.at b12 x1
  have bw2 := b01.trans (b12.mono b01.size)
  refine wp_seq (reg_mono (on_r2 (ec := 0) (R := fun po W => ∃ L : LM, po = some ⟨L.b, 0, none⟩ ∧ MAt W L (MS.new 3) ∧ Below w2.heap.size w2 W ∧ ∀ j, L.own j → w2.heap.size ≤ j) (by kernel_rfl) _ F1 ((pmnew 3 w2).mono fun e u q => ?_) ?_))
  · rcases q with ⟨q1, _⟩ | ⟨_, _, L, q1, q2, q3, q4⟩
    · exact absurd (by decide) q1
    · exact ⟨_, q1, L, rfl, q2, q3, q4⟩
  rintro a2 w3 _ F2 ⟨L0, rfl, m0, b3, o0⟩
  try dsimp only at F2
  refine wp_seq (wp_seq (reg_mono (on_r3 (by kernel_rfl) _ F2 rfl ?_)))
  intro a3 F3 g3
  refine wp_cond_false g3 (wp_skip ?_)
  show Code.wp _ _ _ _ _
  refine wp_seq (wp_seq (reg_mono (on_r5 (by kernel_rfl) _ F3 ?_)))
  intro a5 F5
  try dsimp only at F5
  have T0 : OW w w3 L0 (MS.new 3) := ⟨m0, bw2.trans (b3.mono bw2.size), fun j e => Nat.le_trans bw2.size (o0 j e)⟩
  have B0 : BX w3 L0 cb (c9 x) 31 := ⟨Below.at b3 x2, fun e => by have := o0 _ e; have := heap_lt x2; omega⟩
  refine wp_block (wp_loop (fun a W => ∃ (k : Nat) (L : LM) (X : MS) (v : Von), k ≤ us.length ∧ k ≤ 40 ∧ Fon a v ∧ v.v0 = .slice ao us.length cp ∧ v.v2 = .slice bo vs.length cq ∧ v.v4 = .pointer (some ⟨cb, 0, none⟩) ∧ v.v7 = .bool true ∧ v.v8 = .pointer (some ⟨L.b, 0, none⟩) ∧ v.v10 = .int .i64 (k : Int) ∧ OW w W L X ∧ BX W L cb (c9 x) 31 ∧ X.Ok k ∧ X.cnt ≤ k ∧ MI X) (fun a _ => us.length - (intOf (a.tmps.getD 10 undef)).toNat) ⟨0, L0, MS.new 3, _, Nat.zero_le _, Nat.zero_le _, F5, rfl, rfl, rfl, rfl, rfl, rfl, T0, B0, MS.Ok.new _, Nat.le_refl _, mi_new _⟩ ?_)
  clear F0 F1 F2 F3 F5 T0 B0 m0 o0 b3 g3 x1 x2 b12 b01 bw2
  rintro a W ⟨k, L, X, v, hk, hk40, F, q0, q2, q4, q7, q8, q10, T, B, hX, hXc, hM⟩
  have hmk : (intOf (a.tmps.getD 10 undef)).toNat = k := by rw [F.s10, q10]; simp [intOf]
  obtain ⟨v0, v1, v2, v4, v6, v7, v8, v10, v11, v12, v13, v14, v15, v16, v17, v18, v19, v20⟩ := v
  simp only at q0 q2 q4 q7 q8 q10
  subst q0 q2 q4 q7 q8 q10
  refine wp_seq (wp_seq (reg_mono (on_r6 (by kernel_rfl) _ F rfl rfl ?_)))
  intro a6 F6 g6
  by_cases l12 : k < us.length ∧ k < 40
  case neg =>
    rw [decide_eq_false l12] at g6
    refine wp_cond_false g6 (wp_exit ?_)
    show Code.wp _ _ _ _ _
    clear hmk F
    have F := F6
    clear F6
    refine wp_seq (reg_mono (on_r11 (cm := x) (by kernel_rfl) _ F rfl B.at_ ?_))
    intro a11 F11
    try dsimp only at F11
    obtain ⟨T11, B11⟩ := T.set B hcb 0 (.int .i64 2)
    generalize W.setCell ⟨cb, 0, none⟩ (.int .i64 2) = w11 at *
    refine wp_seq (reg_mono (on_r12 (cm := { x with kind := 2 }) (by kernel_rfl) _ F11 rfl B11.at_ ?_))
    intro a12 F12
    try dsimp only at F12
    obtain ⟨T12, B12⟩ := T11.set B11 hcb 6 (.int .i64 0)
    rw [c9_once] at B12
    generalize w11.setCell ⟨cb, 6, none⟩ (.int .i64 0) = w12 at *
    have hx2 := onceC_ok hx
    have hk2 : (onceC x).kind = 2 := rfl
    generalize onceC x = y at *
    have hok2 := apply_ok hX (by omega) (rencP y).data.toList
    have hct2 := (apply_cnt X (rencP y).data.toList).1
    have hM2 := mi_apply hM y (by omega) (by omega)
    have hF := had_first hM y hk2
    have PD := pdo T12.m hX (by omega) (by omega) y hx2
    generalize applyM X (rencP y).data.toList = P at *
    refine wp_seq (reg_mono (on_r13 (cm := y) (x := P.1.code) (y := P.1.n) (ln := P.1.recs.length) (R := fun aq cq u => ∃ L', MAt u L' P.2 ∧ MStep w12 u L L') (by kernel_rfl) _ F12 rfl rfl B12.at_ (PD.mono fun e u q => ?_) ?_))
    · obtain ⟨aq, cr, e1, _, L', m', s', _⟩ := q
      exact ⟨aq, cr, e1, L', m', s'⟩
    rintro a13 u13 aq cr F13 ⟨L', m13, s13⟩
    try dsimp only at F13
    have T13a := T12.step s13 m13
    have B13a := B12.step s13
    have bu := (Below.refl u13.heap.size u13).alloc (Nat.le_refl _) (.cells #[.int .i64 P.1.code, .int .i64 P.1.n, .slice aq P.1.recs.length cr] 37)
    have T13 := T13a.to bu
    have B13 := B13a.to bu
    have R13 : BX (u13.alloc (.cells #[.int .i64 P.1.code, .int .i64 P.1.n, .slice aq P.1.recs.length cr] 37)) L' u13.heap.size #[.int .i64 P.1.code, .int .i64 P.1.n, .slice aq P.1.recs.length cr] 37 := BX.new T13a.m _ _
    generalize u13.alloc (.cells #[.int .i64 P.1.code, .int .i64 P.1.n, .slice aq P.1.recs.length cr] 37) = w13 at *
    generalize u13.heap.size = rb at *
    have ea : L'.b = L.b := s13.b
    rw [← ea] at F13
    clear T T11 T12 B B11 B12 T13a B13a PD bu s13 m13 ea F F11 F12
    generalize P.1.recs.length = ln at *
    generalize P.1.n = o at *
    by_cases hcd : P.1.code = 0
    case neg =>
      refine wp_seq (wp_seq (reg_mono (on_r14n (by kernel_rfl) _ F13 rfl R13.at_ hcd ?_)))
      intro a14 F14 g14
      refine wp_cond_true g14 ?_
      show Code.wp _ _ _ _ _
      refine wp_seq (reg_mono (on_r15 (by kernel_rfl) _ F14 rfl ?_))
      intro a15 F15
      try dsimp only at F15
      refine wp_ret ?_
      simp only [Exit.then]
      exact on_ret F15 rfl ⟨rfl, T13.bel⟩
    obtain ⟨hD, hpb, hrt⟩ := hF hcd
    rw [hcd] at R13
    refine wp_seq (wp_seq (reg_mono (on_r14o (by kernel_rfl) _ F13 rfl R13.at_ rfl ?_)))
    intro a14 F14 g14
    refine wp_cond_false g14 (wp_skip ?_)
    show Code.wp _ _ _ _ _
    refine wp_seq (wp_seq (reg_mono (on_r16 (by kernel_rfl) _ F14 ?_)))
    intro a16 F16
    try dsimp only at F16
    have hok3 := hok2.mono (show k + 1 ≤ 41 by omega) (by omega)
    have hct3 : P.2.cnt ≤ 41 := by omega
    generalize P.2 = X2 at *
    clear hF hcd hok2 hct2
    refine wp_block (wp_loop (fun a W => ∃ (i : Nat) (L : LM) (X : MS) (v : Von), i ≤ vs.length ∧ i ≤ 40 ∧ Fon a v ∧ v.v2 = .slice bo vs.length cq ∧ v.v4 = .pointer (some ⟨cb, 0, none⟩) ∧ v.v7 = .bool true ∧ v.v8 = .pointer (some ⟨L.b, 0, none⟩) ∧ v.v12 = .pointer (some ⟨rb, 0, none⟩) ∧ v.v13 = .int .i64 (i : Int) ∧ OW w W L X ∧ BX W L cb (c9 y) 31 ∧ BX W L rb #[.int .i64 0, .int .i64 o, .slice aq ln cr] 37 ∧ X.Ok (41 + i) ∧ X.cnt ≤ 41 + i ∧ MI X ∧ HD X y o) (fun a _ => vs.length - (intOf (a.tmps.getD 13 undef)).toNat) ⟨0, L', X2, _, Nat.zero_le _, Nat.zero_le _, F16, rfl, rfl, rfl, rfl, rfl, rfl, T13, B13, R13, hok3, hct3, hM2, hD⟩ ?_)
    clear F13 F14 F16 T13 B13 R13 hok3 hct3 hM2 hD g14
    rintro a W ⟨i, L, X, v, hi, hi40, F, q2, q4, q7, q8, q12, q13, T, B, R, hX, hXc, hM, hD⟩
    have hmk : (intOf (a.tmps.getD 13 undef)).toNat = i := by rw [F.s13, q13]; simp [intOf]
    obtain ⟨v0, v1, v2, v4, v6, v7, v8, v10, v11, v12, v13, v14, v15, v16, v17, v18, v19, v20⟩ := v
    simp only at q2 q4 q7 q8 q12 q13
    subst q2 q4 q7 q8 q12 q13
    refine wp_seq (wp_seq (reg_mono (on_r17 (by kernel_rfl) _ F rfl rfl ?_)))
    intro a6 F6 g6
    by_cases l12 : i < vs.length ∧ i < 40
    case neg =>
      rw [decide_eq_false l12] at g6
      refine wp_cond_false g6 (wp_exit ?_)
      show Code.wp _ _ _ _ _
      have hok2 := apply_ok hX (by omega) (rencP y).data.toList
      have hct2 := (apply_cnt X (rencP y).data.toList).1
      obtain ⟨p1, p3, hD2⟩ := had_again hD hk2 hpb hrt
      have PD := pdo T.m hX (by omega) (by omega) y hx2
      generalize applyM X (rencP y).data.toList = P at *
      refine wp_seq (reg_mono (on_r22 (cm := y) (x := 0) (y := o) (ln := P.1.recs.length) (R := fun aq cq u => ∃ L', MAt u L' P.2 ∧ MStep W u L L') (by kernel_rfl) _ F6 rfl rfl B.at_ (PD.mono fun e u q => ?_) ?_))
      · obtain ⟨sa, sc, e1, _, L', m', s', _⟩ := q
        rw [p1, p3] at e1
        exact ⟨sa, sc, e1, L', m', s'⟩
      rintro a22 u22 sa sc F22 ⟨L', m22, s22⟩
      try dsimp only at F22
      have Ta := T.step s22 m22
      have Ba := B.step s22
      have Ra := R.step s22
      have bu := (Below.refl u22.heap.size u22).alloc (Nat.le_refl _) (.cells #[.int .i64 0, .int .i64 o, .slice sa P.1.recs.length sc] 37)
      have T22 := Ta.to bu
      have B22 := Ba.to bu
      have R22 := Ra.to bu
      have S22 : BX (u22.alloc (.cells #[.int .i64 0, .int .i64 o, .slice sa P.1.recs.length sc] 37)) L' u22.heap.size #[.int .i64 0, .int .i64 o, .slice sa P.1.recs.length sc] 37 := BX.new Ta.m _ _
      generalize u22.alloc (.cells #[.int .i64 0, .int .i64 o, .slice sa P.1.recs.length sc] 37) = w22 at *
      generalize u22.heap.size = rs at *
      have ea : L'.b = L.b := s22.b
      rw [← ea] at F22
      obtain ⟨H, ix, hT, hI, ho, hix, hall⟩ := had_once hD2
      have PT := pmtopic T22.m y.topic (by have := hx2.t; unfold maxLen; omega)
      rw [hT] at PT
      refine wp_seq (reg_mono (on_r23 (cm := y) (by kernel_rfl) _ F22 rfl rfl B22.at_ PT ?_))
      intro a23 F23
      try dsimp only at F23
      refine wp_seq (wp_seq (reg_mono (on_r24 (by kernel_rfl) _ F23 rfl rfl rfl rfl R22.at_ S22.at_ rfl rfl ?_)))
      intro a24 F24 g24
      refine wp_cond_false g24 (wp_skip ?_)
      show Code.wp _ _ _ _ _
      have hHk := (hok2.tops _ H hT).1
      have PR := tread (T22.m.top _ H hT) hHk 0 10000 (by omega)
      rw [read_all hI (by have := hHk.len; omega)] at PR
      refine wp_seq (reg_mono (on_r26 (ln := H.recs.length) (R := fun lo lc u => RecsAt u (.slice lo H.recs.length lc) H.recs ∧ Below w22.heap.size w22 u) (by kernel_rfl) _ F24 rfl (PR.mono fun e u q => ?_) ?_))
      · obtain ⟨v', e1, e2, e3⟩ := q
        have e4 := recs_of_own e2
        obtain ⟨lo, lc, e5, _⟩ := e4
        rw [e5] at e1 e2
        exact ⟨lo, lc, e1, recs_of_own e2, e3⟩
      rintro a26 w26 lo lc F26 ⟨rc26, b26⟩
      try dsimp only at F26
      have T26 := T22.to b26
      have B26 := B22.to b26
      have R26 := R22.to b26
      refine wp_seq (reg_mono (on_r27 (by kernel_rfl) _ F26 ?_))
      intro a27 F27
      try dsimp only at F27
      refine wp_seq (wp_seq (reg_mono (on_r28 (by kernel_rfl) _ F27 ?_)))
      intro a28 F28
      try dsimp only at F28
      obtain ⟨lo', lc', e5, _, hcl⟩ := rc26
      cases e5
      refine wp_block (wp_loop (fun a' W' => ∃ t : Nat, t ≤ H.recs.length ∧ Fon a' ⟨v0, v1, .slice bo vs.length cq, .pointer (some ⟨cb, 0, none⟩), v6, .bool true, .pointer (some ⟨L'.b, 0, none⟩), v10, v11, .pointer (some ⟨rb, 0, none⟩), .int .i64 (i : Int), v14, .pointer (some ⟨rs, 0, none⟩), .pointer (some ⟨(L'.loc y.topic.data.toList).b, 0, none⟩), .bool true, .slice lo H.recs.length lc, .int .i64 ((cntB ix t : Nat) : Int), .int .i64 (t : Int)⟩ ∧ Below w26.heap.size w26 W') (fun a' _ => H.recs.length - (intOf (a'.tmps.getD 20 undef)).toNat) ⟨0, Nat.zero_le _, F28, Below.refl _ _⟩ ?_)
      rintro ai Wi ⟨t, ht, Fi, bi⟩
      have hmt : (intOf (ai.tmps.getD 20 undef)).toNat = t := by rw [Fi.s20]; simp [intOf]
      have hlen := hHk.len
      refine wp_seq (wp_seq (reg_mono (on_r29 (by kernel_rfl) _ Fi rfl rfl ?_)))
      intro a29 F29 g29
      by_cases htl : t < H.recs.length
      case neg =>
        rw [decide_eq_false (show ¬ (t : Int) < (H.recs.length : Int) by omega)] at g29
        refine wp_cond_false g29 (wp_exit ?_)
        show Code.wp _ _ _ _ _
        have e1 : cntB ix t = 1 := if_pos (by omega)
        rw [e1] at F29
        refine wp_seq (reg_mono (on_r35 (by kernel_rfl) _ F29 rfl rfl ?_))
        intro a35 F35
        try dsimp only at F35
        refine wp_ret ?_
        exact on_ret F35 rfl ⟨rfl, T26.bel.trans (bi.mono T26.bel.size)⟩
      rw [decide_eq_true (show (t : Int) < (H.recs.length : Int) by omega)] at g29
      refine wp_cond_true g29 (wp_skip ?_)
      show Code.wp _ _ _ _ _
      obtain ⟨lb, lf, rfl, hlb, hce⟩ := hcl t htl
      obtain ⟨hoff, hiff⟩ := hall t htl
      have hce2 : ∀ {W1 : World}, Below w26.heap.size w26 W1 → ∀ j, j < 5 → W1.cell? ⟨lb, lf + t * 5 + j, none⟩ = (H.recs[t]).cells[j]? := fun b j hj => (b.cell (p := ⟨lb, _, none⟩) hlb).trans (hce j hj)
      refine wp_seq (wp_block ?_)
      refine wp_seq (reg_mono (on_r31 (cm := y) (r := H.recs[t]) (by kernel_rfl) _ F29 rfl rfl rfl (Below.at bi B26.at_) htl (hce2 bi) ?_))
      intro a31 nn F31 g31
      have bi2 : Below w26.heap.size w26 (Wi.drewN nn) := below_drewN bi nn
      generalize Wi.drewN nn = Wj at *
      rcases g31 with ⟨hy, g31⟩ | ⟨hy, g31⟩
      · obtain rfl := hiff.1 hy
        refine wp_cond_true g31 ?_
        show Code.wp _ _ _ _ _
        have e0 : cntB t t = 0 := if_neg (by omega)
        rw [e0] at F31
        refine wp_seq (reg_mono (on_r32 (by kernel_rfl) _ F31 rfl (by omega) ?_))
        intro a32 F32
        try dsimp only at F32
        refine wp_seq (reg_mono (on_r33 (r := H.recs[t]) (by kernel_rfl) _ F32 rfl rfl rfl (Below.at bi2 R26.at_) htl (hce2 bi2) (hoff.trans ho.symm) ?_))
        intro a33 n3 F33 g33
        have bi3 : Below w26.heap.size w26 (Wj.drewN n3) := below_drewN bi2 n3
        generalize Wj.drewN n3 = Wk at *
        refine wp_cond_false g33 (wp_skip ?_)
        show Code.wp _ _ _ _ _
        refine reg_mono (on_r30 (by kernel_rfl) _ F33 rfl (by omega) ?_)
        intro a30 F30
        try dsimp only at F30
        have e1 : cntB t (t + 1) = 0 + 1 := if_pos (by omega)
        rw [← e1] at F30
        refine ⟨⟨t + 1, htl, F30, bi3⟩, ?_⟩
        rw [hmt, F30.s20]
        simp [intOf]
        omega
      · have hne : t ≠ ix := fun e => hy (hiff.2 e)
        refine wp_cond_false g31 (wp_skip ?_)
        show Code.wp _ _ _ _ _
        refine reg_mono (on_r30 (by kernel_rfl) _ F31 rfl (by omega) ?_)
        intro a30 F30
        try dsimp only at F30
        have e1 : cntB ix (t + 1) = cntB ix t := by unfold cntB; by_cases q : ix < t; { rw [if_pos q, if_pos (by omega)] }; { rw [if_neg q, if_neg (by omega)] }
        rw [← e1] at F30
        refine ⟨⟨t + 1, htl, F30, bi2⟩, ?_⟩
        rw [hmt, F30.s20]
        simp [intOf]
        omega
    rw [decide_eq_true l12] at g6
    obtain ⟨l1, l2⟩ := l12
    refine wp_cond_true g6 (wp_skip ?_)
    show Code.wp _ _ _ _ _
    obtain ⟨db, df, rfl, hdb, _⟩ := hH.all i l1
    have hdo := (hH.ok _ (List.getElem_mem l1)).1
    have hDW : GDAt W db (df + i * 10) vs[i] := by
      obtain ⟨_, _, e1, _, hD2⟩ := (hH.all.below T.bel) i l1
      cases e1
      exact hD2
    generalize vs[i] = de at *
    refine wp_seq (wp_block ?_)
    refine wp_seq (reg_mono (on_r19 (by kernel_rfl) _ F6 rfl rfl l1 hDW ?_))
    intro a8 F8
    try dsimp only at F8
    have bu := (Below.refl W.heap.size W).alloc (Nat.le_refl _) (.cells (c9 de.c) 31)
    have T8 := T.to bu
    have B8 := B.to bu
    have R8 := R.to bu
    have D8 : BX (W.alloc (.cells (c9 de.c) 31)) L W.heap.size (c9 de.c) 31 := BX.new T.m _ _
    change Code.wp _ _ _ _ (W.alloc (.cells (c9 de.c) 31))
    generalize W.alloc (.cells (c9 de.c) 31) = w8 at *
    generalize W.heap.size = dd at *
    refine wp_seq (wp_seq (reg_mono (on_r20 (cm := y) (dm := de.c) (by kernel_rfl) _ F8 rfl rfl B8.at_ D8.at_ ?_)))
    intro a9 F9 g9
    rcases g9 with ⟨_, g9⟩ | ⟨hns, g9⟩
    · refine wp_cond_true g9 (wp_exit ?_)
      show Code.wp _ _ _ _ _
      refine reg_mono (on_r18 (by kernel_rfl) _ F9 rfl (by omega) ?_)
      intro a7 F7
      try dsimp only at F7
      refine ⟨⟨i + 1, L, X, _, l1, l2, F7, rfl, rfl, rfl, rfl, rfl, rfl, T8, B8, R8, hX.mono (by omega) (by omega), by omega, hM, hD⟩, ?_⟩
      rw [hmk, F7.s13]
      simp [intOf]
      omega
    refine wp_cond_false g9 (wp_skip ?_)
    show Code.wp _ _ _ _ _
    have k8 : de.c.kind ≠ 8 := fun e => hns (.inl e)
    have k9 : de.c.kind ≠ 9 := fun e => hns (.inr (.inl e))
    have hok2 := apply_ok hX (by omega) (rencP de.c).data.toList
    have hct2 := (apply_cnt X (rencP de.c).data.toList).1
    have hM2 := mi_apply hM de.c k8 k9
    have hD2 := had_keep hD hM de.c k8 k9 (fun e => hns (.inr (.inr e)))
    have PD := pdo T8.m hX (by omega) (by omega) de.c hdo
    generalize applyM X (rencP de.c).data.toList = P at *
    refine reg_all (on_r21 (cm := de.c) (R := fun u => ∃ L', MAt u L' P.2 ∧ MStep w8 u L L') (by kernel_rfl) _ F9 rfl rfl D8.at_ (PD.mono fun e u q => ?_) ?_)
    · obtain ⟨aq, cr, e1, _, L', m', s', _⟩ := q
      exact ⟨_, _, _, aq, cr, e1, L', m', s'⟩
    rintro a10 w10 F10 ⟨L', m10, s10⟩
    try dsimp only at F10
    show Code.wp _ _ _ _ _
    have ea : L'.b = L.b := s10.b
    refine reg_mono (on_r18 (by kernel_rfl) _ F10 rfl (by omega) ?_)
    intro a7 F7
    try dsimp only at F7
    refine ⟨⟨i + 1, L', P.2, _, l1, l2, F7, rfl, rfl, rfl, by rw [ea], rfl, rfl, T8.step s10 m10, B8.step s10, R8.step s10, hok2, by omega, hM2, hD2⟩, ?_⟩
    rw [hmk, F7.s13]
    simp [intOf]
    omega
  rw [decide_eq_true l12] at g6
  obtain ⟨l1, l2⟩ := l12
  refine wp_cond_true g6 (wp_skip ?_)
  show Code.wp _ _ _ _ _
  obtain ⟨db, df, rfl, hdb, _⟩ := hG.all k l1
  have hdo := (hG.ok _ (List.getElem_mem l1)).1
  have hDW : GDAt W db (df + k * 10) us[k] := by
    obtain ⟨_, _, e1, _, hD2⟩ := (hG.all.below T.bel) k l1
    cases e1
    exact hD2
  generalize us[k] = de at *
  refine wp_seq (wp_block ?_)
  refine wp_seq (reg_mono (on_r8 (by kernel_rfl) _ F6 rfl rfl l1 hDW ?_))
  intro a8 F8
  try dsimp only at F8
  have bu := (Below.refl W.heap.size W).alloc (Nat.le_refl _) (.cells (c9 de.c) 31)
  have T8 := T.to bu
  have B8 := B.to bu
  have D8 : BX (W.alloc (.cells (c9 de.c) 31)) L W.heap.size (c9 de.c) 31 := BX.new T.m _ _
  change Code.wp _ _ _ _ (W.alloc (.cells (c9 de.c) 31))
  generalize W.alloc (.cells (c9 de.c) 31) = w8 at *
  generalize W.heap.size = dd at *
  refine wp_seq (reg_mono (on_r9 (cm := de.c) (by kernel_rfl) _ F8 rfl D8.at_ ?_))
  intro a9 F9 g9
  rcases g9 with ⟨⟨k8, k9⟩, g9⟩ | g9
  · refine wp_cond_true g9 ?_
    have hok2 := apply_ok hX (by omega) (rencP de.c).data.toList
    have hct2 := (apply_cnt X (rencP de.c).data.toList).1
    have hM2 := mi_apply hM de.c k8 k9
    have PD := pdo T8.m hX (by omega) (by omega) de.c hdo
    generalize applyM X (rencP de.c).data.toList = P at *
    refine reg_all (on_r10 (cm := de.c) (R := fun u => ∃ L', MAt u L' P.2 ∧ MStep w8 u L L') (by kernel_rfl) _ F9 rfl rfl D8.at_ (PD.mono fun e u q => ?_) ?_)
    · obtain ⟨aq, cr, e1, _, L', m', s', _⟩ := q
      exact ⟨_, _, _, aq, cr, e1, L', m', s'⟩
    rintro a10 w10 F10 ⟨L', m10, s10⟩
    try dsimp only at F10
    show Code.wp _ _ _ _ _
    have ea : L'.b = L.b := s10.b
    refine reg_mono (on_r7 (by kernel_rfl) _ F10 rfl (by omega) ?_)
    intro a7 F7
    try dsimp only at F7
    refine ⟨⟨k + 1, L', P.2, _, l1, l2, F7, rfl, rfl, rfl, rfl, by rw [ea], rfl, T8.step s10 m10, B8.step s10, hok2, by omega, hM2⟩, ?_⟩
    rw [hmk, F7.s10]
    simp [intOf]
    omega
  · refine wp_cond_false g9 (wp_skip ?_)
    show Code.wp _ _ _ _ _
    refine reg_mono (on_r7 (by kernel_rfl) _ F9 rfl (by omega) ?_)
    intro a7 F7
    try dsimp only at F7
    refine ⟨⟨k + 1, L, X, _, l1, l2, F7, rfl, rfl, rfl, rfl, rfl, rfl, T8, B8, hX.mono (by omega) (by omega), by omega, hM⟩, ?_⟩
    rw [hmk, F7.s10]
    simp [intOf]
    omega
end Go.Proofs.YtlfodldlkchmoaaGreat.Y
namespace Go.Proofs.YtlfodldlkchmoaaGreat
open Go.ChangeShapes Go.WideShapes Go.ChangeAt Go.RowKit
set_option maxRecDepth 100000
open Go.ChangeMaps (open_string shut_string)
theorem machineOnce_lifted (os : Os) (started : os.Started) (H : Type) (enc : TypeId × Value → H) :
    ReturnsInHanded {} Tryz.checked os 5 .any (Rows.machineOnceSpec.pre6 enc Tryz.prog Tryz.f5 Rows.machineOnceRow.domain false) (Rows.machineOnceSpec.post enc Tryz.prog Tryz.f5 false true false false) := by
  refine returnsInHanded_of_change_sized (C := Tryz.checked) own started (by kernel_rfl) Tryz.func5
    (ChangeSpec.witness6 (enc := enc) (C := Tryz.checked) false ⟨#[], #[.slice none 0 0, .agg #[.int .i64 0, .string .empty, .string .empty, .int .i64 0, .string .empty, .string .empty, .int .i64 0, .int .i64 0, .int .i64 0], .slice none 0 0], []⟩ 8 (by kernel_rfl) (by kernel_rfl) (by kernel_rfl) (by kernel_rfl)) ?_
  intro W base args ds gs before hval0 hW hcnd hsz0 _
  have hval : ∀ (j : Nat) t v, Tryz.f5.params[j]? = some t → args[j]? = some v → Value.okWide Tryz.prog W .any base t v := hval0
  have hsz : (DataW.weightsEach Tryz.prog (Tryz.f5.params.toList ++ Rows.machineOnceSpec.plain.varTypes Tryz.prog) (ds ++ gs)).all (· ≤ reachBytes) = true := hsz0
  have hW' := hW
  obtain ⟨p, q, hA0, hV, rfl, hfz, hnd⟩ := hW
  have hA : DataW.TrodAll enc Tryz.prog W 0 (fun _ => true) true Tryz.f5.params.toList args.toList ds p := hA0
  rw [Tryz.params5] at hA hval hsz
  obtain ⟨v0, vs0, d0, ds0, p0, q0, hargs, rfl, rfl, h0, r0⟩ := trodAll_cons hA
  obtain ⟨v1, vs1, d1, ds1, p1, q1, rfl, rfl, rfl, h1, r1⟩ := trodAll_cons r0
  obtain ⟨v2, vs2, d2, ds2, p2, q2, rfl, rfl, rfl, h2, r2⟩ := trodAll_cons r1
  obtain ⟨rfl, rfl, rfl⟩ := trodAll_nil r2
  obtain rfl : args = #[v0, v1, v2] := by cases args; simp_all
  obtain ⟨rfl, rfl⟩ := trodVars_none hV
  have k0 := h0
  have lt0 : ∀ x ∈ p0, x.block < W.heap.size := by obtain ⟨m, hm⟩ := k0; exact DataW.trod_lt m _ _ _ hm
  obtain ⟨a0, len0, cap0, rfl⟩ := okWide_slice Tryz.underlying22 (hval 0 22 v0 rfl rfl)
  obtain ⟨us0, rfl, cm0⟩ := gds_open h0 hsz (j := 0) rfl rfl
  have k1 := h1
  have lt1 : ∀ x ∈ p1, x.block < W.heap.size := by obtain ⟨m, hm⟩ := k1; exact DataW.trod_lt m _ _ _ hm
  obtain ⟨x1, rfl, ok1⟩ := cm_param (hval 1 31 v1 rfl rfl) h1
  have k2 := h2
  have lt2 : ∀ x ∈ p2, x.block < W.heap.size := by obtain ⟨m, hm⟩ := k2; exact DataW.trod_lt m _ _ _ hm
  obtain ⟨a2, len2, cap2, rfl⟩ := okWide_slice Tryz.underlying22 (hval 2 22 v2 rfl rfl)
  obtain ⟨us2, rfl, cm2⟩ := gds_open h2 hsz (j := 2) rfl rfl
  clear hA0 hval0
  refine (Y.once_walk a0 a2 cap0 cap2 us0 us2 x1 ok1 W cm0 cm2).mono fun e W' ⟨he, bel⟩ => ?_
  subst he
  exact ⟨_, rfl, _, _, _, [], _, [], hW', trodAll_mk1 (shut_bool Tryz.underlying4 _), (trodAll_cons_mk (Below.trod laidOut (by kernel_rfl) (of_decide_eq_true (by kernel_rfl)) k0 bel lt0) (trodAll_cons_mk (Below.trod laidOut (by kernel_rfl) (of_decide_eq_true (by kernel_rfl)) k1 bel lt1) (trodAll_cons_mk (Below.trod laidOut (by kernel_rfl) (of_decide_eq_true (by kernel_rfl)) k2 bel lt2) trodAll_mk0))), rfl, bel.frame _, fun h => by cases h⟩
theorem machineOnce_holds : Rows.MachineOnceSaid :=
  OpenClaim.holds_of_wide 5 Tryz.f5 rfl rfl rfl rfl rfl rfl rfl ⟨rfl, rfl, rfl, rfl, rfl⟩ rfl rfl rfl rfl rfl (by kernel_rfl) Tryz.func5 (by kernel_rfl)
    (of_decide_eq_true (by kernel_rfl)) (by unfold Func.isWrapper; first | (rw [if_pos (by decide +kernel)]; kernel_rfl) | (rw [if_neg (by decide +kernel)]; exact ⟨rfl, rfl⟩))
    (fun os started H enc _ => machineOnce_lifted os started H enc)
#print axioms machineOnce_holds
end Go.Proofs.YtlfodldlkchmoaaGreat
