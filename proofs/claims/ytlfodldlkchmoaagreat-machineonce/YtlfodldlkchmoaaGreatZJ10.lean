/-
  join, as it runs; leave's regions (mkj10.py).
-/
import Derived.Test.YtlfodldlkchmoaaGreatZJ9
import Derived.BigRegion
import Derived.Deep.RegionWith
namespace Go.Proofs.YtlfodldlkchmoaaGreat.Y
open Go.RowKit
set_option maxHeartbeats 8000000
set_option maxRecDepth 100000
attribute [local go_sem ↓] Go.wp_at_zero Go.wp_at_succ
set_option linter.unusedSimpArgs false
set_option linter.unusedVariables false
open Go.Maps
theorem wp_midR {P : Program} {c1 c2 : Code} {Q : Exit → Act → World → Prop} {a : Act} {w : World} (Mid : Act → World → Prop) (h1 : Code.wp P c1 (Exit.then Mid Q) a w) (h2 : ∀ a w, Mid a w → Code.wp P c2 Q a w) : Code.wp P (c1.seq c2) Q a w :=
  wp_seq (wp_mono h1 fun e a w q => by
    cases e with
    | normal => exact h2 a w q
    | _ => exact q)
theorem wset {w : World} {b o : Nat} {t : TypeId} {cs : Array Value} {x : Value} (h : w.heap[b]? = some (.cells cs t (0, 0))) : (w.setCell ⟨b, o, none⟩ x).heap[b]? = some (.cells (cs.setIfInBounds o x) t (0, 0)) := by
  simp [World.setCell, Array.getElem?_modify, h]
theorem mbox_set (X : MS) (tb sb kn : Nat) (v : Bool) (hk : kn < 7) (hl : X.wan.length = 7) : (mBox X tb sb).setIfInBounds (3 + kn) (.bool v) = mBox { X with wan := X.wan.set kn v } tb sb := by
  obtain ⟨cnt, dig, wan, T, tn, S, sn⟩ := X
  obtain ⟨a0, a1, a2, a3, a4, a5, a6, rfl⟩ := seven hl
  have h7 : kn = 0 ∨ kn = 1 ∨ kn = 2 ∨ kn = 3 ∨ kn = 4 ∨ kn = 5 ∨ kn = 6 := by omega
  rcases h7 with rfl | rfl | rfl | rfl | rfl | rfl | rfl <;> rfl
theorem MAt.marked {w W : World} {L : LM} {X : MS} (h : MAt w L X) (hl : X.wan.length = 7) (kn : Nat) (hk : kn < 7) (v : Bool) (hW : W = (w.setCell ⟨L.b, 3 + kn, none⟩ (.bool v)).drew) : MAt W L { X with wan := X.wan.set kn v } ∧ MStep w W L L := by
  subst hW
  refine h.boxed (((Touch.refl (fun j => j = L.b) w).setCell ⟨L.b, 3 + kn, none⟩ _ fun _ => rfl).drew) ?_ rfl rfl rfl rfl
  rw [← mbox_set X L.tb L.sb kn v hk hl]
  exact wset h.box
theorem frame_mj (t : Array Value) (h : t.size = 15) : ∃ u : Nat → Value, t = List.toArray (u 0 :: u 1 :: u 2 :: u 3 :: u 4 :: u 5 :: u 6 :: u 7 :: u 8 :: u 9 :: u 10 :: u 11 :: u 12 :: u 13 :: u 14 :: []) := by
  refine ⟨fun i => t.getD i undef, ?_⟩
  refine Eq.trans (b := ((List.range 15).map fun i => t.getD i undef).toArray) ?_ rfl
  apply Array.ext
  · simp [h]
  · intro k h1 h2
    simp [Array.getD, h1]
structure Vmj where
  v0 : Value
  v1 : Value
  v3 : Value
  v4 : Value
structure Fmj (a : Act) (v : Vmj) : Prop where
  size : a.tmps.size = 15
  defers : a.defers = []
  s0 : a.tmps.getD 0 undef = v.v0
  s1 : a.tmps.getD 1 undef = v.v1
  s3 : a.tmps.getD 3 undef = v.v3
  s4 : a.tmps.getD 4 undef = v.v4
theorem frx_mj {a : Act} {v0 v1 v3 v4 : Value} (h : Fmj a ⟨v0, v1, v3, v4⟩) : ∃ u : Nat → Value, a = ⟨List.toArray (v0 :: v1 :: u 2 :: v3 :: v4 :: u 5 :: u 6 :: u 7 :: u 8 :: u 9 :: u 10 :: u 11 :: u 12 :: u 13 :: u 14 :: []), []⟩ := by
  obtain ⟨t', d'⟩ := a
  obtain ⟨hs, hd, q0, q1, q3, q4⟩ := h
  obtain ⟨u, hu⟩ := frame_mj t' hs
  simp only at hd q0 q1 q3 q4
  subst hu hd
  have e0 : u 0 = v0 := q0
  have e1 : u 1 = v1 := q1
  have e3 : u 3 = v3 := q3
  have e4 : u 4 = v4 := q4
  refine ⟨u, ?_⟩
  rw [e0, e1, e3, e4]
theorem mj_r0 {K : Act → World → Prop} {c : Code} (hc : regOf (Tryz.f66.body.getD .skip) 0 = some c) (a : Act) {v : Vmj} {wq : World} {cm : CM} (hF : Fmj a v) (h1v : v.v1 = .agg #[.int .i64 cm.kind, .string cm.topic, .string cm.name, .int .i64 cm.seq, .string cm.key, .string cm.val, .int .i64 cm.n, .int .i64 cm.node, .int .i64 cm.ask]) (hQ : ∀ a', Fmj a' { v with v3 := .pointer (some ⟨wq.heap.size, 0, none⟩), v4 := .pointer (some ⟨wq.heap.size + 1, 0, none⟩) } → K a' ((wq.alloc (.cells #[.int .i64 cm.kind, .string cm.topic, .string cm.name, .int .i64 cm.seq, .string cm.key, .string cm.val, .int .i64 cm.n, .int .i64 cm.node, .int .i64 cm.ask] 31)).alloc (.cells #[.int .i64 0, .int .i64 0, .slice none 0 0] 37))) :
    Code.wp Tryz.prog c (Exit.then K fun _ _ _ => False) a wq := by
  have HQ := hide hQ
  clear hQ
  obtain ⟨v0, v1, v3, v4⟩ := v
  simp only at h1v HQ
  subst h1v
  obtain ⟨u, rfl⟩ := frx_mj hF
  clear hF
  simp only [Tryz.f66, Option.getD_some, regOf] at hc
  injection hc with hc
  subst hc
  go_wp2
  exact HQ.out _ ⟨rfl, rfl, rfl, rfl, rfl, rfl⟩
theorem mj_ret {W : World} {a : Act} {v : Vmj} {rb : Nat} {x y : Int} {ao : Option Addr} {ln cp : Nat} {R : Ending → World → Prop} (hF : Fmj a v) (h0 : v.v4 = .pointer (some ⟨rb, 0, none⟩)) (hB : W.heap[rb]? = some (.cells #[.int .i64 x, .int .i64 y, .slice ao ln cp] 37 (0, 0))) (h : R (.returned (.agg #[.int .i64 x, .int .i64 y, .slice ao ln cp])) W) :
    bodyPost Tryz.prog Tryz.f66 R .ret a W := by
  have g0 := slot_get (hF.s4.trans h0)
  have e0 := box_cell hB 0 rfl
  have e1 := box_cell hB 1 rfl
  have e2 := box_cell hB 2 rfl
  refine bodyPost_ret (v := .agg #[.int .i64 x, .int .i64 y, .slice ao ln cp]) ?_ hF.defers h
  simp [results, Tryz.results66, go_sem, g0, e0, e1, e2]
theorem mj_r1 {K : Act → World → Prop} {c : Code} (hc : regOf (Tryz.f66.body.getD .skip) 1 = some c) (a : Act) {v : Vmj} {wq : World} {mb cb kn : Nat} {cm : CM} {b0 : Bool} (hF : Fmj a v) (h0v : v.v0 = .pointer (some ⟨mb, 0, none⟩)) (h3v : v.v3 = .pointer (some ⟨cb, 0, none⟩)) (hC : wq.heap[cb]? = some (.cells #[.int .i64 cm.kind, .string cm.topic, .string cm.name, .int .i64 cm.seq, .string cm.key, .string cm.val, .int .i64 cm.n, .int .i64 cm.node, .int .i64 cm.ask] 31 (0, 0))) (hn : cm.n = (kn : Int)) (hk : kn < 7) (hy : wq.cell? ⟨mb, 3 + kn, none⟩ = some (.bool b0)) (hf : wq.frozen? ⟨mb, 3 + kn, none⟩ = false)
    (hQ : ∀ a', Fmj a' v → K a' (wq.setCell ⟨mb, 3 + kn, none⟩ (.bool true)).drew) :
    Code.wp Tryz.prog c (Exit.then K fun _ _ _ => False) a wq := by
  have HQ := hide hQ
  clear hQ
  obtain ⟨v0, v1, v3, v4⟩ := v
  simp only at h0v h3v HQ
  subst h0v h3v
  obtain ⟨u, rfl⟩ := frx_mj hF
  clear hF
  simp only [Tryz.f66, Option.getD_some, regOf] at hc
  injection hc with hc
  subst hc
  have z6 := box_cell hC 6 rfl
  simp only [List.getElem_toArray, List.getElem_cons_succ, List.getElem_cons_zero, hn] at z6
  have i0 : (0 : Int) ≤ (kn : Int) := by omega
  have i1 : (kn : Int) < 7 := by omega
  clear hC hn
  go_region
  all_goals exact HQ.out _ ⟨rfl, rfl, rfl, rfl, rfl, rfl⟩
theorem mj_r2 {K : Act → World → Prop} {c : Code} (hc : regOf (Tryz.f66.body.getD .skip) 2 = some c) (a : Act) {v : Vmj} {wq : World} {rb mb m : Nat} (hF : Fmj a v) (h0v : v.v0 = .pointer (some ⟨mb, 0, none⟩)) (h4v : v.v4 = .pointer (some ⟨rb, 0, none⟩)) (hR : wq.heap[rb]? = some (.cells #[.int .i64 0, .int .i64 0, .slice none 0 0] 37 (0, 0))) (hW : Calls Tryz.prog 22 #[.pointer (some ⟨mb, 0, none⟩)] wq fun e w' => ∃ ao cp, e = .returned (.slice ao m cp) ∧ Below wq.heap.size wq w')
    (hQ : ∀ a' w1, Fmj a' v → Below wq.heap.size wq w1 → K a' (set3 w1 rb (.int .i64 0) (.int .i64 (m : Int)) (.slice none 0 0))) :
    Code.wp Tryz.prog c (Exit.then K fun _ _ _ => False) a wq := by
  have HQ := hide hQ
  clear hQ
  obtain ⟨v0, v1, v3, v4⟩ := v
  simp only at h0v h4v HQ
  subst h0v h4v
  obtain ⟨u, rfl⟩ := frx_mj hF
  clear hF
  simp only [Tryz.f66, Option.getD_some, regOf] at hc
  injection hc with hc
  subst hc
  have HR := hide hR
  have HW := hide hW
  have HN := hide (fun W => pnumbered_ok (m : Int) W)
  clear hR hW
  unfold set3 at HQ
  go_wp2_with (first | (go_at_call 22; refine HW.out.mono ?_; rintro e w1 ⟨ao, cp, rfl, b1⟩; have B1 := hide b1; clear b1) | (go_at_call 104; refine (HN.out _).mono ?_; unfold rv; rintro e w2 ⟨rfl, b2⟩; have B2 := hide (B1.out.trans (b2.mono B1.out.size)); clear b2; have hR2 := Below.at B2.out HR.out; have y0 := box_cell hR2 0 rfl; have y1 := box_cell hR2 1 rfl; have y2 := box_cell hR2 2 rfl; have f0 := box_free hR2 0; have f1 := box_free hR2 1; have f2 := box_free hR2 2; clear hR2))
  exact HQ.out _ _ ⟨rfl, rfl, rfl, rfl, rfl, rfl⟩ B2.out
theorem pmjoin {w : World} {L : LM} {X : MS} {c : Nat} (h : MAt w L X) (hk : X.Ok c) (hc : c + 1 ≤ 100000) (cm : CM) (hx : cm.right = true) (hnode : 0 ≤ cm.n ∧ cm.n < 7) :
    Calls Tryz.prog 66 #[.pointer (some ⟨L.b, 0, none⟩), .agg #[.int .i64 cm.kind, .string cm.topic, .string cm.name, .int .i64 cm.seq, .string cm.key, .string cm.val, .int .i64 cm.n, .int .i64 cm.node, .int .i64 cm.ask]] w fun e w' => Gave w L (joinM X cm) e w' := by
  have b1 : Below w.heap.size w ((w.alloc (.cells #[.int .i64 cm.kind, .string cm.topic, .string cm.name, .int .i64 cm.seq, .string cm.key, .string cm.val, .int .i64 cm.n, .int .i64 cm.node, .int .i64 cm.ask] 31)).alloc (.cells #[.int .i64 0, .int .i64 0, .slice none 0 0] 37)) := ((Below.refl w.heap.size w).alloc (Nat.le_refl _) _).alloc (by simp) _
  have c1 : ((w.alloc (.cells #[.int .i64 cm.kind, .string cm.topic, .string cm.name, .int .i64 cm.seq, .string cm.key, .string cm.val, .int .i64 cm.n, .int .i64 cm.node, .int .i64 cm.ask] 31)).alloc (.cells #[.int .i64 0, .int .i64 0, .slice none 0 0] 37)).heap[w.heap.size]? = some (.cells #[.int .i64 cm.kind, .string cm.topic, .string cm.name, .int .i64 cm.seq, .string cm.key, .string cm.val, .int .i64 cm.n, .int .i64 cm.node, .int .i64 cm.ask] 31 (0, 0)) := Below.at ((Below.refl _ _).alloc (Nat.le_refl _) _) (heap_alloc_new w _)
  have r1 : ((w.alloc (.cells #[.int .i64 cm.kind, .string cm.topic, .string cm.name, .int .i64 cm.seq, .string cm.key, .string cm.val, .int .i64 cm.n, .int .i64 cm.node, .int .i64 cm.ask] 31)).alloc (.cells #[.int .i64 0, .int .i64 0, .slice none 0 0] 37)).heap[w.heap.size + 1]? = some (.cells #[.int .i64 0, .int .i64 0, .slice none 0 0] 37 (0, 0)) := by
    have := heap_alloc_new (w.alloc (.cells #[.int .i64 cm.kind, .string cm.topic, .string cm.name, .int .i64 cm.seq, .string cm.key, .string cm.val, .int .i64 cm.n, .int .i64 cm.node, .int .i64 cm.ask] 31)) (.cells #[.int .i64 0, .int .i64 0, .slice none 0 0] 37)
    simpa using this
  obtain ⟨sz1, sz2, sz3, sz4⟩ := cm_sizes hx
  have szT : cm.topic.size ≤ maxLen := by unfold maxLen; omega
  have szN : cm.name.size ≤ maxLen := by unfold maxLen; omega
  go_enter Tryz.func66, Tryz.ntmps66
  refine wp_seq (reg_mono (mj_r0 (by kernel_rfl) _ (v := ⟨_, _, _, _⟩) (cm := cm) ⟨rfl, rfl, rfl, rfl, rfl, rfl⟩ rfl ?_))
  intro a0 F0
  try dsimp only at F0
  generalize (w.alloc _).alloc _ = w1 at *
  have h1 := h.below b1
  have l1 := h1.lt.1
  have m1 := h1.cells
  obtain ⟨n0, n7⟩ := hnode
  obtain ⟨kn, hn⟩ : ∃ kn : Nat, cm.n = (kn : Int) := ⟨cm.n.toNat, by omega⟩
  have hkn : kn < 7 := by omega
  have htn : cm.n.toNat = kn := by omega
  have hE : joinM X cm = (numM 0 (wcount (X.wan.set kn true) : Int), { X with wan := X.wan.set kn true }) := by unfold joinM; rw [htn]
  rw [hE]
  have mk := h1.marked hk.wan kn hkn true rfl
  obtain ⟨h2, st2⟩ := mk
  refine wp_seq (reg_mono (mj_r1 (by kernel_rfl) _ F0 rfl rfl c1 hn hkn (h1.wcells kn hkn) (h1.free _) ?_))
  intro a3 F3
  try dsimp only at F3
  have t2 : Touch (fun j => j = L.b) w1 (w1.setCell ⟨L.b, 3 + kn, none⟩ (.bool true)).drew := ((Touch.refl (fun j => j = L.b) w1).setCell ⟨L.b, 3 + kn, none⟩ _ fun _ => rfl).drew
  have lb := h.lt.1
  have r2 := t2.at r1 (fun e => by omega)
  generalize (w1.setCell ⟨L.b, 3 + kn, none⟩ (.bool true)).drew = w2 at *
  have HW := pmwanted h2
  have el := wlist_length (l := X.wan.set kn true) (by rw [List.length_set]; exact hk.wan)
  refine wp_seq (reg_mono (mj_r2 (m := wcount (X.wan.set kn true)) (by kernel_rfl) _ F3 rfl rfl r2 (HW.mono fun e w' q => by obtain ⟨ao, cp, q1, q2, q3⟩ := q; exact ⟨ao, cp, by rw [q1]; show Ending.returned (Value.slice ao (wlist (X.wan.set kn true)).length cp) = _; rw [el], q3⟩) ?_))
  intro a4 w4 F4 b4
  refine wp_ret ?_
  obtain ⟨h5, st5⟩ := h.fin (rb := w.heap.size + 1) b1 (Nat.le_succ _) (heap_lt r1) (h2.below b4) (st2.then b4) (set3_touch (x0 := .int .i64 0) (x1 := .int .i64 (wcount (X.wan.set kn true) : Int)) (x2 := .slice none 0 0))
  exact mj_ret F4 rfl (set3_box (Below.at b4 r2)) (gave0 rfl rfl rfl h5 st5)
theorem frame_mz (t : Array Value) (h : t.size = 29) : ∃ u : Nat → Value, t = List.toArray (u 0 :: u 1 :: u 2 :: u 3 :: u 4 :: u 5 :: u 6 :: u 7 :: u 8 :: u 9 :: u 10 :: u 11 :: u 12 :: u 13 :: u 14 :: u 15 :: u 16 :: u 17 :: u 18 :: u 19 :: u 20 :: u 21 :: u 22 :: u 23 :: u 24 :: u 25 :: u 26 :: u 27 :: u 28 :: []) := by
  refine ⟨fun i => t.getD i undef, ?_⟩
  refine Eq.trans (b := ((List.range 29).map fun i => t.getD i undef).toArray) ?_ rfl
  apply Array.ext
  · simp [h]
  · intro k h1 h2
    simp [Array.getD, h1]
structure Vmz where
  v0 : Value
  v1 : Value
  v3 : Value
  v4 : Value
structure Fmz (a : Act) (v : Vmz) : Prop where
  size : a.tmps.size = 29
  defers : a.defers = []
  s0 : a.tmps.getD 0 undef = v.v0
  s1 : a.tmps.getD 1 undef = v.v1
  s3 : a.tmps.getD 3 undef = v.v3
  s4 : a.tmps.getD 4 undef = v.v4
theorem frx_mz {a : Act} {v0 v1 v3 v4 : Value} (h : Fmz a ⟨v0, v1, v3, v4⟩) : ∃ u : Nat → Value, a = ⟨List.toArray (v0 :: v1 :: u 2 :: v3 :: v4 :: u 5 :: u 6 :: u 7 :: u 8 :: u 9 :: u 10 :: u 11 :: u 12 :: u 13 :: u 14 :: u 15 :: u 16 :: u 17 :: u 18 :: u 19 :: u 20 :: u 21 :: u 22 :: u 23 :: u 24 :: u 25 :: u 26 :: u 27 :: u 28 :: []), []⟩ := by
  obtain ⟨t', d'⟩ := a
  obtain ⟨hs, hd, q0, q1, q3, q4⟩ := h
  obtain ⟨u, hu⟩ := frame_mz t' hs
  simp only at hd q0 q1 q3 q4
  subst hu hd
  have e0 : u 0 = v0 := q0
  have e1 : u 1 = v1 := q1
  have e3 : u 3 = v3 := q3
  have e4 : u 4 = v4 := q4
  refine ⟨u, ?_⟩
  rw [e0, e1, e3, e4]
theorem mz_r0 {K : Act → World → Prop} {c : Code} (hc : regOf (Tryz.f67.body.getD .skip) 0 = some c) (a : Act) {v : Vmz} {wq : World} {cm : CM} (hF : Fmz a v) (h1v : v.v1 = .agg #[.int .i64 cm.kind, .string cm.topic, .string cm.name, .int .i64 cm.seq, .string cm.key, .string cm.val, .int .i64 cm.n, .int .i64 cm.node, .int .i64 cm.ask]) (hQ : ∀ a', Fmz a' { v with v3 := .pointer (some ⟨wq.heap.size, 0, none⟩), v4 := .pointer (some ⟨wq.heap.size + 1, 0, none⟩) } → K a' ((wq.alloc (.cells #[.int .i64 cm.kind, .string cm.topic, .string cm.name, .int .i64 cm.seq, .string cm.key, .string cm.val, .int .i64 cm.n, .int .i64 cm.node, .int .i64 cm.ask] 31)).alloc (.cells #[.int .i64 0, .int .i64 0, .slice none 0 0] 37))) :
    Code.wp Tryz.prog c (Exit.then K fun _ _ _ => False) a wq := by
  have HQ := hide hQ
  clear hQ
  obtain ⟨v0, v1, v3, v4⟩ := v
  simp only at h1v HQ
  subst h1v
  obtain ⟨u, rfl⟩ := frx_mz hF
  clear hF
  simp only [Tryz.f67, Option.getD_some, regOf] at hc
  injection hc with hc
  subst hc
  go_wp2
  exact HQ.out _ ⟨rfl, rfl, rfl, rfl, rfl, rfl⟩
theorem mz_ret {W : World} {a : Act} {v : Vmz} {rb : Nat} {x y : Int} {ao : Option Addr} {ln cp : Nat} {R : Ending → World → Prop} (hF : Fmz a v) (h0 : v.v4 = .pointer (some ⟨rb, 0, none⟩)) (hB : W.heap[rb]? = some (.cells #[.int .i64 x, .int .i64 y, .slice ao ln cp] 37 (0, 0))) (h : R (.returned (.agg #[.int .i64 x, .int .i64 y, .slice ao ln cp])) W) :
    bodyPost Tryz.prog Tryz.f67 R .ret a W := by
  have g0 := slot_get (hF.s4.trans h0)
  have e0 := box_cell hB 0 rfl
  have e1 := box_cell hB 1 rfl
  have e2 := box_cell hB 2 rfl
  refine bodyPost_ret (v := .agg #[.int .i64 x, .int .i64 y, .slice ao ln cp]) ?_ hF.defers h
  simp [results, Tryz.results67, go_sem, g0, e0, e1, e2]
theorem mz_r1f {K : Act → World → Prop} {c : Code} (hc : regOf (Tryz.f67.body.getD .skip) 1 = some c) (a : Act) {v : Vmz} {wq : World} {mb cb kn : Nat} {cm : CM} (hF : Fmz a v) (h0v : v.v0 = .pointer (some ⟨mb, 0, none⟩)) (h3v : v.v3 = .pointer (some ⟨cb, 0, none⟩)) (hC : wq.heap[cb]? = some (.cells #[.int .i64 cm.kind, .string cm.topic, .string cm.name, .int .i64 cm.seq, .string cm.key, .string cm.val, .int .i64 cm.n, .int .i64 cm.node, .int .i64 cm.ask] 31 (0, 0))) (hn : cm.n = (kn : Int)) (hk : kn < 7) (hy : wq.cell? ⟨mb, 3 + kn, none⟩ = some (.bool false))
    (hQ : ∀ a', Fmz a' v → a'.tmps.getD 17 undef = .bool false → K a' wq.drew) :
    Code.wp Tryz.prog c (Exit.then K fun _ _ _ => False) a wq := by
  have HQ := hide hQ
  clear hQ
  obtain ⟨v0, v1, v3, v4⟩ := v
  simp only at h0v h3v HQ
  subst h0v h3v
  obtain ⟨u, rfl⟩ := frx_mz hF
  clear hF
  simp only [Tryz.f67, Option.getD_some, regOf] at hc
  injection hc with hc
  subst hc
  have z6 := box_cell hC 6 rfl
  simp only [List.getElem_toArray, List.getElem_cons_succ, List.getElem_cons_zero, hn] at z6
  have i0 : (0 : Int) ≤ (kn : Int) := by omega
  have i1 : (kn : Int) < 7 := by omega
  clear hC hn
  go_region
  all_goals exact HQ.out _ ⟨rfl, rfl, rfl, rfl, rfl, rfl⟩ (by first | rfl | (simp; done))
theorem mz_r1t {K : Act → World → Prop} {c : Code} (hc : regOf (Tryz.f67.body.getD .skip) 1 = some c) (a : Act) {v : Vmz} {wq : World} {mb cb kn m : Nat} {cm : CM} (hF : Fmz a v) (h0v : v.v0 = .pointer (some ⟨mb, 0, none⟩)) (h3v : v.v3 = .pointer (some ⟨cb, 0, none⟩)) (hC : wq.heap[cb]? = some (.cells #[.int .i64 cm.kind, .string cm.topic, .string cm.name, .int .i64 cm.seq, .string cm.key, .string cm.val, .int .i64 cm.n, .int .i64 cm.node, .int .i64 cm.ask] 31 (0, 0))) (hn : cm.n = (kn : Int)) (hk : kn < 7) (hy : wq.cell? ⟨mb, 3 + kn, none⟩ = some (.bool true)) (hW : ∀ W, Below wq.heap.size wq W → Calls Tryz.prog 22 #[.pointer (some ⟨mb, 0, none⟩)] W fun e w' => ∃ ao cp, e = .returned (.slice ao m cp) ∧ Below W.heap.size W w')
    (hQ : ∀ a' w1, Fmz a' v → a'.tmps.getD 17 undef = .bool (m == 1) → Below wq.heap.size wq w1 → K a' w1) :
    Code.wp Tryz.prog c (Exit.then K fun _ _ _ => False) a wq := by
  have HQ := hide hQ
  clear hQ
  obtain ⟨v0, v1, v3, v4⟩ := v
  simp only at h0v h3v HQ
  subst h0v h3v
  obtain ⟨u, rfl⟩ := frx_mz hF
  clear hF
  simp only [Tryz.f67, Option.getD_some, regOf] at hc
  injection hc with hc
  subst hc
  have HW := hide (hW wq.drew (Below.refl _ _).drew)
  have BD := hide (Below.refl wq.heap.size wq).drew
  clear hW
  have z6 := box_cell hC 6 rfl
  simp only [List.getElem_toArray, List.getElem_cons_succ, List.getElem_cons_zero, hn] at z6
  have i0 : (0 : Int) ≤ (kn : Int) := by omega
  have i1 : (kn : Int) < 7 := by omega
  clear hC hn
  have hm1 : ((m : Int) == 1) = (m == 1) := by
    by_cases e : m = 1
    · subst e; rfl
    · rw [beq_eq_false_iff_ne.2 e, beq_eq_false_iff_ne.2 (by omega)]
  rw [← hm1] at HQ
  clear hm1
  go_region_with (go_at_call 22; refine HW.out.mono ?_; rintro e w1 ⟨ao, cp, rfl, b1⟩; have B1 := hide (BD.out.trans b1); clear b1)
  all_goals exact HQ.out _ _ ⟨rfl, rfl, rfl, rfl, rfl, rfl⟩ (by first | rfl | (simp; done)) B1.out
theorem mz_r2 {K : Act → World → Prop} {c : Code} (hc : regOf (Tryz.f67.body.getD .skip) 2 = some c) (a : Act) {v : Vmz} {wq : World} {rb : Nat}  (hF : Fmz a v) (h4v : v.v4 = .pointer (some ⟨rb, 0, none⟩)) (hR : wq.heap[rb]? = some (.cells #[.int .i64 0, .int .i64 0, .slice none 0 0] 37 (0, 0)))
    (hQ : ∀ a' w1, Fmz a' v → Below wq.heap.size wq w1 → K a' (set3 w1 rb (.int .i64 7) (.int .i64 0) (.slice none 0 0))) :
    Code.wp Tryz.prog c (Exit.then K fun _ _ _ => False) a wq := by
  have HQ := hide hQ
  clear hQ
  obtain ⟨v0, v1, v3, v4⟩ := v
  simp only at h4v HQ
  subst h4v
  obtain ⟨u, rfl⟩ := frx_mz hF
  clear hF
  simp only [Tryz.f67, Option.getD_some, regOf] at hc
  injection hc with hc
  subst hc
  have HR := hide hR
  have HE : Hid (Calls Tryz.prog 29 #[.int .i64 7] wq fun e w' => e = .returned (.agg #[.int .i64 7, .int .i64 0, .slice none 0 0]) ∧ Below wq.heap.size wq w') := pcoded 7 wq
  clear hR
  unfold set3 at HQ
  go_wp2_with (go_at_call 29; refine HE.out.mono ?_; rintro e w1 ⟨rfl, b1⟩; have hR2 := Below.at b1 HR.out; have R1 := hide b1; clear b1; have y0 := box_cell hR2 0 rfl; have y1 := box_cell hR2 1 rfl; have y2 := box_cell hR2 2 rfl; have f0 := box_free hR2 0; have f1 := box_free hR2 1; have f2 := box_free hR2 2; clear hR2)
  exact HQ.out _ _ ⟨rfl, rfl, rfl, rfl, rfl, rfl⟩ R1.out
theorem mz_r3 {K : Act → World → Prop} {c : Code} (hc : regOf (Tryz.f67.body.getD .skip) 3 = some c) (a : Act) {v : Vmz} {wq : World} {mb cb kn : Nat} {cm : CM} {b0 : Bool} (hF : Fmz a v) (h0v : v.v0 = .pointer (some ⟨mb, 0, none⟩)) (h3v : v.v3 = .pointer (some ⟨cb, 0, none⟩)) (hC : wq.heap[cb]? = some (.cells #[.int .i64 cm.kind, .string cm.topic, .string cm.name, .int .i64 cm.seq, .string cm.key, .string cm.val, .int .i64 cm.n, .int .i64 cm.node, .int .i64 cm.ask] 31 (0, 0))) (hn : cm.n = (kn : Int)) (hk : kn < 7) (hy : wq.cell? ⟨mb, 3 + kn, none⟩ = some (.bool b0)) (hf : wq.frozen? ⟨mb, 3 + kn, none⟩ = false)
    (hQ : ∀ a', Fmz a' v → K a' (wq.setCell ⟨mb, 3 + kn, none⟩ (.bool false)).drew) :
    Code.wp Tryz.prog c (Exit.then K fun _ _ _ => False) a wq := by
  have HQ := hide hQ
  clear hQ
  obtain ⟨v0, v1, v3, v4⟩ := v
  simp only at h0v h3v HQ
  subst h0v h3v
  obtain ⟨u, rfl⟩ := frx_mz hF
  clear hF
  simp only [Tryz.f67, Option.getD_some, regOf] at hc
  injection hc with hc
  subst hc
  have z6 := box_cell hC 6 rfl
  simp only [List.getElem_toArray, List.getElem_cons_succ, List.getElem_cons_zero, hn] at z6
  have i0 : (0 : Int) ≤ (kn : Int) := by omega
  have i1 : (kn : Int) < 7 := by omega
  clear hC hn
  go_region
  all_goals exact HQ.out _ ⟨rfl, rfl, rfl, rfl, rfl, rfl⟩
theorem mz_r4 {K : Act → World → Prop} {c : Code} (hc : regOf (Tryz.f67.body.getD .skip) 4 = some c) (a : Act) {v : Vmz} {wq : World} {rb mb m : Nat} (hF : Fmz a v) (h0v : v.v0 = .pointer (some ⟨mb, 0, none⟩)) (h4v : v.v4 = .pointer (some ⟨rb, 0, none⟩)) (hR : wq.heap[rb]? = some (.cells #[.int .i64 0, .int .i64 0, .slice none 0 0] 37 (0, 0))) (hW : Calls Tryz.prog 22 #[.pointer (some ⟨mb, 0, none⟩)] wq fun e w' => ∃ ao cp, e = .returned (.slice ao m cp) ∧ Below wq.heap.size wq w')
    (hQ : ∀ a' w1, Fmz a' v → Below wq.heap.size wq w1 → K a' (set3 w1 rb (.int .i64 0) (.int .i64 (m : Int)) (.slice none 0 0))) :
    Code.wp Tryz.prog c (Exit.then K fun _ _ _ => False) a wq := by
  have HQ := hide hQ
  clear hQ
  obtain ⟨v0, v1, v3, v4⟩ := v
  simp only at h0v h4v HQ
  subst h0v h4v
  obtain ⟨u, rfl⟩ := frx_mz hF
  clear hF
  simp only [Tryz.f67, Option.getD_some, regOf] at hc
  injection hc with hc
  subst hc
  have HR := hide hR
  have HW := hide hW
  have HN := hide (fun W => pnumbered_ok (m : Int) W)
  clear hR hW
  unfold set3 at HQ
  go_wp2_with (first | (go_at_call 22; refine HW.out.mono ?_; rintro e w1 ⟨ao, cp, rfl, b1⟩; have B1 := hide b1; clear b1) | (go_at_call 104; refine (HN.out _).mono ?_; unfold rv; rintro e w2 ⟨rfl, b2⟩; have B2 := hide (B1.out.trans (b2.mono B1.out.size)); clear b2; have hR2 := Below.at B2.out HR.out; have y0 := box_cell hR2 0 rfl; have y1 := box_cell hR2 1 rfl; have y2 := box_cell hR2 2 rfl; have f0 := box_free hR2 0; have f1 := box_free hR2 1; have f2 := box_free hR2 2; clear hR2))
  exact HQ.out _ _ ⟨rfl, rfl, rfl, rfl, rfl, rfl⟩ B2.out
end Go.Proofs.YtlfodldlkchmoaaGreat.Y
