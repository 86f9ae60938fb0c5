/-
  attach, ack, as they run (mkj6.py).
-/
import Derived.Test.YtlfodldlkchmoaaGreatZJ5
namespace Go.Proofs.YtlfodldlkchmoaaGreat.Y
open Go.RowKit
set_option maxHeartbeats 8000000
set_option maxRecDepth 100000
attribute [local go_sem ↓] Go.wp_at_zero Go.wp_at_succ
set_option linter.unusedSimpArgs false
set_option linter.unusedVariables false
open Go.Maps
theorem RecsAt.keep {w w' : World} {ao : Option Addr} {n cp : Nat} {l : List Rec} {own : Nat → Prop} (h : RecsAt w (.slice ao n cp) l) (ht : Touch own w w') (hn : ∀ g, (Value.slice ao 0 cp).ownBlock = some g → ¬ own g) : RecsAt w' (.slice ao n cp) l := by
  obtain ⟨ao', cap, hv, hc, hi⟩ := h
  injection hv with e1 e2 e3
  subst e1 e2 e3
  refine ⟨ao, cp, rfl, hc, fun i hl => ?_⟩
  obtain ⟨b, off, rfl, hb, hj⟩ := hi i hl
  exact ⟨b, off, rfl, Nat.lt_of_lt_of_le hb ht.size, fun j hj5 => by
    have e := hj j hj5
    obtain ⟨v, hv⟩ : ∃ v, l[i].cells[j]? = some v := by
      have h5 : j = 0 ∨ j = 1 ∨ j = 2 ∨ j = 3 ∨ j = 4 := by omega
      rcases h5 with rfl | rfl | rfl | rfl | rfl <;> exact ⟨_, rfl⟩
    rw [hv] at e ⊢
    exact ht.cell _ e (hn b rfl)⟩
theorem keep_at {W : World} {L : LM} {X : MS} {rb : Nat} (h : MAt W L X) (s : SB) (hs : s.name.size ≤ maxLen) (cd : Int) (hsn : X.sn < maxLen) (hr : W.heap[rb]? = some (.cells #[.int .i64 0, .int .i64 0, .slice none 0 0] 37 (0, 0))) (ho : ¬ L.own rb) :
    Calls Tryz.prog 105 #[.pointer (some ⟨L.b, 0, none⟩), .agg #[.string s.name, .string s.top, .int .i64 s.cur, .int .i64 s.next], .int .i64 cd] W fun e w' => e = .returned (.agg #[.int .i64 (numM cd s.cur).code, .int .i64 (numM cd s.cur).n, .slice none 0 0]) ∧ (w'.heap[rb]? = some (.cells #[.int .i64 0, .int .i64 0, .slice none 0 0] 37 (0, 0)) ∧ ∃ L', MAt w' L' (keepM X s cd).2 ∧ MStep W w' L L') :=
  (pkeep h s hs cd hsn).mono fun e w' ⟨h1, L', h2, h3⟩ => ⟨h1, h3.touch.at hr ho, L', h2, h3⟩
theorem frame_ma (t : Array Value) (h : t.size = 24) : ∃ u : Nat → Value, t = List.toArray (u 0 :: u 1 :: u 2 :: u 3 :: u 4 :: u 5 :: u 6 :: u 7 :: u 8 :: u 9 :: u 10 :: u 11 :: u 12 :: u 13 :: u 14 :: u 15 :: u 16 :: u 17 :: u 18 :: u 19 :: u 20 :: u 21 :: u 22 :: u 23 :: []) := by
  refine ⟨fun i => t.getD i undef, ?_⟩
  refine Eq.trans (b := ((List.range 24).map fun i => t.getD i undef).toArray) ?_ rfl
  apply Array.ext
  · simp [h]
  · intro k h1 h2
    simp [Array.getD, h1]
structure Vma where
  v0 : Value
  v1 : Value
  v3 : Value
  v4 : Value
  v5 : Value
  v6 : Value
structure Fma (a : Act) (v : Vma) : Prop where
  size : a.tmps.size = 24
  defers : a.defers = []
  s0 : a.tmps.getD 0 undef = v.v0
  s1 : a.tmps.getD 1 undef = v.v1
  s3 : a.tmps.getD 3 undef = v.v3
  s4 : a.tmps.getD 4 undef = v.v4
  s5 : a.tmps.getD 5 undef = v.v5
  s6 : a.tmps.getD 6 undef = v.v6
theorem frx_ma {a : Act} {v0 v1 v3 v4 v5 v6 : Value} (h : Fma a ⟨v0, v1, v3, v4, v5, v6⟩) : ∃ u : Nat → Value, a = ⟨List.toArray (v0 :: v1 :: u 2 :: v3 :: v4 :: v5 :: v6 :: u 7 :: u 8 :: u 9 :: u 10 :: u 11 :: u 12 :: u 13 :: u 14 :: u 15 :: u 16 :: u 17 :: u 18 :: u 19 :: u 20 :: u 21 :: u 22 :: u 23 :: []), []⟩ := by
  obtain ⟨t', d'⟩ := a
  obtain ⟨hs, hd, q0, q1, q3, q4, q5, q6⟩ := h
  obtain ⟨u, hu⟩ := frame_ma t' hs
  simp only at hd q0 q1 q3 q4 q5 q6
  subst hu hd
  have e0 : u 0 = v0 := q0
  have e1 : u 1 = v1 := q1
  have e3 : u 3 = v3 := q3
  have e4 : u 4 = v4 := q4
  have e5 : u 5 = v5 := q5
  have e6 : u 6 = v6 := q6
  refine ⟨u, ?_⟩
  rw [e0, e1, e3, e4, e5, e6]
theorem ma_r0 {K : Act → World → Prop} {c : Code} (hc : regOf (Tryz.f60.body.getD .skip) 0 = some c) (a : Act) {v : Vma} {wq : World} {cm : CM} (hF : Fma a v) (h1v : v.v1 = .agg #[.int .i64 cm.kind, .string cm.topic, .string cm.name, .int .i64 cm.seq, .string cm.key, .string cm.val, .int .i64 cm.n, .int .i64 cm.node, .int .i64 cm.ask]) (hQ : ∀ a', Fma a' { v with v3 := .pointer (some ⟨wq.heap.size, 0, none⟩), v4 := .pointer (some ⟨wq.heap.size + 1, 0, none⟩) } → K a' ((wq.alloc (.cells #[.int .i64 cm.kind, .string cm.topic, .string cm.name, .int .i64 cm.seq, .string cm.key, .string cm.val, .int .i64 cm.n, .int .i64 cm.node, .int .i64 cm.ask] 31)).alloc (.cells #[.int .i64 0, .int .i64 0, .slice none 0 0] 37))) :
    Code.wp Tryz.prog c (Exit.then K fun _ _ _ => False) a wq := by
  have HQ := hide hQ
  clear hQ
  obtain ⟨v0, v1, v3, v4, v5, v6⟩ := v
  simp only at h1v HQ
  subst h1v
  obtain ⟨u, rfl⟩ := frx_ma hF
  clear hF
  simp only [Tryz.f60, Option.getD_some, regOf] at hc
  injection hc with hc
  subst hc
  go_wp2
  exact HQ.out _ ⟨rfl, rfl, rfl, rfl, rfl, rfl, rfl, rfl⟩
theorem ma_ret {W : World} {a : Act} {v : Vma} {rb : Nat} {x y : Int} {ao : Option Addr} {ln cp : Nat} {R : Ending → World → Prop} (hF : Fma a v) (h0 : v.v4 = .pointer (some ⟨rb, 0, none⟩)) (hB : W.heap[rb]? = some (.cells #[.int .i64 x, .int .i64 y, .slice ao ln cp] 37 (0, 0))) (h : R (.returned (.agg #[.int .i64 x, .int .i64 y, .slice ao ln cp])) W) :
    bodyPost Tryz.prog Tryz.f60 R .ret a W := by
  have g0 := slot_get (hF.s4.trans h0)
  have e0 := box_cell hB 0 rfl
  have e1 := box_cell hB 1 rfl
  have e2 := box_cell hB 2 rfl
  refine bodyPost_ret (v := .agg #[.int .i64 x, .int .i64 y, .slice ao ln cp]) ?_ hF.defers h
  simp [results, Tryz.results60, go_sem, g0, e0, e1, e2]
theorem ma_r1 {K : Act → World → Prop} {c : Code} (hc : regOf (Tryz.f60.body.getD .skip) 1 = some c) (a : Act) {v : Vma} {wq : World} {mb zb cb : Nat} {cm : CM} {ss : SB} {ok : Bool} (hF : Fma a v) (h0v : v.v0 = .pointer (some ⟨mb, 0, none⟩)) (h3v : v.v3 = .pointer (some ⟨cb, 0, none⟩)) (hmb : mb < wq.heap.size) (hm : wq.cell? ⟨mb, 11, none⟩ = some (.map (some zb))) (hC : wq.heap[cb]? = some (.cells #[.int .i64 cm.kind, .string cm.topic, .string cm.name, .int .i64 cm.seq, .string cm.key, .string cm.val, .int .i64 cm.n, .int .i64 cm.node, .int .i64 cm.ask] 31 (0, 0))) (hL : ∀ W : World, W.heap[zb]? = wq.heap[zb]? → (Instr.lookup 64 (.map (some zb)) (.string cm.name) true).run Tryz.prog W = .ok (.tuple #[.agg #[.string ss.name, .string ss.top, .int .i64 ss.cur, .int .i64 ss.next], .bool ok]) W) (hzb : zb < wq.heap.size)
    (hQ : ∀ a', Fma a' { v with v5 := .pointer (some ⟨wq.heap.size, 0, none⟩), v6 := .bool ok } → K a' (wq.alloc (.cells #[.string ss.name, .string ss.top, .int .i64 ss.cur, .int .i64 ss.next] 91)).drew) :
    Code.wp Tryz.prog c (Exit.then K fun _ _ _ => False) a wq := by
  have HQ := hide hQ
  clear hQ
  obtain ⟨v0, v1, v3, v4, v5, v6⟩ := v
  simp only at h0v h3v HQ
  subst h0v h3v
  obtain ⟨u, rfl⟩ := frx_ma hF
  clear hF
  simp only [Tryz.f60, Option.getD_some, regOf] at hc
  injection hc with hc
  subst hc
  have hA := (Below.refl wq.heap.size wq).alloc (Nat.le_refl _) (.cells #[.string ⟨#[]⟩, .string ⟨#[]⟩, .int .i64 0, .int .i64 0] 91)
  have hl1 := hL wq.drew rfl
  have hl2 := hL (wq.alloc (.cells #[.string ⟨#[]⟩, .string ⟨#[]⟩, .int .i64 0, .int .i64 0] 91)).drew (hA.block _ hzb)
  have z2 := box_cell hC 2 rfl
  have z2b := (hA.cell (p := ⟨cb, 2, none⟩) (heap_lt hC)).trans z2
  have hmb2 := (hA.cell (p := ⟨mb, 11, none⟩) hmb).trans hm
  clear hC hL hA
  go_region
  all_goals exact HQ.out _ ⟨rfl, rfl, rfl, rfl, rfl, rfl, rfl, rfl⟩
theorem ma_r2 {K : Act → World → Prop} {c : Code} (hc : regOf (Tryz.f60.body.getD .skip) 2 = some c) (a : Act) {v : Vma} {wq : World} {ok : Bool} (hF : Fma a v) (h6v : v.v6 = .bool ok) (hQ : ∀ a', Fma a' v → a'.tmps.getD 18 undef = .bool (!ok) → K a' wq) :
    Code.wp Tryz.prog c (Exit.then K fun _ _ _ => False) a wq := by
  have HQ := hide hQ
  clear hQ
  obtain ⟨v0, v1, v3, v4, v5, v6⟩ := v
  simp only at h6v HQ
  subst h6v
  obtain ⟨u, rfl⟩ := frx_ma hF
  clear hF
  simp only [Tryz.f60, Option.getD_some, regOf] at hc
  injection hc with hc
  subst hc
  go_wp2
  exact HQ.out _ ⟨rfl, rfl, rfl, rfl, rfl, rfl, rfl, rfl⟩ (by first | rfl | (simp; done))
theorem ma_r3 {K : Act → World → Prop} {c : Code} (hc : regOf (Tryz.f60.body.getD .skip) 3 = some c) (a : Act) {v : Vma} {wq : World} {rb : Nat}  (hF : Fma a v) (h4v : v.v4 = .pointer (some ⟨rb, 0, none⟩)) (hR : wq.heap[rb]? = some (.cells #[.int .i64 0, .int .i64 0, .slice none 0 0] 37 (0, 0)))
    (hQ : ∀ a' w1, Fma a' v → Below wq.heap.size wq w1 → K a' (set3 w1 rb (.int .i64 5) (.int .i64 0) (.slice none 0 0))) :
    Code.wp Tryz.prog c (Exit.then K fun _ _ _ => False) a wq := by
  have HQ := hide hQ
  clear hQ
  obtain ⟨v0, v1, v3, v4, v5, v6⟩ := v
  simp only at h4v HQ
  subst h4v
  obtain ⟨u, rfl⟩ := frx_ma hF
  clear hF
  simp only [Tryz.f60, Option.getD_some, regOf] at hc
  injection hc with hc
  subst hc
  have HR := hide hR
  have HE : Hid (Calls Tryz.prog 29 #[.int .i64 5] wq fun e w' => e = .returned (.agg #[.int .i64 5, .int .i64 0, .slice none 0 0]) ∧ Below wq.heap.size wq w') := pcoded 5 wq
  clear hR
  unfold set3 at HQ
  go_wp2_with (go_at_call 29; refine HE.out.mono ?_; rintro e w1 ⟨rfl, b1⟩; have hR2 := Below.at b1 HR.out; have R1 := hide b1; clear b1; have y0 := box_cell hR2 0 rfl; have y1 := box_cell hR2 1 rfl; have y2 := box_cell hR2 2 rfl; have f0 := box_free hR2 0; have f1 := box_free hR2 1; have f2 := box_free hR2 2; clear hR2)
  exact HQ.out _ _ ⟨rfl, rfl, rfl, rfl, rfl, rfl, rfl, rfl⟩ R1.out
theorem ma_r4 {K : Act → World → Prop} {c : Code} (hc : regOf (Tryz.f60.body.getD .skip) 4 = some c) (a : Act) {v : Vma} {wq : World} {rb sb mb : Nat} {ss tt : SB} {x y : Int} {R : World → World → Prop} (hF : Fma a v) (h0v : v.v0 = .pointer (some ⟨mb, 0, none⟩)) (h4v : v.v4 = .pointer (some ⟨rb, 0, none⟩)) (h5v : v.v5 = .pointer (some ⟨sb, 0, none⟩)) (hR : wq.heap[rb]? = some (.cells #[.int .i64 0, .int .i64 0, .slice none 0 0] 37 (0, 0))) (hS : wq.heap[sb]? = some (.cells #[.string ss.name, .string ss.top, .int .i64 ss.cur, .int .i64 ss.next] 91 (0, 0))) (hA : Calls Tryz.prog 107 #[.agg #[.string ss.name, .string ss.top, .int .i64 ss.cur, .int .i64 ss.next]] wq fun e w' => e = .returned (.agg #[.string tt.name, .string tt.top, .int .i64 tt.cur, .int .i64 tt.next]) ∧ Below wq.heap.size wq w') (hK : ∀ W, Below wq.heap.size wq W → Calls Tryz.prog 105 #[.pointer (some ⟨mb, 0, none⟩), .agg #[.string tt.name, .string tt.top, .int .i64 tt.cur, .int .i64 tt.next], .int .i64 0] W fun e w' => e = .returned (.agg #[.int .i64 x, .int .i64 y, .slice none 0 0]) ∧ (w'.heap[rb]? = some (.cells #[.int .i64 0, .int .i64 0, .slice none 0 0] 37 (0, 0)) ∧ R W w'))
    (hQ : ∀ a' W w1, Fma a' v → Below wq.heap.size wq W → R W w1 → K a' (set3 w1 rb (.int .i64 x) (.int .i64 y) (.slice none 0 0))) :
    Code.wp Tryz.prog c (Exit.then K fun _ _ _ => False) a wq := by
  have HQ := hide hQ
  clear hQ
  obtain ⟨v0, v1, v3, v4, v5, v6⟩ := v
  simp only at h0v h4v h5v HQ
  subst h0v h4v h5v
  obtain ⟨u, rfl⟩ := frx_ma hF
  clear hF
  simp only [Tryz.f60, Option.getD_some, regOf] at hc
  injection hc with hc
  subst hc
  have HA := hide hA
  have HK := hide hK
  have HR := hide hR
  have s0c := box_cell hS 0 rfl
  have s1c := box_cell hS 1 rfl
  have s2c := box_cell hS 2 rfl
  have s3c := box_cell hS 3 rfl
  clear hS
  clear hA hK hR
  unfold set3 at HQ
  go_wp2_with (first | (go_at_call 107; refine HA.out.mono ?_; rintro e w1 ⟨rfl, b1⟩; have B1 := hide b1; clear b1) | (go_at_call 105; refine (HK.out _ B1.out).mono ?_; rintro e w2 ⟨rfl, hR2, r1⟩; have R1 := hide r1; clear r1; have y0 := box_cell hR2 0 rfl; have y1 := box_cell hR2 1 rfl; have y2 := box_cell hR2 2 rfl; have f0 := box_free hR2 0; have f1 := box_free hR2 1; have f2 := box_free hR2 2; clear hR2))
  exact HQ.out _ _ _ ⟨rfl, rfl, rfl, rfl, rfl, rfl, rfl, rfl⟩ B1.out R1.out
theorem pmattach {w : World} {L : LM} {X : MS} {c : Nat} (h : MAt w L X) (hk : X.Ok c) (hc : c + 1 ≤ 100000) (cm : CM) (hx : cm.right = true) :
    Calls Tryz.prog 60 #[.pointer (some ⟨L.b, 0, none⟩), .agg #[.int .i64 cm.kind, .string cm.topic, .string cm.name, .int .i64 cm.seq, .string cm.key, .string cm.val, .int .i64 cm.n, .int .i64 cm.node, .int .i64 cm.ask]] w fun e w' => Gave w L (attachM X cm) e w' := by
  have b1 : Below w.heap.size w ((w.alloc (.cells #[.int .i64 cm.kind, .string cm.topic, .string cm.name, .int .i64 cm.seq, .string cm.key, .string cm.val, .int .i64 cm.n, .int .i64 cm.node, .int .i64 cm.ask] 31)).alloc (.cells #[.int .i64 0, .int .i64 0, .slice none 0 0] 37)) := ((Below.refl w.heap.size w).alloc (Nat.le_refl _) _).alloc (by simp) _
  have c1 : ((w.alloc (.cells #[.int .i64 cm.kind, .string cm.topic, .string cm.name, .int .i64 cm.seq, .string cm.key, .string cm.val, .int .i64 cm.n, .int .i64 cm.node, .int .i64 cm.ask] 31)).alloc (.cells #[.int .i64 0, .int .i64 0, .slice none 0 0] 37)).heap[w.heap.size]? = some (.cells #[.int .i64 cm.kind, .string cm.topic, .string cm.name, .int .i64 cm.seq, .string cm.key, .string cm.val, .int .i64 cm.n, .int .i64 cm.node, .int .i64 cm.ask] 31 (0, 0)) := Below.at ((Below.refl _ _).alloc (Nat.le_refl _) _) (heap_alloc_new w _)
  have r1 : ((w.alloc (.cells #[.int .i64 cm.kind, .string cm.topic, .string cm.name, .int .i64 cm.seq, .string cm.key, .string cm.val, .int .i64 cm.n, .int .i64 cm.node, .int .i64 cm.ask] 31)).alloc (.cells #[.int .i64 0, .int .i64 0, .slice none 0 0] 37)).heap[w.heap.size + 1]? = some (.cells #[.int .i64 0, .int .i64 0, .slice none 0 0] 37 (0, 0)) := by
    have := heap_alloc_new (w.alloc (.cells #[.int .i64 cm.kind, .string cm.topic, .string cm.name, .int .i64 cm.seq, .string cm.key, .string cm.val, .int .i64 cm.n, .int .i64 cm.node, .int .i64 cm.ask] 31)) (.cells #[.int .i64 0, .int .i64 0, .slice none 0 0] 37)
    simpa using this
  obtain ⟨sz1, sz2, sz3, sz4⟩ := cm_sizes hx
  have szT : cm.topic.size ≤ maxLen := by unfold maxLen; omega
  have szN : cm.name.size ≤ maxLen := by unfold maxLen; omega
  go_enter Tryz.func60, Tryz.ntmps60
  refine wp_seq (reg_mono (ma_r0 (by kernel_rfl) _ (v := ⟨_, _, _, _, _, _⟩) (cm := cm) ⟨rfl, rfl, rfl, rfl, rfl, rfl, rfl, rfl⟩ rfl ?_))
  intro a0 F0
  try dsimp only at F0
  generalize (w.alloc _).alloc _ = w1 at *
  have h1 := h.below b1
  have l1 := h1.lt.1
  have m1 := h1.cells
  have LS := fun W e => h1.lookS (W := W) e cm.name szN
  have szn : X.sn < maxLen := by have := hk.sn; unfold maxLen; omega
  have rno : ¬ L.own (w.heap.size + 1) := fun e => by have := h.lim _ e; omega
  cases hS : X.S cm.name.data.toList with
  | none =>
    have hE : attachM X cm = (codedM 5, X) := by unfold attachM; rw [hS]
    rw [hE]
    refine wp_seq (reg_mono (ma_r1 (ss := SB.zero) (by kernel_rfl) _ F0 rfl rfl l1 m1.2.2.2.2 c1 (fun W e => by have := LS W e; rw [hS] at this; exact this) h1.lt.2.2 ?_))
    intro a1 F1
    try dsimp only at F1
    have b2 : Below w.heap.size w (w1.alloc (.cells #[.string SB.zero.name, .string SB.zero.top, .int .i64 SB.zero.cur, .int .i64 SB.zero.next] 91)).drew := (b1.alloc b1.size _).drew
    have r2 : (w1.alloc (.cells #[.string SB.zero.name, .string SB.zero.top, .int .i64 SB.zero.cur, .int .i64 SB.zero.next] 91)).drew.heap[w.heap.size + 1]? = _ := Below.at ((Below.refl w1.heap.size w1).alloc (Nat.le_refl _) _) r1
    generalize (w1.alloc _).drew = w2 at *
    refine wp_seq (wp_seq (reg_mono (ma_r2 (by kernel_rfl) _ F1 rfl ?_)))
    intro a2 F2 g2
    refine wp_cond_true g2 ?_
    refine wp_seq (reg_mono (ma_r3 (by kernel_rfl) _ F2 rfl r2 ?_))
    intro a9 w9 F9 b9
    refine wp_ret ?_
    have bb : Below w.heap.size w (set3 w9 (w.heap.size + 1) (.int .i64 5) (.int .i64 0) (.slice none 0 0)) := (b2.trans (b9.mono b2.size)).trans (touch_newX set3_touch (Nat.le_trans b2.size b9.size) (fun k e => by omega))
    exact ma_ret F9 rfl (set3_box (Below.at b9 r2)) (gave0 rfl rfl rfl (h.below bb) (MStep.below bb))
  | some s =>
    refine wp_seq (reg_mono (ma_r1 (ss := s) (by kernel_rfl) _ F0 rfl rfl l1 m1.2.2.2.2 c1 (fun W e => by have := LS W e; rw [hS] at this; exact this) h1.lt.2.2 ?_))
    intro a1 F1
    try dsimp only at F1
    have ba : Below w1.heap.size w1 (w1.alloc (.cells #[.string s.name, .string s.top, .int .i64 s.cur, .int .i64 s.next] 91)).drew := ((Below.refl w1.heap.size w1).alloc (Nat.le_refl _) _).drew
    have b2 : Below w.heap.size w (w1.alloc (.cells #[.string s.name, .string s.top, .int .i64 s.cur, .int .i64 s.next] 91)).drew := b1.trans (ba.mono b1.size)
    have h2 : MAt (w1.alloc (.cells #[.string s.name, .string s.top, .int .i64 s.cur, .int .i64 s.next] 91)).drew L X := h1.below ba
    have c2 := Below.at ba c1
    have r2 := Below.at ba r1
    have s2 : (w1.alloc (.cells #[.string s.name, .string s.top, .int .i64 s.cur, .int .i64 s.next] 91)).drew.heap[w1.heap.size]? = some (.cells #[.string s.name, .string s.top, .int .i64 s.cur, .int .i64 s.next] 91 (0, 0)) := heap_alloc_new w1 _
    obtain ⟨so, sn, st⟩ := hk.subs _ s hS
    refine wp_seq (wp_seq (reg_mono (ma_r2 (by kernel_rfl) _ F1 rfl ?_)))
    intro a2 F2 g2
    refine wp_cond_false g2 (wp_skip ?_)
    show Code.wp _ _ _ _ _
    have l2 := h2.lt.1
    have m2 := h2.cells
    generalize (w1.alloc _).drew = w2 at *
    have hE : attachM X cm = keepM X { s with next := s.cur } 0 := by unfold attachM; rw [hS]
    rw [hE]
    have nsz : s.name.size ≤ maxLen := by have := so.nm; unfold maxLen; omega
    refine wp_seq (reg_mono (ma_r4 (tt := { s with next := s.cur }) (x := (numM 0 s.cur).code) (y := (numM 0 s.cur).n) (R := fun W W2 => ∃ L', MAt W2 L' (keepM X { s with next := s.cur } 0).2 ∧ MStep W W2 L L') (by kernel_rfl) _ F2 rfl rfl rfl r2 s2 (sattach s so) (fun W hW => keep_at (h2.below hW) { s with next := s.cur } nsz 0 szn (Below.at hW r2) rno) ?_))
    rintro a8 W8 w9 F8 b8 ⟨L', h9, st9⟩
    refine wp_ret ?_
    have r9 := st9.touch.at (Below.at b8 r2) rno
    obtain ⟨h5, st5⟩ := h.fin (rb := w.heap.size + 1) b2 (Nat.le_succ _) (heap_lt r2) h9 ((MStep.below b8).trans st9) (set3_touch (x0 := .int .i64 (numM 0 s.cur).code) (x1 := .int .i64 (numM 0 s.cur).n) (x2 := .slice none 0 0))
    exact ma_ret F8 rfl (set3_box r9) (gave0 rfl rfl (num_recs _ _) h5 st5)
theorem frame_mk (t : Array Value) (h : t.size = 28) : ∃ u : Nat → Value, t = List.toArray (u 0 :: u 1 :: u 2 :: u 3 :: u 4 :: u 5 :: u 6 :: u 7 :: u 8 :: u 9 :: u 10 :: u 11 :: u 12 :: u 13 :: u 14 :: u 15 :: u 16 :: u 17 :: u 18 :: u 19 :: u 20 :: u 21 :: u 22 :: u 23 :: u 24 :: u 25 :: u 26 :: u 27 :: []) := by
  refine ⟨fun i => t.getD i undef, ?_⟩
  refine Eq.trans (b := ((List.range 28).map fun i => t.getD i undef).toArray) ?_ rfl
  apply Array.ext
  · simp [h]
  · intro k h1 h2
    simp [Array.getD, h1]
structure Vmk where
  v0 : Value
  v1 : Value
  v3 : Value
  v4 : Value
  v5 : Value
  v6 : Value
structure Fmk (a : Act) (v : Vmk) : Prop where
  size : a.tmps.size = 28
  defers : a.defers = []
  s0 : a.tmps.getD 0 undef = v.v0
  s1 : a.tmps.getD 1 undef = v.v1
  s3 : a.tmps.getD 3 undef = v.v3
  s4 : a.tmps.getD 4 undef = v.v4
  s5 : a.tmps.getD 5 undef = v.v5
  s6 : a.tmps.getD 6 undef = v.v6
theorem frx_mk {a : Act} {v0 v1 v3 v4 v5 v6 : Value} (h : Fmk a ⟨v0, v1, v3, v4, v5, v6⟩) : ∃ u : Nat → Value, a = ⟨List.toArray (v0 :: v1 :: u 2 :: v3 :: v4 :: v5 :: v6 :: u 7 :: u 8 :: u 9 :: u 10 :: u 11 :: u 12 :: u 13 :: u 14 :: u 15 :: u 16 :: u 17 :: u 18 :: u 19 :: u 20 :: u 21 :: u 22 :: u 23 :: u 24 :: u 25 :: u 26 :: u 27 :: []), []⟩ := by
  obtain ⟨t', d'⟩ := a
  obtain ⟨hs, hd, q0, q1, q3, q4, q5, q6⟩ := h
  obtain ⟨u, hu⟩ := frame_mk t' hs
  simp only at hd q0 q1 q3 q4 q5 q6
  subst hu hd
  have e0 : u 0 = v0 := q0
  have e1 : u 1 = v1 := q1
  have e3 : u 3 = v3 := q3
  have e4 : u 4 = v4 := q4
  have e5 : u 5 = v5 := q5
  have e6 : u 6 = v6 := q6
  refine ⟨u, ?_⟩
  rw [e0, e1, e3, e4, e5, e6]
theorem mk_r0 {K : Act → World → Prop} {c : Code} (hc : regOf (Tryz.f62.body.getD .skip) 0 = some c) (a : Act) {v : Vmk} {wq : World} {cm : CM} (hF : Fmk a v) (h1v : v.v1 = .agg #[.int .i64 cm.kind, .string cm.topic, .string cm.name, .int .i64 cm.seq, .string cm.key, .string cm.val, .int .i64 cm.n, .int .i64 cm.node, .int .i64 cm.ask]) (hQ : ∀ a', Fmk a' { v with v3 := .pointer (some ⟨wq.heap.size, 0, none⟩), v4 := .pointer (some ⟨wq.heap.size + 1, 0, none⟩) } → K a' ((wq.alloc (.cells #[.int .i64 cm.kind, .string cm.topic, .string cm.name, .int .i64 cm.seq, .string cm.key, .string cm.val, .int .i64 cm.n, .int .i64 cm.node, .int .i64 cm.ask] 31)).alloc (.cells #[.int .i64 0, .int .i64 0, .slice none 0 0] 37))) :
    Code.wp Tryz.prog c (Exit.then K fun _ _ _ => False) a wq := by
  have HQ := hide hQ
  clear hQ
  obtain ⟨v0, v1, v3, v4, v5, v6⟩ := v
  simp only at h1v HQ
  subst h1v
  obtain ⟨u, rfl⟩ := frx_mk hF
  clear hF
  simp only [Tryz.f62, Option.getD_some, regOf] at hc
  injection hc with hc
  subst hc
  go_wp2
  exact HQ.out _ ⟨rfl, rfl, rfl, rfl, rfl, rfl, rfl, rfl⟩
theorem mk_ret {W : World} {a : Act} {v : Vmk} {rb : Nat} {x y : Int} {ao : Option Addr} {ln cp : Nat} {R : Ending → World → Prop} (hF : Fmk a v) (h0 : v.v4 = .pointer (some ⟨rb, 0, none⟩)) (hB : W.heap[rb]? = some (.cells #[.int .i64 x, .int .i64 y, .slice ao ln cp] 37 (0, 0))) (h : R (.returned (.agg #[.int .i64 x, .int .i64 y, .slice ao ln cp])) W) :
    bodyPost Tryz.prog Tryz.f62 R .ret a W := by
  have g0 := slot_get (hF.s4.trans h0)
  have e0 := box_cell hB 0 rfl
  have e1 := box_cell hB 1 rfl
  have e2 := box_cell hB 2 rfl
  refine bodyPost_ret (v := .agg #[.int .i64 x, .int .i64 y, .slice ao ln cp]) ?_ hF.defers h
  simp [results, Tryz.results62, go_sem, g0, e0, e1, e2]
theorem mk_r1 {K : Act → World → Prop} {c : Code} (hc : regOf (Tryz.f62.body.getD .skip) 1 = some c) (a : Act) {v : Vmk} {wq : World} {mb zb cb : Nat} {cm : CM} {ss : SB} {ok : Bool} (hF : Fmk a v) (h0v : v.v0 = .pointer (some ⟨mb, 0, none⟩)) (h3v : v.v3 = .pointer (some ⟨cb, 0, none⟩)) (hmb : mb < wq.heap.size) (hm : wq.cell? ⟨mb, 11, none⟩ = some (.map (some zb))) (hC : wq.heap[cb]? = some (.cells #[.int .i64 cm.kind, .string cm.topic, .string cm.name, .int .i64 cm.seq, .string cm.key, .string cm.val, .int .i64 cm.n, .int .i64 cm.node, .int .i64 cm.ask] 31 (0, 0))) (hL : ∀ W : World, W.heap[zb]? = wq.heap[zb]? → (Instr.lookup 64 (.map (some zb)) (.string cm.name) true).run Tryz.prog W = .ok (.tuple #[.agg #[.string ss.name, .string ss.top, .int .i64 ss.cur, .int .i64 ss.next], .bool ok]) W) (hzb : zb < wq.heap.size)
    (hQ : ∀ a', Fmk a' { v with v5 := .pointer (some ⟨wq.heap.size, 0, none⟩), v6 := .bool ok } → K a' (wq.alloc (.cells #[.string ss.name, .string ss.top, .int .i64 ss.cur, .int .i64 ss.next] 91)).drew) :
    Code.wp Tryz.prog c (Exit.then K fun _ _ _ => False) a wq := by
  have HQ := hide hQ
  clear hQ
  obtain ⟨v0, v1, v3, v4, v5, v6⟩ := v
  simp only at h0v h3v HQ
  subst h0v h3v
  obtain ⟨u, rfl⟩ := frx_mk hF
  clear hF
  simp only [Tryz.f62, Option.getD_some, regOf] at hc
  injection hc with hc
  subst hc
  have hA := (Below.refl wq.heap.size wq).alloc (Nat.le_refl _) (.cells #[.string ⟨#[]⟩, .string ⟨#[]⟩, .int .i64 0, .int .i64 0] 91)
  have hl1 := hL wq.drew rfl
  have hl2 := hL (wq.alloc (.cells #[.string ⟨#[]⟩, .string ⟨#[]⟩, .int .i64 0, .int .i64 0] 91)).drew (hA.block _ hzb)
  have z2 := box_cell hC 2 rfl
  have z2b := (hA.cell (p := ⟨cb, 2, none⟩) (heap_lt hC)).trans z2
  have hmb2 := (hA.cell (p := ⟨mb, 11, none⟩) hmb).trans hm
  clear hC hL hA
  go_region
  all_goals exact HQ.out _ ⟨rfl, rfl, rfl, rfl, rfl, rfl, rfl, rfl⟩
theorem mk_r2 {K : Act → World → Prop} {c : Code} (hc : regOf (Tryz.f62.body.getD .skip) 2 = some c) (a : Act) {v : Vmk} {wq : World} {ok : Bool} (hF : Fmk a v) (h6v : v.v6 = .bool ok) (hQ : ∀ a', Fmk a' v → a'.tmps.getD 18 undef = .bool (!ok) → K a' wq) :
    Code.wp Tryz.prog c (Exit.then K fun _ _ _ => False) a wq := by
  have HQ := hide hQ
  clear hQ
  obtain ⟨v0, v1, v3, v4, v5, v6⟩ := v
  simp only at h6v HQ
  subst h6v
  obtain ⟨u, rfl⟩ := frx_mk hF
  clear hF
  simp only [Tryz.f62, Option.getD_some, regOf] at hc
  injection hc with hc
  subst hc
  go_wp2
  exact HQ.out _ ⟨rfl, rfl, rfl, rfl, rfl, rfl, rfl, rfl⟩ (by first | rfl | (simp; done))
theorem mk_r3 {K : Act → World → Prop} {c : Code} (hc : regOf (Tryz.f62.body.getD .skip) 3 = some c) (a : Act) {v : Vmk} {wq : World} {rb : Nat}  (hF : Fmk a v) (h4v : v.v4 = .pointer (some ⟨rb, 0, none⟩)) (hR : wq.heap[rb]? = some (.cells #[.int .i64 0, .int .i64 0, .slice none 0 0] 37 (0, 0)))
    (hQ : ∀ a' w1, Fmk a' v → Below wq.heap.size wq w1 → K a' (set3 w1 rb (.int .i64 5) (.int .i64 0) (.slice none 0 0))) :
    Code.wp Tryz.prog c (Exit.then K fun _ _ _ => False) a wq := by
  have HQ := hide hQ
  clear hQ
  obtain ⟨v0, v1, v3, v4, v5, v6⟩ := v
  simp only at h4v HQ
  subst h4v
  obtain ⟨u, rfl⟩ := frx_mk hF
  clear hF
  simp only [Tryz.f62, Option.getD_some, regOf] at hc
  injection hc with hc
  subst hc
  have HR := hide hR
  have HE : Hid (Calls Tryz.prog 29 #[.int .i64 5] wq fun e w' => e = .returned (.agg #[.int .i64 5, .int .i64 0, .slice none 0 0]) ∧ Below wq.heap.size wq w') := pcoded 5 wq
  clear hR
  unfold set3 at HQ
  go_wp2_with (go_at_call 29; refine HE.out.mono ?_; rintro e w1 ⟨rfl, b1⟩; have hR2 := Below.at b1 HR.out; have R1 := hide b1; clear b1; have y0 := box_cell hR2 0 rfl; have y1 := box_cell hR2 1 rfl; have y2 := box_cell hR2 2 rfl; have f0 := box_free hR2 0; have f1 := box_free hR2 1; have f2 := box_free hR2 2; clear hR2)
  exact HQ.out _ _ ⟨rfl, rfl, rfl, rfl, rfl, rfl, rfl, rfl⟩ R1.out
theorem mk_r4 {K : Act → World → Prop} {c : Code} (hc : regOf (Tryz.f62.body.getD .skip) 4 = some c) (a : Act) {v : Vmk} {wq : World} {rb sb mb cb : Nat} {cm : CM} {ss tt : SB} {x y cd : Int} {R : World → World → Prop} (hF : Fmk a v) (h0v : v.v0 = .pointer (some ⟨mb, 0, none⟩)) (h3v : v.v3 = .pointer (some ⟨cb, 0, none⟩)) (h4v : v.v4 = .pointer (some ⟨rb, 0, none⟩)) (h5v : v.v5 = .pointer (some ⟨sb, 0, none⟩)) (hC : wq.heap[cb]? = some (.cells #[.int .i64 cm.kind, .string cm.topic, .string cm.name, .int .i64 cm.seq, .string cm.key, .string cm.val, .int .i64 cm.n, .int .i64 cm.node, .int .i64 cm.ask] 31 (0, 0))) (hR : wq.heap[rb]? = some (.cells #[.int .i64 0, .int .i64 0, .slice none 0 0] 37 (0, 0))) (hS : wq.heap[sb]? = some (.cells #[.string ss.name, .string ss.top, .int .i64 ss.cur, .int .i64 ss.next] 91 (0, 0))) (hA : Calls Tryz.prog 109 #[.agg #[.string ss.name, .string ss.top, .int .i64 ss.cur, .int .i64 ss.next], .int .i64 cm.n] wq fun e w' => e = .returned (.tuple #[.agg #[.string tt.name, .string tt.top, .int .i64 tt.cur, .int .i64 tt.next], .int .i64 cd]) ∧ Below wq.heap.size wq w') (hK : ∀ W, Below wq.heap.size wq W → Calls Tryz.prog 105 #[.pointer (some ⟨mb, 0, none⟩), .agg #[.string tt.name, .string tt.top, .int .i64 tt.cur, .int .i64 tt.next], .int .i64 cd] W fun e w' => e = .returned (.agg #[.int .i64 x, .int .i64 y, .slice none 0 0]) ∧ (w'.heap[rb]? = some (.cells #[.int .i64 0, .int .i64 0, .slice none 0 0] 37 (0, 0)) ∧ R W w'))
    (hQ : ∀ a' W w1, Fmk a' v → Below wq.heap.size wq W → R W w1 → K a' (set3 w1 rb (.int .i64 x) (.int .i64 y) (.slice none 0 0))) :
    Code.wp Tryz.prog c (Exit.then K fun _ _ _ => False) a wq := by
  have HQ := hide hQ
  clear hQ
  obtain ⟨v0, v1, v3, v4, v5, v6⟩ := v
  simp only at h0v h3v h4v h5v HQ
  subst h0v h3v h4v h5v
  obtain ⟨u, rfl⟩ := frx_mk hF
  clear hF
  simp only [Tryz.f62, Option.getD_some, regOf] at hc
  injection hc with hc
  subst hc
  have HA := hide hA
  have HK := hide hK
  have HR := hide hR
  have z6 := box_cell hC 6 rfl
  clear hC
  have s0c := box_cell hS 0 rfl
  have s1c := box_cell hS 1 rfl
  have s2c := box_cell hS 2 rfl
  have s3c := box_cell hS 3 rfl
  clear hS
  clear hA hK hR
  unfold set3 at HQ
  go_wp2_with (first | (go_at_call 109; refine HA.out.mono ?_; rintro e w1 ⟨rfl, b1⟩; have B1 := hide b1; clear b1) | (go_at_call 105; refine (HK.out _ B1.out).mono ?_; rintro e w2 ⟨rfl, hR2, r1⟩; have R1 := hide r1; clear r1; have y0 := box_cell hR2 0 rfl; have y1 := box_cell hR2 1 rfl; have y2 := box_cell hR2 2 rfl; have f0 := box_free hR2 0; have f1 := box_free hR2 1; have f2 := box_free hR2 2; clear hR2))
  exact HQ.out _ _ _ ⟨rfl, rfl, rfl, rfl, rfl, rfl, rfl, rfl⟩ B1.out R1.out
theorem pmack {w : World} {L : LM} {X : MS} {c : Nat} (h : MAt w L X) (hk : X.Ok c) (hc : c + 1 ≤ 100000) (cm : CM) (hx : cm.right = true) :
    Calls Tryz.prog 62 #[.pointer (some ⟨L.b, 0, none⟩), .agg #[.int .i64 cm.kind, .string cm.topic, .string cm.name, .int .i64 cm.seq, .string cm.key, .string cm.val, .int .i64 cm.n, .int .i64 cm.node, .int .i64 cm.ask]] w fun e w' => Gave w L (ackM X cm) e w' := by
  have b1 : Below w.heap.size w ((w.alloc (.cells #[.int .i64 cm.kind, .string cm.topic, .string cm.name, .int .i64 cm.seq, .string cm.key, .string cm.val, .int .i64 cm.n, .int .i64 cm.node, .int .i64 cm.ask] 31)).alloc (.cells #[.int .i64 0, .int .i64 0, .slice none 0 0] 37)) := ((Below.refl w.heap.size w).alloc (Nat.le_refl _) _).alloc (by simp) _
  have c1 : ((w.alloc (.cells #[.int .i64 cm.kind, .string cm.topic, .string cm.name, .int .i64 cm.seq, .string cm.key, .string cm.val, .int .i64 cm.n, .int .i64 cm.node, .int .i64 cm.ask] 31)).alloc (.cells #[.int .i64 0, .int .i64 0, .slice none 0 0] 37)).heap[w.heap.size]? = some (.cells #[.int .i64 cm.kind, .string cm.topic, .string cm.name, .int .i64 cm.seq, .string cm.key, .string cm.val, .int .i64 cm.n, .int .i64 cm.node, .int .i64 cm.ask] 31 (0, 0)) := Below.at ((Below.refl _ _).alloc (Nat.le_refl _) _) (heap_alloc_new w _)
  have r1 : ((w.alloc (.cells #[.int .i64 cm.kind, .string cm.topic, .string cm.name, .int .i64 cm.seq, .string cm.key, .string cm.val, .int .i64 cm.n, .int .i64 cm.node, .int .i64 cm.ask] 31)).alloc (.cells #[.int .i64 0, .int .i64 0, .slice none 0 0] 37)).heap[w.heap.size + 1]? = some (.cells #[.int .i64 0, .int .i64 0, .slice none 0 0] 37 (0, 0)) := by
    have := heap_alloc_new (w.alloc (.cells #[.int .i64 cm.kind, .string cm.topic, .string cm.name, .int .i64 cm.seq, .string cm.key, .string cm.val, .int .i64 cm.n, .int .i64 cm.node, .int .i64 cm.ask] 31)) (.cells #[.int .i64 0, .int .i64 0, .slice none 0 0] 37)
    simpa using this
  obtain ⟨sz1, sz2, sz3, sz4⟩ := cm_sizes hx
  have szT : cm.topic.size ≤ maxLen := by unfold maxLen; omega
  have szN : cm.name.size ≤ maxLen := by unfold maxLen; omega
  go_enter Tryz.func62, Tryz.ntmps62
  refine wp_seq (reg_mono (mk_r0 (by kernel_rfl) _ (v := ⟨_, _, _, _, _, _⟩) (cm := cm) ⟨rfl, rfl, rfl, rfl, rfl, rfl, rfl, rfl⟩ rfl ?_))
  intro a0 F0
  try dsimp only at F0
  generalize (w.alloc _).alloc _ = w1 at *
  have h1 := h.below b1
  have l1 := h1.lt.1
  have m1 := h1.cells
  have LS := fun W e => h1.lookS (W := W) e cm.name szN
  have szn : X.sn < maxLen := by have := hk.sn; unfold maxLen; omega
  have rno : ¬ L.own (w.heap.size + 1) := fun e => by have := h.lim _ e; omega
  cases hS : X.S cm.name.data.toList with
  | none =>
    have hE : ackM X cm = (codedM 5, X) := by unfold ackM; rw [hS]
    rw [hE]
    refine wp_seq (reg_mono (mk_r1 (ss := SB.zero) (by kernel_rfl) _ F0 rfl rfl l1 m1.2.2.2.2 c1 (fun W e => by have := LS W e; rw [hS] at this; exact this) h1.lt.2.2 ?_))
    intro a1 F1
    try dsimp only at F1
    have b2 : Below w.heap.size w (w1.alloc (.cells #[.string SB.zero.name, .string SB.zero.top, .int .i64 SB.zero.cur, .int .i64 SB.zero.next] 91)).drew := (b1.alloc b1.size _).drew
    have r2 : (w1.alloc (.cells #[.string SB.zero.name, .string SB.zero.top, .int .i64 SB.zero.cur, .int .i64 SB.zero.next] 91)).drew.heap[w.heap.size + 1]? = _ := Below.at ((Below.refl w1.heap.size w1).alloc (Nat.le_refl _) _) r1
    generalize (w1.alloc _).drew = w2 at *
    refine wp_seq (wp_seq (reg_mono (mk_r2 (by kernel_rfl) _ F1 rfl ?_)))
    intro a2 F2 g2
    refine wp_cond_true g2 ?_
    refine wp_seq (reg_mono (mk_r3 (by kernel_rfl) _ F2 rfl r2 ?_))
    intro a9 w9 F9 b9
    refine wp_ret ?_
    have bb : Below w.heap.size w (set3 w9 (w.heap.size + 1) (.int .i64 5) (.int .i64 0) (.slice none 0 0)) := (b2.trans (b9.mono b2.size)).trans (touch_newX set3_touch (Nat.le_trans b2.size b9.size) (fun k e => by omega))
    exact mk_ret F9 rfl (set3_box (Below.at b9 r2)) (gave0 rfl rfl rfl (h.below bb) (MStep.below bb))
  | some s =>
    refine wp_seq (reg_mono (mk_r1 (ss := s) (by kernel_rfl) _ F0 rfl rfl l1 m1.2.2.2.2 c1 (fun W e => by have := LS W e; rw [hS] at this; exact this) h1.lt.2.2 ?_))
    intro a1 F1
    try dsimp only at F1
    have ba : Below w1.heap.size w1 (w1.alloc (.cells #[.string s.name, .string s.top, .int .i64 s.cur, .int .i64 s.next] 91)).drew := ((Below.refl w1.heap.size w1).alloc (Nat.le_refl _) _).drew
    have b2 : Below w.heap.size w (w1.alloc (.cells #[.string s.name, .string s.top, .int .i64 s.cur, .int .i64 s.next] 91)).drew := b1.trans (ba.mono b1.size)
    have h2 : MAt (w1.alloc (.cells #[.string s.name, .string s.top, .int .i64 s.cur, .int .i64 s.next] 91)).drew L X := h1.below ba
    have c2 := Below.at ba c1
    have r2 := Below.at ba r1
    have s2 : (w1.alloc (.cells #[.string s.name, .string s.top, .int .i64 s.cur, .int .i64 s.next] 91)).drew.heap[w1.heap.size]? = some (.cells #[.string s.name, .string s.top, .int .i64 s.cur, .int .i64 s.next] 91 (0, 0)) := heap_alloc_new w1 _
    obtain ⟨so, sn, st⟩ := hk.subs _ s hS
    refine wp_seq (wp_seq (reg_mono (mk_r2 (by kernel_rfl) _ F1 rfl ?_)))
    intro a2 F2 g2
    refine wp_cond_false g2 (wp_skip ?_)
    show Code.wp _ _ _ _ _
    have l2 := h2.lt.1
    have m2 := h2.cells
    generalize (w1.alloc _).drew = w2 at *
    have hE : ackM X cm = keepM X (ackF s cm.n).1 (ackF s cm.n).2 := by unfold ackM; rw [hS]
    rw [hE]
    have nsz : (ackF s cm.n).1.name.size ≤ maxLen := by have := so.nm; rw [(ack_name s cm.n).1]; unfold maxLen; omega
    have HA := sackP (w := w2) s so cm.n
    generalize ackF s cm.n = P at *
    refine wp_seq (reg_mono (mk_r4 (tt := P.1) (x := (numM P.2 P.1.cur).code) (y := (numM P.2 P.1.cur).n) (R := fun W W2 => ∃ L', MAt W2 L' (keepM X P.1 P.2).2 ∧ MStep W W2 L L') (by kernel_rfl) _ F2 rfl rfl rfl rfl c2 r2 s2 HA (fun W hW => keep_at (h2.below hW) P.1 nsz P.2 szn (Below.at hW r2) rno) ?_))
    rintro a8 W8 w9 F8 b8 ⟨L', h9, st9⟩
    refine wp_ret ?_
    have r9 := st9.touch.at (Below.at b8 r2) rno
    obtain ⟨h5, st5⟩ := h.fin (rb := w.heap.size + 1) b2 (Nat.le_succ _) (heap_lt r2) h9 ((MStep.below b8).trans st9) (set3_touch (x0 := .int .i64 (numM P.2 P.1.cur).code) (x1 := .int .i64 (numM P.2 P.1.cur).n) (x2 := .slice none 0 0))
    exact mk_ret F8 rfl (set3_box r9) (gave0 rfl rfl (num_recs _ _) h5 st5)
end Go.Proofs.YtlfodldlkchmoaaGreat.Y
