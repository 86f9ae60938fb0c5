/-
  publish, trim, compact, as they run (mkj5.py).
-/
import Derived.Test.YtlfodldlkchmoaaGreatZJ4
import Derived.BigRegion
namespace Go.Proofs.YtlfodldlkchmoaaGreat.Y
open Go.RowKit
set_option maxHeartbeats 8000000
set_option maxRecDepth 100000
attribute [local go_sem ↓] Go.wp_at_zero Go.wp_at_succ
set_option linter.unusedSimpArgs false
set_option linter.unusedVariables false
open Go.Maps
def Gave (w : World) (L : LM) (P : RM × MS) (e : Ending) (w' : World) : Prop :=
  ∃ (ao : Option Addr) (cp : Nat), e = .returned (.agg #[.int .i64 P.1.code, .int .i64 P.1.n, .slice ao P.1.recs.length cp]) ∧ RecsAt w' (.slice ao P.1.recs.length cp) P.1.recs ∧ ∃ L', MAt w' L' P.2 ∧ MStep w w' L L' ∧ ∀ g, (Value.slice ao 0 cp).ownBlock = some g → w.heap.size ≤ g ∧ ¬ L'.own g
theorem rnilM (w : World) : RecsAt w (.slice none 0 0) [] := ⟨none, 0, rfl, by decide, fun i hi => absurd hi (Nat.not_lt_zero i)⟩
theorem gave0 {w w' : World} {L L' : LM} {P : RM × MS} {x y : Int} (hx : P.1.code = x) (hy : P.1.n = y) (hr : P.1.recs = []) (h : MAt w' L' P.2) (s : MStep w w' L L') : Gave w L P (.returned (.agg #[.int .i64 x, .int .i64 y, .slice none 0 0])) w' := by
  subst hx hy
  refine ⟨none, 0, ?_, ?_, L', h, s, fun g hg => by cases hg⟩
  · rw [hr]; rfl
  · rw [hr]; exact rnilM w'
theorem num_recs (c n : Int) : (numM c n).recs = [] := by unfold numM codedM; split <;> rfl
theorem own_of {R : Value → Option (DataW Nat × List MemPlace)} {w w' : World} {k : TypeId} {b n : Nat} {D : DataW Nat} (h : w.ownsMap Tryz.prog k R b n D) (e : w'.heap[b]? = w.heap[b]?) : w'.ownsMap Tryz.prog k R b n D := by
  obtain ⟨es, c, hb, r⟩ := h
  exact ⟨es, c, e.trans hb, r⟩
theorem MAt.lookT {w W : World} {L : LM} {X : MS} (h : MAt w L X) (he : W.heap[L.tb]? = w.heap[L.tb]?) (s : ByteArray) (hs : s.size ≤ maxLen) : (Instr.lookup 63 (.map (some L.tb)) (.string s) true).run Tryz.prog W = .ok (.tuple #[.pointer ((X.T s.data.toList).map fun _ => ⟨(L.loc s.data.toList).b, 0, none⟩), .bool (X.T s.data.toList).isSome]) W := by
  rw [tlook (own_of h.tmap he) h.tfull s hs, h.tget]
  cases X.T s.data.toList <;> rfl
theorem MAt.lookT0 {w W : World} {L : LM} {X : MS} (h : MAt w L X) (he : W.heap[L.tb]? = w.heap[L.tb]?) (s : ByteArray) (hs : s.size ≤ maxLen) : (Instr.lookup 63 (.map (some L.tb)) (.string s) false).run Tryz.prog W = .ok (.pointer ((X.T s.data.toList).map fun _ => ⟨(L.loc s.data.toList).b, 0, none⟩)) W := by
  rw [dlook (own_of h.tmap he) keyedS Tryz.underlying63 Tryz.underlying9 (zeroTop W) s hs, h.tget]
  cases X.T s.data.toList <;> rfl
theorem MAt.lookS {w W : World} {L : LM} {X : MS} (h : MAt w L X) (he : W.heap[L.sb]? = w.heap[L.sb]?) (s : ByteArray) (hs : s.size ≤ maxLen) : (Instr.lookup 64 (.map (some L.sb)) (.string s) true).run Tryz.prog W = .ok (.tuple #[((X.S s.data.toList).getD SB.zero).v, .bool (X.S s.data.toList).isSome]) W := by
  rw [slook (own_of h.smap he) s hs, h.sget]
theorem cm_sizes {x : CM} (h : x.right = true) : x.topic.size ≤ 20 ∧ x.name.size ≤ 20 ∧ x.key.size ≤ 100 ∧ x.val.size ≤ 1000 := ⟨(CM.small h).t, (CM.small h).m, (CM.small h).y, (CM.small h).v⟩
theorem frame_mt (t : Array Value) (h : t.size = 29) : ∃ u : Nat → Value, t = List.toArray (u 0 :: u 1 :: u 2 :: u 3 :: u 4 :: u 5 :: u 6 :: u 7 :: u 8 :: u 9 :: u 10 :: u 11 :: u 12 :: u 13 :: u 14 :: u 15 :: u 16 :: u 17 :: u 18 :: u 19 :: u 20 :: u 21 :: u 22 :: u 23 :: u 24 :: u 25 :: u 26 :: u 27 :: u 28 :: []) := by
  refine ⟨fun i => t.getD i undef, ?_⟩
  refine Eq.trans (b := ((List.range 29).map fun i => t.getD i undef).toArray) ?_ rfl
  apply Array.ext
  · simp [h]
  · intro k h1 h2
    simp [Array.getD, h1]
structure Vmt where
  v0 : Value
  v1 : Value
  v3 : Value
  v4 : Value
  v5 : Value
  v6 : Value
  v7 : Value
structure Fmt (a : Act) (v : Vmt) : Prop where
  size : a.tmps.size = 29
  defers : a.defers = []
  s0 : a.tmps.getD 0 undef = v.v0
  s1 : a.tmps.getD 1 undef = v.v1
  s3 : a.tmps.getD 3 undef = v.v3
  s4 : a.tmps.getD 4 undef = v.v4
  s5 : a.tmps.getD 5 undef = v.v5
  s6 : a.tmps.getD 6 undef = v.v6
  s7 : a.tmps.getD 7 undef = v.v7
theorem frx_mt {a : Act} {v0 v1 v3 v4 v5 v6 v7 : Value} (h : Fmt a ⟨v0, v1, v3, v4, v5, v6, v7⟩) : ∃ u : Nat → Value, a = ⟨List.toArray (v0 :: v1 :: u 2 :: v3 :: v4 :: v5 :: v6 :: v7 :: u 8 :: u 9 :: u 10 :: u 11 :: u 12 :: u 13 :: u 14 :: u 15 :: u 16 :: u 17 :: u 18 :: u 19 :: u 20 :: u 21 :: u 22 :: u 23 :: u 24 :: u 25 :: u 26 :: u 27 :: u 28 :: []), []⟩ := by
  obtain ⟨t', d'⟩ := a
  obtain ⟨hs, hd, q0, q1, q3, q4, q5, q6, q7⟩ := h
  obtain ⟨u, hu⟩ := frame_mt t' hs
  simp only at hd q0 q1 q3 q4 q5 q6 q7
  subst hu hd
  have e0 : u 0 = v0 := q0
  have e1 : u 1 = v1 := q1
  have e3 : u 3 = v3 := q3
  have e4 : u 4 = v4 := q4
  have e5 : u 5 = v5 := q5
  have e6 : u 6 = v6 := q6
  have e7 : u 7 = v7 := q7
  refine ⟨u, ?_⟩
  rw [e0, e1, e3, e4, e5, e6, e7]
theorem mt_r0 {K : Act → World → Prop} {c : Code} (hc : regOf (Tryz.f64.body.getD .skip) 0 = some c) (a : Act) {v : Vmt} {wq : World} {cm : CM} (hF : Fmt a v) (h1v : v.v1 = .agg #[.int .i64 cm.kind, .string cm.topic, .string cm.name, .int .i64 cm.seq, .string cm.key, .string cm.val, .int .i64 cm.n, .int .i64 cm.node, .int .i64 cm.ask]) (hQ : ∀ a', Fmt a' { v with v3 := .pointer (some ⟨wq.heap.size, 0, none⟩), v4 := .pointer (some ⟨wq.heap.size + 1, 0, none⟩) } → K a' ((wq.alloc (.cells #[.int .i64 cm.kind, .string cm.topic, .string cm.name, .int .i64 cm.seq, .string cm.key, .string cm.val, .int .i64 cm.n, .int .i64 cm.node, .int .i64 cm.ask] 31)).alloc (.cells #[.int .i64 0, .int .i64 0, .slice none 0 0] 37))) :
    Code.wp Tryz.prog c (Exit.then K fun _ _ _ => False) a wq := by
  have HQ := hide hQ
  clear hQ
  obtain ⟨v0, v1, v3, v4, v5, v6, v7⟩ := v
  simp only at h1v HQ
  subst h1v
  obtain ⟨u, rfl⟩ := frx_mt hF
  clear hF
  simp only [Tryz.f64, Option.getD_some, regOf] at hc
  injection hc with hc
  subst hc
  go_wp2
  exact HQ.out _ ⟨rfl, rfl, rfl, rfl, rfl, rfl, rfl, rfl, rfl⟩
theorem mt_ret {W : World} {a : Act} {v : Vmt} {rb : Nat} {x y : Int} {ao : Option Addr} {ln cp : Nat} {R : Ending → World → Prop} (hF : Fmt a v) (h0 : v.v4 = .pointer (some ⟨rb, 0, none⟩)) (hB : W.heap[rb]? = some (.cells #[.int .i64 x, .int .i64 y, .slice ao ln cp] 37 (0, 0))) (h : R (.returned (.agg #[.int .i64 x, .int .i64 y, .slice ao ln cp])) W) :
    bodyPost Tryz.prog Tryz.f64 R .ret a W := by
  have g0 := slot_get (hF.s4.trans h0)
  have e0 := box_cell hB 0 rfl
  have e1 := box_cell hB 1 rfl
  have e2 := box_cell hB 2 rfl
  refine bodyPost_ret (v := .agg #[.int .i64 x, .int .i64 y, .slice ao ln cp]) ?_ hF.defers h
  simp [results, Tryz.results64, go_sem, g0, e0, e1, e2]
theorem mt_r1 {K : Act → World → Prop} {c : Code} (hc : regOf (Tryz.f64.body.getD .skip) 1 = some c) (a : Act) {v : Vmt} {wq : World} {mb zb cb : Nat} {cm : CM} {tv : Option Addr} {ok : Bool} (hF : Fmt a v) (h0v : v.v0 = .pointer (some ⟨mb, 0, none⟩)) (h3v : v.v3 = .pointer (some ⟨cb, 0, none⟩)) (hmb : mb < wq.heap.size) (hm : wq.cell? ⟨mb, 10, none⟩ = some (.map (some zb))) (hC : wq.heap[cb]? = some (.cells #[.int .i64 cm.kind, .string cm.topic, .string cm.name, .int .i64 cm.seq, .string cm.key, .string cm.val, .int .i64 cm.n, .int .i64 cm.node, .int .i64 cm.ask] 31 (0, 0))) (hL : (Instr.lookup 63 (.map (some zb)) (.string cm.topic) true).run Tryz.prog wq.drew = .ok (.tuple #[.pointer tv, .bool ok]) wq.drew)
    (hQ : ∀ a', Fmt a' { v with v5 := .pointer tv, v6 := .bool ok } → K a' wq.drew) :
    Code.wp Tryz.prog c (Exit.then K fun _ _ _ => False) a wq := by
  have HQ := hide hQ
  clear hQ
  obtain ⟨v0, v1, v3, v4, v5, v6, v7⟩ := v
  simp only at h0v h3v HQ
  subst h0v h3v
  obtain ⟨u, rfl⟩ := frx_mt hF
  clear hF
  simp only [Tryz.f64, Option.getD_some, regOf] at hc
  injection hc with hc
  subst hc
  have z1 := box_cell hC 1 rfl
  clear hC
  go_region
  all_goals exact HQ.out _ ⟨rfl, rfl, rfl, rfl, rfl, rfl, rfl, rfl, rfl⟩
theorem mt_r2 {K : Act → World → Prop} {c : Code} (hc : regOf (Tryz.f64.body.getD .skip) 2 = some c) (a : Act) {v : Vmt} {wq : World} {ok : Bool} (hF : Fmt a v) (h6v : v.v6 = .bool ok) (hQ : ∀ a', Fmt a' v → a'.tmps.getD 19 undef = .bool (!ok) → K a' wq) :
    Code.wp Tryz.prog c (Exit.then K fun _ _ _ => False) a wq := by
  have HQ := hide hQ
  clear hQ
  obtain ⟨v0, v1, v3, v4, v5, v6, v7⟩ := v
  simp only at h6v HQ
  subst h6v
  obtain ⟨u, rfl⟩ := frx_mt hF
  clear hF
  simp only [Tryz.f64, Option.getD_some, regOf] at hc
  injection hc with hc
  subst hc
  go_wp2
  exact HQ.out _ ⟨rfl, rfl, rfl, rfl, rfl, rfl, rfl, rfl, rfl⟩ (by first | rfl | (simp; done))
theorem mt_r3 {K : Act → World → Prop} {c : Code} (hc : regOf (Tryz.f64.body.getD .skip) 3 = some c) (a : Act) {v : Vmt} {wq : World} {rb : Nat}  (hF : Fmt a v) (h4v : v.v4 = .pointer (some ⟨rb, 0, none⟩)) (hR : wq.heap[rb]? = some (.cells #[.int .i64 0, .int .i64 0, .slice none 0 0] 37 (0, 0)))
    (hQ : ∀ a' w1, Fmt a' v → Below wq.heap.size wq w1 → K a' (set3 w1 rb (.int .i64 5) (.int .i64 0) (.slice none 0 0))) :
    Code.wp Tryz.prog c (Exit.then K fun _ _ _ => False) a wq := by
  have HQ := hide hQ
  clear hQ
  obtain ⟨v0, v1, v3, v4, v5, v6, v7⟩ := v
  simp only at h4v HQ
  subst h4v
  obtain ⟨u, rfl⟩ := frx_mt hF
  clear hF
  simp only [Tryz.f64, Option.getD_some, regOf] at hc
  injection hc with hc
  subst hc
  have HR := hide hR
  have HE : Hid (Calls Tryz.prog 29 #[.int .i64 5] wq fun e w' => e = .returned (.agg #[.int .i64 5, .int .i64 0, .slice none 0 0]) ∧ Below wq.heap.size wq w') := pcoded 5 wq
  clear hR
  unfold set3 at HQ
  go_wp2_with (go_at_call 29; refine HE.out.mono ?_; rintro e w1 ⟨rfl, b1⟩; have hR2 := Below.at b1 HR.out; have R1 := hide b1; clear b1; have y0 := box_cell hR2 0 rfl; have y1 := box_cell hR2 1 rfl; have y2 := box_cell hR2 2 rfl; have f0 := box_free hR2 0; have f1 := box_free hR2 1; have f2 := box_free hR2 2; clear hR2)
  exact HQ.out _ _ ⟨rfl, rfl, rfl, rfl, rfl, rfl, rfl, rfl, rfl⟩ R1.out
theorem mt_r4 {K : Act → World → Prop} {c : Code} (hc : regOf (Tryz.f64.body.getD .skip) 4 = some c) (a : Act) {v : Vmt} {wq : World} {cb xb : Nat} {cm : CM} {x : Int} {R : World → Prop} (hF : Fmt a v) (h3v : v.v3 = .pointer (some ⟨cb, 0, none⟩)) (h5v : v.v5 = .pointer (some ⟨xb, 0, none⟩)) (hC : wq.heap[cb]? = some (.cells #[.int .i64 cm.kind, .string cm.topic, .string cm.name, .int .i64 cm.seq, .string cm.key, .string cm.val, .int .i64 cm.n, .int .i64 cm.node, .int .i64 cm.ask] 31 (0, 0))) (hE : Calls Tryz.prog 111 #[.pointer (some ⟨xb, 0, none⟩), .int .i64 cm.n] wq fun e w' => e = .returned (.int .i64 x) ∧ R w')
    (hQ : ∀ a' w', Fmt a' { v with v7 := .int .i64 x } → R w' → K a' w') :
    Code.wp Tryz.prog c (Exit.then K fun _ _ _ => False) a wq := by
  have HQ := hide hQ
  clear hQ
  obtain ⟨v0, v1, v3, v4, v5, v6, v7⟩ := v
  simp only at h3v h5v HQ
  subst h3v h5v
  obtain ⟨u, rfl⟩ := frx_mt hF
  clear hF
  simp only [Tryz.f64, Option.getD_some, regOf] at hc
  injection hc with hc
  subst hc
  have HE := hide hE
  clear hE
  have z6 := box_cell hC 6 rfl
  clear hC
  go_wp2_with (go_at_call 111; refine HE.out.mono ?_; rintro e w1 ⟨rfl, r1⟩; have R1 := hide r1; clear r1)
  exact HQ.out _ _ ⟨rfl, rfl, rfl, rfl, rfl, rfl, rfl, rfl, rfl⟩ R1.out
theorem mt_r5 {K : Act → World → Prop} {c : Code} (hc : regOf (Tryz.f64.body.getD .skip) 5 = some c) (a : Act) {v : Vmt} {wq : World} {rb xb : Nat} {x lo : Int} (hF : Fmt a v) (h4v : v.v4 = .pointer (some ⟨rb, 0, none⟩)) (h5v : v.v5 = .pointer (some ⟨xb, 0, none⟩)) (h7v : v.v7 = .int .i64 x) (hR : wq.heap[rb]? = some (.cells #[.int .i64 0, .int .i64 0, .slice none 0 0] 37 (0, 0))) (hE : Calls Tryz.prog 38 #[.pointer (some ⟨xb, 0, none⟩)] wq fun e w' => e = .returned (.int .i64 lo) ∧ w' = wq)
    (hQ : ∀ a' w1, Fmt a' v → Below wq.heap.size wq w1 → K a' (set3 w1 rb (.int .i64 (numM x lo).code) (.int .i64 (numM x lo).n) (.slice none 0 0))) :
    Code.wp Tryz.prog c (Exit.then K fun _ _ _ => False) a wq := by
  have HQ := hide hQ
  clear hQ
  obtain ⟨v0, v1, v3, v4, v5, v6, v7⟩ := v
  simp only at h4v h5v h7v HQ
  subst h4v h5v h7v
  obtain ⟨u, rfl⟩ := frx_mt hF
  clear hF
  simp only [Tryz.f64, Option.getD_some, regOf] at hc
  injection hc with hc
  subst hc
  have HR := hide hR
  have HE := hide hE
  have HN : Hid (Calls Tryz.prog 104 #[.int .i64 x, .int .i64 lo] wq fun e w' => e = .returned (.agg #[.int .i64 (numM x lo).code, .int .i64 (numM x lo).n, .slice none 0 0]) ∧ Below wq.heap.size wq w') := pnumbered x lo wq
  clear hR hE
  unfold set3 at HQ
  go_wp2_with (first | (go_at_call 38; refine HE.out.mono ?_; rintro e w1 ⟨rfl, rfl⟩) | (go_at_call 104; refine HN.out.mono ?_; rintro e w1 ⟨rfl, b1⟩; have hR2 := Below.at b1 HR.out; have R1 := hide b1; clear b1; have y0 := box_cell hR2 0 rfl; have y1 := box_cell hR2 1 rfl; have y2 := box_cell hR2 2 rfl; have f0 := box_free hR2 0; have f1 := box_free hR2 1; have f2 := box_free hR2 2; clear hR2))
  exact HQ.out _ _ ⟨rfl, rfl, rfl, rfl, rfl, rfl, rfl, rfl, rfl⟩ R1.out
theorem pmtrim {w : World} {L : LM} {X : MS} {c : Nat} (h : MAt w L X) (hk : X.Ok c) (hc : c + 1 ≤ 100000) (cm : CM) (hx : cm.right = true) :
    Calls Tryz.prog 64 #[.pointer (some ⟨L.b, 0, none⟩), .agg #[.int .i64 cm.kind, .string cm.topic, .string cm.name, .int .i64 cm.seq, .string cm.key, .string cm.val, .int .i64 cm.n, .int .i64 cm.node, .int .i64 cm.ask]] w fun e w' => Gave w L (trimM X cm) e w' := by
  have b1 : Below w.heap.size w ((w.alloc (.cells #[.int .i64 cm.kind, .string cm.topic, .string cm.name, .int .i64 cm.seq, .string cm.key, .string cm.val, .int .i64 cm.n, .int .i64 cm.node, .int .i64 cm.ask] 31)).alloc (.cells #[.int .i64 0, .int .i64 0, .slice none 0 0] 37)) := ((Below.refl w.heap.size w).alloc (Nat.le_refl _) _).alloc (by simp) _
  have c1 : ((w.alloc (.cells #[.int .i64 cm.kind, .string cm.topic, .string cm.name, .int .i64 cm.seq, .string cm.key, .string cm.val, .int .i64 cm.n, .int .i64 cm.node, .int .i64 cm.ask] 31)).alloc (.cells #[.int .i64 0, .int .i64 0, .slice none 0 0] 37)).heap[w.heap.size]? = some (.cells #[.int .i64 cm.kind, .string cm.topic, .string cm.name, .int .i64 cm.seq, .string cm.key, .string cm.val, .int .i64 cm.n, .int .i64 cm.node, .int .i64 cm.ask] 31 (0, 0)) := Below.at ((Below.refl _ _).alloc (Nat.le_refl _) _) (heap_alloc_new w _)
  have r1 : ((w.alloc (.cells #[.int .i64 cm.kind, .string cm.topic, .string cm.name, .int .i64 cm.seq, .string cm.key, .string cm.val, .int .i64 cm.n, .int .i64 cm.node, .int .i64 cm.ask] 31)).alloc (.cells #[.int .i64 0, .int .i64 0, .slice none 0 0] 37)).heap[w.heap.size + 1]? = some (.cells #[.int .i64 0, .int .i64 0, .slice none 0 0] 37 (0, 0)) := by
    have := heap_alloc_new (w.alloc (.cells #[.int .i64 cm.kind, .string cm.topic, .string cm.name, .int .i64 cm.seq, .string cm.key, .string cm.val, .int .i64 cm.n, .int .i64 cm.node, .int .i64 cm.ask] 31)) (.cells #[.int .i64 0, .int .i64 0, .slice none 0 0] 37)
    simpa using this
  obtain ⟨sz1, sz2, sz3, sz4⟩ := cm_sizes hx
  have szT : cm.topic.size ≤ maxLen := by unfold maxLen; omega
  have szN : cm.name.size ≤ maxLen := by unfold maxLen; omega
  go_enter Tryz.func64, Tryz.ntmps64
  refine wp_seq (reg_mono (mt_r0 (by kernel_rfl) _ (v := ⟨_, _, _, _, _, _, _⟩) (cm := cm) ⟨rfl, rfl, rfl, rfl, rfl, rfl, rfl, rfl, rfl⟩ rfl ?_))
  intro a0 F0
  try dsimp only at F0
  generalize (w.alloc _).alloc _ = w1 at *
  have h1 := h.below b1
  have l1 := h1.lt.1
  have m1 := h1.cells
  have LT := h1.lookT (W := w1.drew) rfl cm.topic szT
  cases hT : X.T cm.topic.data.toList with
  | none =>
    rw [hT] at LT
    have hE : trimM X cm = (codedM 5, X) := by unfold trimM; rw [hT]
    rw [hE]
    refine wp_seq (reg_mono (mt_r1 (by kernel_rfl) _ F0 rfl rfl l1 m1.2.2.2.1 c1 LT ?_))
    intro a1 F1
    try dsimp only at F1
    have b2 : Below w.heap.size w w1.drew := b1.drew
    refine wp_seq (wp_seq (reg_mono (mt_r2 (by kernel_rfl) _ F1 rfl ?_)))
    intro a2 F2 g2
    refine wp_cond_true g2 ?_
    refine wp_seq (reg_mono (mt_r3 (by kernel_rfl) _ F2 rfl r1 ?_))
    intro a9 w9 F9 b9
    refine wp_ret ?_
    have bb : Below w.heap.size w (set3 w9 (w.heap.size + 1) (.int .i64 5) (.int .i64 0) (.slice none 0 0)) := (b2.trans (b9.mono b2.size)).trans (touch_newX set3_touch (Nat.le_trans b2.size b9.size) (fun k e => by omega))
    exact mt_ret F9 rfl (set3_box (Below.at b9 r1)) (gave0 rfl rfl rfl (h.below bb) (MStep.below bb))
  | some H =>
    rw [hT] at LT
    refine wp_seq (reg_mono (mt_r1 (by kernel_rfl) _ F0 rfl rfl l1 m1.2.2.2.1 c1 LT ?_))
    intro a1 F1
    try dsimp only at F1
    have b2 : Below w.heap.size w w1.drew := b1.drew
    have h2 : MAt w1.drew L X := h1.below ⟨rfl, rfl, rfl, Nat.le_refl _, fun _ _ => rfl⟩
    have tA := h2.top _ H hT
    obtain ⟨tk, tn⟩ := hk.tops _ H hT
    refine wp_seq (wp_seq (reg_mono (mt_r2 (by kernel_rfl) _ F1 rfl ?_)))
    intro a2 F2 g2
    refine wp_cond_false g2 (wp_skip ?_)
    show Code.wp _ _ _ _ _
    have c2 : w1.drew.heap[w.heap.size]? = _ := c1
    have r2 : w1.drew.heap[w.heap.size + 1]? = _ := r1
    generalize w1.drew = w2 at *
    have hE : trimM X cm = (numM (trimF H cm.n).1 ((trimF H cm.n).2.low : Int), X.putT cm.topic.data.toList (trimF H cm.n).2) := by unfold trimM; rw [hT]
    rw [hE]
    refine wp_seq (reg_mono (mt_r4 (R := fun W => ∃ T, TAt W T (trimF H cm.n).2 ∧ TStep w2 W (L.loc cm.topic.data.toList) T) (by kernel_rfl) _ F2 rfl rfl c2 (ttrim tA tk cm.n) ?_))
    rintro a4 w3 F4 ⟨T, t3, s3⟩
    try dsimp only at F4
    obtain ⟨h3, st3⟩ := h2.topped hT s3 t3
    have hb3 : T.b = (L.loc cm.topic.data.toList).b := s3.b
    have rn : ∀ k, (L.loc cm.topic.data.toList).own k → k < w.heap.size := fun k e => h.lim k (by rw [h.rt _ H hT k e]; exact fun e => by cases e)
    have r3 := s3.touch.at r2 (fun e => by have := rn _ e; omega)
    have LO := tlow t3
    rw [hb3] at LO
    refine wp_seq (reg_mono (mt_r5 (by kernel_rfl) _ F4 rfl rfl rfl r3 LO ?_))
    intro a5 w5 F5 b5
    refine wp_ret ?_
    obtain ⟨h5, st5⟩ := h.fin (rb := w.heap.size + 1) b2 (Nat.le_succ _) (heap_lt r2) (h3.below b5) (st3.then b5) (set3_touch (x0 := .int .i64 (numM (trimF H cm.n).1 ((trimF H cm.n).2.low : Int)).code) (x1 := .int .i64 (numM (trimF H cm.n).1 ((trimF H cm.n).2.low : Int)).n) (x2 := .slice none 0 0))
    exact mt_ret F5 rfl (set3_box (Below.at b5 r3)) (gave0 rfl rfl (num_recs _ _) h5 st5)
theorem frame_mc (t : Array Value) (h : t.size = 29) : ∃ u : Nat → Value, t = List.toArray (u 0 :: u 1 :: u 2 :: u 3 :: u 4 :: u 5 :: u 6 :: u 7 :: u 8 :: u 9 :: u 10 :: u 11 :: u 12 :: u 13 :: u 14 :: u 15 :: u 16 :: u 17 :: u 18 :: u 19 :: u 20 :: u 21 :: u 22 :: u 23 :: u 24 :: u 25 :: u 26 :: u 27 :: u 28 :: []) := by
  refine ⟨fun i => t.getD i undef, ?_⟩
  refine Eq.trans (b := ((List.range 29).map fun i => t.getD i undef).toArray) ?_ rfl
  apply Array.ext
  · simp [h]
  · intro k h1 h2
    simp [Array.getD, h1]
structure Vmc where
  v0 : Value
  v1 : Value
  v3 : Value
  v4 : Value
  v5 : Value
  v6 : Value
  v7 : Value
structure Fmc (a : Act) (v : Vmc) : Prop where
  size : a.tmps.size = 29
  defers : a.defers = []
  s0 : a.tmps.getD 0 undef = v.v0
  s1 : a.tmps.getD 1 undef = v.v1
  s3 : a.tmps.getD 3 undef = v.v3
  s4 : a.tmps.getD 4 undef = v.v4
  s5 : a.tmps.getD 5 undef = v.v5
  s6 : a.tmps.getD 6 undef = v.v6
  s7 : a.tmps.getD 7 undef = v.v7
theorem frx_mc {a : Act} {v0 v1 v3 v4 v5 v6 v7 : Value} (h : Fmc a ⟨v0, v1, v3, v4, v5, v6, v7⟩) : ∃ u : Nat → Value, a = ⟨List.toArray (v0 :: v1 :: u 2 :: v3 :: v4 :: v5 :: v6 :: v7 :: u 8 :: u 9 :: u 10 :: u 11 :: u 12 :: u 13 :: u 14 :: u 15 :: u 16 :: u 17 :: u 18 :: u 19 :: u 20 :: u 21 :: u 22 :: u 23 :: u 24 :: u 25 :: u 26 :: u 27 :: u 28 :: []), []⟩ := by
  obtain ⟨t', d'⟩ := a
  obtain ⟨hs, hd, q0, q1, q3, q4, q5, q6, q7⟩ := h
  obtain ⟨u, hu⟩ := frame_mc t' hs
  simp only at hd q0 q1 q3 q4 q5 q6 q7
  subst hu hd
  have e0 : u 0 = v0 := q0
  have e1 : u 1 = v1 := q1
  have e3 : u 3 = v3 := q3
  have e4 : u 4 = v4 := q4
  have e5 : u 5 = v5 := q5
  have e6 : u 6 = v6 := q6
  have e7 : u 7 = v7 := q7
  refine ⟨u, ?_⟩
  rw [e0, e1, e3, e4, e5, e6, e7]
theorem mc_r0 {K : Act → World → Prop} {c : Code} (hc : regOf (Tryz.f65.body.getD .skip) 0 = some c) (a : Act) {v : Vmc} {wq : World} {cm : CM} (hF : Fmc a v) (h1v : v.v1 = .agg #[.int .i64 cm.kind, .string cm.topic, .string cm.name, .int .i64 cm.seq, .string cm.key, .string cm.val, .int .i64 cm.n, .int .i64 cm.node, .int .i64 cm.ask]) (hQ : ∀ a', Fmc a' { v with v3 := .pointer (some ⟨wq.heap.size, 0, none⟩), v4 := .pointer (some ⟨wq.heap.size + 1, 0, none⟩) } → K a' ((wq.alloc (.cells #[.int .i64 cm.kind, .string cm.topic, .string cm.name, .int .i64 cm.seq, .string cm.key, .string cm.val, .int .i64 cm.n, .int .i64 cm.node, .int .i64 cm.ask] 31)).alloc (.cells #[.int .i64 0, .int .i64 0, .slice none 0 0] 37))) :
    Code.wp Tryz.prog c (Exit.then K fun _ _ _ => False) a wq := by
  have HQ := hide hQ
  clear hQ
  obtain ⟨v0, v1, v3, v4, v5, v6, v7⟩ := v
  simp only at h1v HQ
  subst h1v
  obtain ⟨u, rfl⟩ := frx_mc hF
  clear hF
  simp only [Tryz.f65, Option.getD_some, regOf] at hc
  injection hc with hc
  subst hc
  go_wp2
  exact HQ.out _ ⟨rfl, rfl, rfl, rfl, rfl, rfl, rfl, rfl, rfl⟩
theorem mc_ret {W : World} {a : Act} {v : Vmc} {rb : Nat} {x y : Int} {ao : Option Addr} {ln cp : Nat} {R : Ending → World → Prop} (hF : Fmc a v) (h0 : v.v4 = .pointer (some ⟨rb, 0, none⟩)) (hB : W.heap[rb]? = some (.cells #[.int .i64 x, .int .i64 y, .slice ao ln cp] 37 (0, 0))) (h : R (.returned (.agg #[.int .i64 x, .int .i64 y, .slice ao ln cp])) W) :
    bodyPost Tryz.prog Tryz.f65 R .ret a W := by
  have g0 := slot_get (hF.s4.trans h0)
  have e0 := box_cell hB 0 rfl
  have e1 := box_cell hB 1 rfl
  have e2 := box_cell hB 2 rfl
  refine bodyPost_ret (v := .agg #[.int .i64 x, .int .i64 y, .slice ao ln cp]) ?_ hF.defers h
  simp [results, Tryz.results65, go_sem, g0, e0, e1, e2]
theorem mc_r1 {K : Act → World → Prop} {c : Code} (hc : regOf (Tryz.f65.body.getD .skip) 1 = some c) (a : Act) {v : Vmc} {wq : World} {mb zb cb : Nat} {cm : CM} {tv : Option Addr} {ok : Bool} (hF : Fmc a v) (h0v : v.v0 = .pointer (some ⟨mb, 0, none⟩)) (h3v : v.v3 = .pointer (some ⟨cb, 0, none⟩)) (hmb : mb < wq.heap.size) (hm : wq.cell? ⟨mb, 10, none⟩ = some (.map (some zb))) (hC : wq.heap[cb]? = some (.cells #[.int .i64 cm.kind, .string cm.topic, .string cm.name, .int .i64 cm.seq, .string cm.key, .string cm.val, .int .i64 cm.n, .int .i64 cm.node, .int .i64 cm.ask] 31 (0, 0))) (hL : (Instr.lookup 63 (.map (some zb)) (.string cm.topic) true).run Tryz.prog wq.drew = .ok (.tuple #[.pointer tv, .bool ok]) wq.drew)
    (hQ : ∀ a', Fmc a' { v with v5 := .pointer tv, v6 := .bool ok } → K a' wq.drew) :
    Code.wp Tryz.prog c (Exit.then K fun _ _ _ => False) a wq := by
  have HQ := hide hQ
  clear hQ
  obtain ⟨v0, v1, v3, v4, v5, v6, v7⟩ := v
  simp only at h0v h3v HQ
  subst h0v h3v
  obtain ⟨u, rfl⟩ := frx_mc hF
  clear hF
  simp only [Tryz.f65, Option.getD_some, regOf] at hc
  injection hc with hc
  subst hc
  have z1 := box_cell hC 1 rfl
  clear hC
  go_region
  all_goals exact HQ.out _ ⟨rfl, rfl, rfl, rfl, rfl, rfl, rfl, rfl, rfl⟩
theorem mc_r2 {K : Act → World → Prop} {c : Code} (hc : regOf (Tryz.f65.body.getD .skip) 2 = some c) (a : Act) {v : Vmc} {wq : World} {ok : Bool} (hF : Fmc a v) (h6v : v.v6 = .bool ok) (hQ : ∀ a', Fmc a' v → a'.tmps.getD 19 undef = .bool (!ok) → K a' wq) :
    Code.wp Tryz.prog c (Exit.then K fun _ _ _ => False) a wq := by
  have HQ := hide hQ
  clear hQ
  obtain ⟨v0, v1, v3, v4, v5, v6, v7⟩ := v
  simp only at h6v HQ
  subst h6v
  obtain ⟨u, rfl⟩ := frx_mc hF
  clear hF
  simp only [Tryz.f65, Option.getD_some, regOf] at hc
  injection hc with hc
  subst hc
  go_wp2
  exact HQ.out _ ⟨rfl, rfl, rfl, rfl, rfl, rfl, rfl, rfl, rfl⟩ (by first | rfl | (simp; done))
theorem mc_r3 {K : Act → World → Prop} {c : Code} (hc : regOf (Tryz.f65.body.getD .skip) 3 = some c) (a : Act) {v : Vmc} {wq : World} {rb : Nat}  (hF : Fmc a v) (h4v : v.v4 = .pointer (some ⟨rb, 0, none⟩)) (hR : wq.heap[rb]? = some (.cells #[.int .i64 0, .int .i64 0, .slice none 0 0] 37 (0, 0)))
    (hQ : ∀ a' w1, Fmc a' v → Below wq.heap.size wq w1 → K a' (set3 w1 rb (.int .i64 5) (.int .i64 0) (.slice none 0 0))) :
    Code.wp Tryz.prog c (Exit.then K fun _ _ _ => False) a wq := by
  have HQ := hide hQ
  clear hQ
  obtain ⟨v0, v1, v3, v4, v5, v6, v7⟩ := v
  simp only at h4v HQ
  subst h4v
  obtain ⟨u, rfl⟩ := frx_mc hF
  clear hF
  simp only [Tryz.f65, Option.getD_some, regOf] at hc
  injection hc with hc
  subst hc
  have HR := hide hR
  have HE : Hid (Calls Tryz.prog 29 #[.int .i64 5] wq fun e w' => e = .returned (.agg #[.int .i64 5, .int .i64 0, .slice none 0 0]) ∧ Below wq.heap.size wq w') := pcoded 5 wq
  clear hR
  unfold set3 at HQ
  go_wp2_with (go_at_call 29; refine HE.out.mono ?_; rintro e w1 ⟨rfl, b1⟩; have hR2 := Below.at b1 HR.out; have R1 := hide b1; clear b1; have y0 := box_cell hR2 0 rfl; have y1 := box_cell hR2 1 rfl; have y2 := box_cell hR2 2 rfl; have f0 := box_free hR2 0; have f1 := box_free hR2 1; have f2 := box_free hR2 2; clear hR2)
  exact HQ.out _ _ ⟨rfl, rfl, rfl, rfl, rfl, rfl, rfl, rfl, rfl⟩ R1.out
theorem mc_r4 {K : Act → World → Prop} {c : Code} (hc : regOf (Tryz.f65.body.getD .skip) 4 = some c) (a : Act) {v : Vmc} {wq : World} {cb xb : Nat} {cm : CM} {x : Int} {R : World → Prop} (hF : Fmc a v) (h3v : v.v3 = .pointer (some ⟨cb, 0, none⟩)) (h5v : v.v5 = .pointer (some ⟨xb, 0, none⟩)) (hC : wq.heap[cb]? = some (.cells #[.int .i64 cm.kind, .string cm.topic, .string cm.name, .int .i64 cm.seq, .string cm.key, .string cm.val, .int .i64 cm.n, .int .i64 cm.node, .int .i64 cm.ask] 31 (0, 0))) (hE : Calls Tryz.prog 112 #[.pointer (some ⟨xb, 0, none⟩), .int .i64 cm.n] wq fun e w' => e = .returned (.int .i64 x) ∧ R w')
    (hQ : ∀ a' w', Fmc a' { v with v7 := .int .i64 x } → R w' → K a' w') :
    Code.wp Tryz.prog c (Exit.then K fun _ _ _ => False) a wq := by
  have HQ := hide hQ
  clear hQ
  obtain ⟨v0, v1, v3, v4, v5, v6, v7⟩ := v
  simp only at h3v h5v HQ
  subst h3v h5v
  obtain ⟨u, rfl⟩ := frx_mc hF
  clear hF
  simp only [Tryz.f65, Option.getD_some, regOf] at hc
  injection hc with hc
  subst hc
  have HE := hide hE
  clear hE
  have z6 := box_cell hC 6 rfl
  clear hC
  go_wp2_with (go_at_call 112; refine HE.out.mono ?_; rintro e w1 ⟨rfl, r1⟩; have R1 := hide r1; clear r1)
  exact HQ.out _ _ ⟨rfl, rfl, rfl, rfl, rfl, rfl, rfl, rfl, rfl⟩ R1.out
theorem mc_r5 {K : Act → World → Prop} {c : Code} (hc : regOf (Tryz.f65.body.getD .skip) 5 = some c) (a : Act) {v : Vmc} {wq : World} {rb xb : Nat} {x lo : Int} (hF : Fmc a v) (h4v : v.v4 = .pointer (some ⟨rb, 0, none⟩)) (h5v : v.v5 = .pointer (some ⟨xb, 0, none⟩)) (h7v : v.v7 = .int .i64 x) (hR : wq.heap[rb]? = some (.cells #[.int .i64 0, .int .i64 0, .slice none 0 0] 37 (0, 0))) (hE : Calls Tryz.prog 38 #[.pointer (some ⟨xb, 0, none⟩)] wq fun e w' => e = .returned (.int .i64 lo) ∧ w' = wq)
    (hQ : ∀ a' w1, Fmc a' v → Below wq.heap.size wq w1 → K a' (set3 w1 rb (.int .i64 (numM x lo).code) (.int .i64 (numM x lo).n) (.slice none 0 0))) :
    Code.wp Tryz.prog c (Exit.then K fun _ _ _ => False) a wq := by
  have HQ := hide hQ
  clear hQ
  obtain ⟨v0, v1, v3, v4, v5, v6, v7⟩ := v
  simp only at h4v h5v h7v HQ
  subst h4v h5v h7v
  obtain ⟨u, rfl⟩ := frx_mc hF
  clear hF
  simp only [Tryz.f65, Option.getD_some, regOf] at hc
  injection hc with hc
  subst hc
  have HR := hide hR
  have HE := hide hE
  have HN : Hid (Calls Tryz.prog 104 #[.int .i64 x, .int .i64 lo] wq fun e w' => e = .returned (.agg #[.int .i64 (numM x lo).code, .int .i64 (numM x lo).n, .slice none 0 0]) ∧ Below wq.heap.size wq w') := pnumbered x lo wq
  clear hR hE
  unfold set3 at HQ
  go_wp2_with (first | (go_at_call 38; refine HE.out.mono ?_; rintro e w1 ⟨rfl, rfl⟩) | (go_at_call 104; refine HN.out.mono ?_; rintro e w1 ⟨rfl, b1⟩; have hR2 := Below.at b1 HR.out; have R1 := hide b1; clear b1; have y0 := box_cell hR2 0 rfl; have y1 := box_cell hR2 1 rfl; have y2 := box_cell hR2 2 rfl; have f0 := box_free hR2 0; have f1 := box_free hR2 1; have f2 := box_free hR2 2; clear hR2))
  exact HQ.out _ _ ⟨rfl, rfl, rfl, rfl, rfl, rfl, rfl, rfl, rfl⟩ R1.out
theorem pmcompact {w : World} {L : LM} {X : MS} {c : Nat} (h : MAt w L X) (hk : X.Ok c) (hc : c + 1 ≤ 100000) (cm : CM) (hx : cm.right = true) :
    Calls Tryz.prog 65 #[.pointer (some ⟨L.b, 0, none⟩), .agg #[.int .i64 cm.kind, .string cm.topic, .string cm.name, .int .i64 cm.seq, .string cm.key, .string cm.val, .int .i64 cm.n, .int .i64 cm.node, .int .i64 cm.ask]] w fun e w' => Gave w L (compactM X cm) e w' := by
  have b1 : Below w.heap.size w ((w.alloc (.cells #[.int .i64 cm.kind, .string cm.topic, .string cm.name, .int .i64 cm.seq, .string cm.key, .string cm.val, .int .i64 cm.n, .int .i64 cm.node, .int .i64 cm.ask] 31)).alloc (.cells #[.int .i64 0, .int .i64 0, .slice none 0 0] 37)) := ((Below.refl w.heap.size w).alloc (Nat.le_refl _) _).alloc (by simp) _
  have c1 : ((w.alloc (.cells #[.int .i64 cm.kind, .string cm.topic, .string cm.name, .int .i64 cm.seq, .string cm.key, .string cm.val, .int .i64 cm.n, .int .i64 cm.node, .int .i64 cm.ask] 31)).alloc (.cells #[.int .i64 0, .int .i64 0, .slice none 0 0] 37)).heap[w.heap.size]? = some (.cells #[.int .i64 cm.kind, .string cm.topic, .string cm.name, .int .i64 cm.seq, .string cm.key, .string cm.val, .int .i64 cm.n, .int .i64 cm.node, .int .i64 cm.ask] 31 (0, 0)) := Below.at ((Below.refl _ _).alloc (Nat.le_refl _) _) (heap_alloc_new w _)
  have r1 : ((w.alloc (.cells #[.int .i64 cm.kind, .string cm.topic, .string cm.name, .int .i64 cm.seq, .string cm.key, .string cm.val, .int .i64 cm.n, .int .i64 cm.node, .int .i64 cm.ask] 31)).alloc (.cells #[.int .i64 0, .int .i64 0, .slice none 0 0] 37)).heap[w.heap.size + 1]? = some (.cells #[.int .i64 0, .int .i64 0, .slice none 0 0] 37 (0, 0)) := by
    have := heap_alloc_new (w.alloc (.cells #[.int .i64 cm.kind, .string cm.topic, .string cm.name, .int .i64 cm.seq, .string cm.key, .string cm.val, .int .i64 cm.n, .int .i64 cm.node, .int .i64 cm.ask] 31)) (.cells #[.int .i64 0, .int .i64 0, .slice none 0 0] 37)
    simpa using this
  obtain ⟨sz1, sz2, sz3, sz4⟩ := cm_sizes hx
  have szT : cm.topic.size ≤ maxLen := by unfold maxLen; omega
  have szN : cm.name.size ≤ maxLen := by unfold maxLen; omega
  go_enter Tryz.func65, Tryz.ntmps65
  refine wp_seq (reg_mono (mc_r0 (by kernel_rfl) _ (v := ⟨_, _, _, _, _, _, _⟩) (cm := cm) ⟨rfl, rfl, rfl, rfl, rfl, rfl, rfl, rfl, rfl⟩ rfl ?_))
  intro a0 F0
  try dsimp only at F0
  generalize (w.alloc _).alloc _ = w1 at *
  have h1 := h.below b1
  have l1 := h1.lt.1
  have m1 := h1.cells
  have LT := h1.lookT (W := w1.drew) rfl cm.topic szT
  cases hT : X.T cm.topic.data.toList with
  | none =>
    rw [hT] at LT
    have hE : compactM X cm = (codedM 5, X) := by unfold compactM; rw [hT]
    rw [hE]
    refine wp_seq (reg_mono (mc_r1 (by kernel_rfl) _ F0 rfl rfl l1 m1.2.2.2.1 c1 LT ?_))
    intro a1 F1
    try dsimp only at F1
    have b2 : Below w.heap.size w w1.drew := b1.drew
    refine wp_seq (wp_seq (reg_mono (mc_r2 (by kernel_rfl) _ F1 rfl ?_)))
    intro a2 F2 g2
    refine wp_cond_true g2 ?_
    refine wp_seq (reg_mono (mc_r3 (by kernel_rfl) _ F2 rfl r1 ?_))
    intro a9 w9 F9 b9
    refine wp_ret ?_
    have bb : Below w.heap.size w (set3 w9 (w.heap.size + 1) (.int .i64 5) (.int .i64 0) (.slice none 0 0)) := (b2.trans (b9.mono b2.size)).trans (touch_newX set3_touch (Nat.le_trans b2.size b9.size) (fun k e => by omega))
    exact mc_ret F9 rfl (set3_box (Below.at b9 r1)) (gave0 rfl rfl rfl (h.below bb) (MStep.below bb))
  | some H =>
    rw [hT] at LT
    refine wp_seq (reg_mono (mc_r1 (by kernel_rfl) _ F0 rfl rfl l1 m1.2.2.2.1 c1 LT ?_))
    intro a1 F1
    try dsimp only at F1
    have b2 : Below w.heap.size w w1.drew := b1.drew
    have h2 : MAt w1.drew L X := h1.below ⟨rfl, rfl, rfl, Nat.le_refl _, fun _ _ => rfl⟩
    have tA := h2.top _ H hT
    obtain ⟨tk, tn⟩ := hk.tops _ H hT
    refine wp_seq (wp_seq (reg_mono (mc_r2 (by kernel_rfl) _ F1 rfl ?_)))
    intro a2 F2 g2
    refine wp_cond_false g2 (wp_skip ?_)
    show Code.wp _ _ _ _ _
    have c2 : w1.drew.heap[w.heap.size]? = _ := c1
    have r2 : w1.drew.heap[w.heap.size + 1]? = _ := r1
    generalize w1.drew = w2 at *
    have hE : compactM X cm = (numM 0 ((compF H cm.n).low : Int), X.putT cm.topic.data.toList (compF H cm.n)) := by unfold compactM; rw [hT]
    rw [hE]
    refine wp_seq (reg_mono (mc_r4 (R := fun W => ∃ T, TAt W T (compF H cm.n) ∧ TStep w2 W (L.loc cm.topic.data.toList) T) (by kernel_rfl) _ F2 rfl rfl c2 (tcompact tA tk cm.n) ?_))
    rintro a4 w3 F4 ⟨T, t3, s3⟩
    try dsimp only at F4
    obtain ⟨h3, st3⟩ := h2.topped hT s3 t3
    have hb3 : T.b = (L.loc cm.topic.data.toList).b := s3.b
    have rn : ∀ k, (L.loc cm.topic.data.toList).own k → k < w.heap.size := fun k e => h.lim k (by rw [h.rt _ H hT k e]; exact fun e => by cases e)
    have r3 := s3.touch.at r2 (fun e => by have := rn _ e; omega)
    have LO := tlow t3
    rw [hb3] at LO
    refine wp_seq (reg_mono (mc_r5 (by kernel_rfl) _ F4 rfl rfl rfl r3 LO ?_))
    intro a5 w5 F5 b5
    refine wp_ret ?_
    obtain ⟨h5, st5⟩ := h.fin (rb := w.heap.size + 1) b2 (Nat.le_succ _) (heap_lt r2) (h3.below b5) (st3.then b5) (set3_touch (x0 := .int .i64 (numM 0 ((compF H cm.n).low : Int)).code) (x1 := .int .i64 (numM 0 ((compF H cm.n).low : Int)).n) (x2 := .slice none 0 0))
    exact mc_ret F5 rfl (set3_box (Below.at b5 r3)) (gave0 rfl rfl (num_recs _ _) h5 st5)
theorem frame_mp (t : Array Value) (h : t.size = 38) : ∃ u : Nat → Value, t = List.toArray (u 0 :: u 1 :: u 2 :: u 3 :: u 4 :: u 5 :: u 6 :: u 7 :: u 8 :: u 9 :: u 10 :: u 11 :: u 12 :: u 13 :: u 14 :: u 15 :: u 16 :: u 17 :: u 18 :: u 19 :: u 20 :: u 21 :: u 22 :: u 23 :: u 24 :: u 25 :: u 26 :: u 27 :: u 28 :: u 29 :: u 30 :: u 31 :: u 32 :: u 33 :: u 34 :: u 35 :: u 36 :: u 37 :: []) := by
  refine ⟨fun i => t.getD i undef, ?_⟩
  refine Eq.trans (b := ((List.range 38).map fun i => t.getD i undef).toArray) ?_ rfl
  apply Array.ext
  · simp [h]
  · intro k h1 h2
    simp [Array.getD, h1]
structure Vmp where
  v0 : Value
  v1 : Value
  v3 : Value
  v4 : Value
  v5 : Value
  v6 : Value
  v7 : Value
  v8 : Value
structure Fmp (a : Act) (v : Vmp) : Prop where
  size : a.tmps.size = 38
  defers : a.defers = []
  s0 : a.tmps.getD 0 undef = v.v0
  s1 : a.tmps.getD 1 undef = v.v1
  s3 : a.tmps.getD 3 undef = v.v3
  s4 : a.tmps.getD 4 undef = v.v4
  s5 : a.tmps.getD 5 undef = v.v5
  s6 : a.tmps.getD 6 undef = v.v6
  s7 : a.tmps.getD 7 undef = v.v7
  s8 : a.tmps.getD 8 undef = v.v8
theorem frx_mp {a : Act} {v0 v1 v3 v4 v5 v6 v7 v8 : Value} (h : Fmp a ⟨v0, v1, v3, v4, v5, v6, v7, v8⟩) : ∃ u : Nat → Value, a = ⟨List.toArray (v0 :: v1 :: u 2 :: v3 :: v4 :: v5 :: v6 :: v7 :: v8 :: u 9 :: u 10 :: u 11 :: u 12 :: u 13 :: u 14 :: u 15 :: u 16 :: u 17 :: u 18 :: u 19 :: u 20 :: u 21 :: u 22 :: u 23 :: u 24 :: u 25 :: u 26 :: u 27 :: u 28 :: u 29 :: u 30 :: u 31 :: u 32 :: u 33 :: u 34 :: u 35 :: u 36 :: u 37 :: []), []⟩ := by
  obtain ⟨t', d'⟩ := a
  obtain ⟨hs, hd, q0, q1, q3, q4, q5, q6, q7, q8⟩ := h
  obtain ⟨u, hu⟩ := frame_mp t' hs
  simp only at hd q0 q1 q3 q4 q5 q6 q7 q8
  subst hu hd
  have e0 : u 0 = v0 := q0
  have e1 : u 1 = v1 := q1
  have e3 : u 3 = v3 := q3
  have e4 : u 4 = v4 := q4
  have e5 : u 5 = v5 := q5
  have e6 : u 6 = v6 := q6
  have e7 : u 7 = v7 := q7
  have e8 : u 8 = v8 := q8
  refine ⟨u, ?_⟩
  rw [e0, e1, e3, e4, e5, e6, e7, e8]
theorem mp_r0 {K : Act → World → Prop} {c : Code} (hc : regOf (Tryz.f58.body.getD .skip) 0 = some c) (a : Act) {v : Vmp} {wq : World} {cm : CM} (hF : Fmp a v) (h1v : v.v1 = .agg #[.int .i64 cm.kind, .string cm.topic, .string cm.name, .int .i64 cm.seq, .string cm.key, .string cm.val, .int .i64 cm.n, .int .i64 cm.node, .int .i64 cm.ask]) (hQ : ∀ a', Fmp a' { v with v3 := .pointer (some ⟨wq.heap.size, 0, none⟩), v4 := .pointer (some ⟨wq.heap.size + 1, 0, none⟩) } → K a' ((wq.alloc (.cells #[.int .i64 cm.kind, .string cm.topic, .string cm.name, .int .i64 cm.seq, .string cm.key, .string cm.val, .int .i64 cm.n, .int .i64 cm.node, .int .i64 cm.ask] 31)).alloc (.cells #[.int .i64 0, .int .i64 0, .slice none 0 0] 37))) :
    Code.wp Tryz.prog c (Exit.then K fun _ _ _ => False) a wq := by
  have HQ := hide hQ
  clear hQ
  obtain ⟨v0, v1, v3, v4, v5, v6, v7, v8⟩ := v
  simp only at h1v HQ
  subst h1v
  obtain ⟨u, rfl⟩ := frx_mp hF
  clear hF
  simp only [Tryz.f58, Option.getD_some, regOf] at hc
  injection hc with hc
  subst hc
  go_wp2
  exact HQ.out _ ⟨rfl, rfl, rfl, rfl, rfl, rfl, rfl, rfl, rfl, rfl⟩
theorem mp_ret {W : World} {a : Act} {v : Vmp} {rb : Nat} {x y : Int} {ao : Option Addr} {ln cp : Nat} {R : Ending → World → Prop} (hF : Fmp a v) (h0 : v.v4 = .pointer (some ⟨rb, 0, none⟩)) (hB : W.heap[rb]? = some (.cells #[.int .i64 x, .int .i64 y, .slice ao ln cp] 37 (0, 0))) (h : R (.returned (.agg #[.int .i64 x, .int .i64 y, .slice ao ln cp])) W) :
    bodyPost Tryz.prog Tryz.f58 R .ret a W := by
  have g0 := slot_get (hF.s4.trans h0)
  have e0 := box_cell hB 0 rfl
  have e1 := box_cell hB 1 rfl
  have e2 := box_cell hB 2 rfl
  refine bodyPost_ret (v := .agg #[.int .i64 x, .int .i64 y, .slice ao ln cp]) ?_ hF.defers h
  simp [results, Tryz.results58, go_sem, g0, e0, e1, e2]
theorem mp_r1 {K : Act → World → Prop} {c : Code} (hc : regOf (Tryz.f58.body.getD .skip) 1 = some c) (a : Act) {v : Vmp} {wq : World} {mb zb cb : Nat} {cm : CM} {tv : Option Addr} {ok : Bool} (hF : Fmp a v) (h0v : v.v0 = .pointer (some ⟨mb, 0, none⟩)) (h3v : v.v3 = .pointer (some ⟨cb, 0, none⟩)) (hmb : mb < wq.heap.size) (hm : wq.cell? ⟨mb, 10, none⟩ = some (.map (some zb))) (hC : wq.heap[cb]? = some (.cells #[.int .i64 cm.kind, .string cm.topic, .string cm.name, .int .i64 cm.seq, .string cm.key, .string cm.val, .int .i64 cm.n, .int .i64 cm.node, .int .i64 cm.ask] 31 (0, 0))) (hL : (Instr.lookup 63 (.map (some zb)) (.string cm.topic) true).run Tryz.prog wq.drew = .ok (.tuple #[.pointer tv, .bool ok]) wq.drew)
    (hQ : ∀ a', Fmp a' { v with v5 := .pointer tv, v6 := .bool ok } → K a' wq.drew) :
    Code.wp Tryz.prog c (Exit.then K fun _ _ _ => False) a wq := by
  have HQ := hide hQ
  clear hQ
  obtain ⟨v0, v1, v3, v4, v5, v6, v7, v8⟩ := v
  simp only at h0v h3v HQ
  subst h0v h3v
  obtain ⟨u, rfl⟩ := frx_mp hF
  clear hF
  simp only [Tryz.f58, Option.getD_some, regOf] at hc
  injection hc with hc
  subst hc
  have z1 := box_cell hC 1 rfl
  clear hC
  go_region
  all_goals exact HQ.out _ ⟨rfl, rfl, rfl, rfl, rfl, rfl, rfl, rfl, rfl, rfl⟩
theorem mp_r2 {K : Act → World → Prop} {c : Code} (hc : regOf (Tryz.f58.body.getD .skip) 2 = some c) (a : Act) {v : Vmp} {wq : World} {ok : Bool} (hF : Fmp a v) (h6v : v.v6 = .bool ok) (hQ : ∀ a', Fmp a' v → a'.tmps.getD 20 undef = .bool (!ok) → K a' wq) :
    Code.wp Tryz.prog c (Exit.then K fun _ _ _ => False) a wq := by
  have HQ := hide hQ
  clear hQ
  obtain ⟨v0, v1, v3, v4, v5, v6, v7, v8⟩ := v
  simp only at h6v HQ
  subst h6v
  obtain ⟨u, rfl⟩ := frx_mp hF
  clear hF
  simp only [Tryz.f58, Option.getD_some, regOf] at hc
  injection hc with hc
  subst hc
  go_wp2
  exact HQ.out _ ⟨rfl, rfl, rfl, rfl, rfl, rfl, rfl, rfl, rfl, rfl⟩ (by first | rfl | (simp; done))
theorem mp_r3 {K : Act → World → Prop} {c : Code} (hc : regOf (Tryz.f58.body.getD .skip) 3 = some c) (a : Act) {v : Vmp} {wq : World} {rb : Nat}  (hF : Fmp a v) (h4v : v.v4 = .pointer (some ⟨rb, 0, none⟩)) (hR : wq.heap[rb]? = some (.cells #[.int .i64 0, .int .i64 0, .slice none 0 0] 37 (0, 0)))
    (hQ : ∀ a' w1, Fmp a' v → Below wq.heap.size wq w1 → K a' (set3 w1 rb (.int .i64 5) (.int .i64 0) (.slice none 0 0))) :
    Code.wp Tryz.prog c (Exit.then K fun _ _ _ => False) a wq := by
  have HQ := hide hQ
  clear hQ
  obtain ⟨v0, v1, v3, v4, v5, v6, v7, v8⟩ := v
  simp only at h4v HQ
  subst h4v
  obtain ⟨u, rfl⟩ := frx_mp hF
  clear hF
  simp only [Tryz.f58, Option.getD_some, regOf] at hc
  injection hc with hc
  subst hc
  have HR := hide hR
  have HE : Hid (Calls Tryz.prog 29 #[.int .i64 5] wq fun e w' => e = .returned (.agg #[.int .i64 5, .int .i64 0, .slice none 0 0]) ∧ Below wq.heap.size wq w') := pcoded 5 wq
  clear hR
  unfold set3 at HQ
  go_wp2_with (go_at_call 29; refine HE.out.mono ?_; rintro e w1 ⟨rfl, b1⟩; have hR2 := Below.at b1 HR.out; have R1 := hide b1; clear b1; have y0 := box_cell hR2 0 rfl; have y1 := box_cell hR2 1 rfl; have y2 := box_cell hR2 2 rfl; have f0 := box_free hR2 0; have f1 := box_free hR2 1; have f2 := box_free hR2 2; clear hR2)
  exact HQ.out _ _ ⟨rfl, rfl, rfl, rfl, rfl, rfl, rfl, rfl, rfl, rfl⟩ R1.out
theorem mp_r4 {K : Act → World → Prop} {c : Code} (hc : regOf (Tryz.f58.body.getD .skip) 4 = some c) (a : Act) {v : Vmp} {wq : World} {cb xb : Nat} {cm : CM} {x y : Int} {R : World → Prop} (hF : Fmp a v) (h3v : v.v3 = .pointer (some ⟨cb, 0, none⟩)) (h5v : v.v5 = .pointer (some ⟨xb, 0, none⟩)) (hC : wq.heap[cb]? = some (.cells #[.int .i64 cm.kind, .string cm.topic, .string cm.name, .int .i64 cm.seq, .string cm.key, .string cm.val, .int .i64 cm.n, .int .i64 cm.node, .int .i64 cm.ask] 31 (0, 0))) (hE : Calls Tryz.prog 103 #[.pointer (some ⟨xb, 0, none⟩), .string cm.name, .int .i64 cm.seq, .string cm.key, .string cm.val] wq fun e w' => e = .returned (.tuple #[.int .i64 x, .int .i64 y]) ∧ R w')
    (hQ : ∀ a' w', Fmp a' { v with v7 := .int .i64 x, v8 := .int .i64 y } → R w' → K a' w') :
    Code.wp Tryz.prog c (Exit.then K fun _ _ _ => False) a wq := by
  have HQ := hide hQ
  clear hQ
  obtain ⟨v0, v1, v3, v4, v5, v6, v7, v8⟩ := v
  simp only at h3v h5v HQ
  subst h3v h5v
  obtain ⟨u, rfl⟩ := frx_mp hF
  clear hF
  simp only [Tryz.f58, Option.getD_some, regOf] at hc
  injection hc with hc
  subst hc
  have HE := hide hE
  clear hE
  have z2 := box_cell hC 2 rfl
  have z3 := box_cell hC 3 rfl
  have z4 := box_cell hC 4 rfl
  have z5 := box_cell hC 5 rfl
  clear hC
  go_wp2_with (go_at_call 103; refine HE.out.mono ?_; rintro e w1 ⟨rfl, r1⟩; have R1 := hide r1; clear r1)
  exact HQ.out _ _ ⟨rfl, rfl, rfl, rfl, rfl, rfl, rfl, rfl, rfl, rfl⟩ R1.out
theorem mp_r5 {K : Act → World → Prop} {c : Code} (hc : regOf (Tryz.f58.body.getD .skip) 5 = some c) (a : Act) {v : Vmp} {wq : World} {rb : Nat} {x y : Int} (hF : Fmp a v) (h4v : v.v4 = .pointer (some ⟨rb, 0, none⟩)) (h7v : v.v7 = .int .i64 x) (h8v : v.v8 = .int .i64 y) (hR : wq.heap[rb]? = some (.cells #[.int .i64 0, .int .i64 0, .slice none 0 0] 37 (0, 0)))
    (hQ : ∀ a' w1, Fmp a' v → Below wq.heap.size wq w1 → K a' (set3 w1 rb (.int .i64 (numM y x).code) (.int .i64 (numM y x).n) (.slice none 0 0))) :
    Code.wp Tryz.prog c (Exit.then K fun _ _ _ => False) a wq := by
  have HQ := hide hQ
  clear hQ
  obtain ⟨v0, v1, v3, v4, v5, v6, v7, v8⟩ := v
  simp only at h4v h7v h8v HQ
  subst h4v h7v h8v
  obtain ⟨u, rfl⟩ := frx_mp hF
  clear hF
  simp only [Tryz.f58, Option.getD_some, regOf] at hc
  injection hc with hc
  subst hc
  have HR := hide hR
  have HE : Hid (Calls Tryz.prog 104 #[.int .i64 y, .int .i64 x] wq fun e w' => e = .returned (.agg #[.int .i64 (numM y x).code, .int .i64 (numM y x).n, .slice none 0 0]) ∧ Below wq.heap.size wq w') := pnumbered y x wq
  clear hR
  unfold set3 at HQ
  go_wp2_with (go_at_call 104; refine HE.out.mono ?_; rintro e w1 ⟨rfl, b1⟩; have hR2 := Below.at b1 HR.out; have R1 := hide b1; clear b1; have y0 := box_cell hR2 0 rfl; have y1 := box_cell hR2 1 rfl; have y2 := box_cell hR2 2 rfl; have f0 := box_free hR2 0; have f1 := box_free hR2 1; have f2 := box_free hR2 2; clear hR2)
  exact HQ.out _ _ ⟨rfl, rfl, rfl, rfl, rfl, rfl, rfl, rfl, rfl, rfl⟩ R1.out
theorem pmpublish {w : World} {L : LM} {X : MS} {c : Nat} (h : MAt w L X) (hk : X.Ok c) (hc : c + 1 ≤ 100000) (cm : CM) (hx : cm.right = true) :
    Calls Tryz.prog 58 #[.pointer (some ⟨L.b, 0, none⟩), .agg #[.int .i64 cm.kind, .string cm.topic, .string cm.name, .int .i64 cm.seq, .string cm.key, .string cm.val, .int .i64 cm.n, .int .i64 cm.node, .int .i64 cm.ask]] w fun e w' => Gave w L (publishM X cm) e w' := by
  have b1 : Below w.heap.size w ((w.alloc (.cells #[.int .i64 cm.kind, .string cm.topic, .string cm.name, .int .i64 cm.seq, .string cm.key, .string cm.val, .int .i64 cm.n, .int .i64 cm.node, .int .i64 cm.ask] 31)).alloc (.cells #[.int .i64 0, .int .i64 0, .slice none 0 0] 37)) := ((Below.refl w.heap.size w).alloc (Nat.le_refl _) _).alloc (by simp) _
  have c1 : ((w.alloc (.cells #[.int .i64 cm.kind, .string cm.topic, .string cm.name, .int .i64 cm.seq, .string cm.key, .string cm.val, .int .i64 cm.n, .int .i64 cm.node, .int .i64 cm.ask] 31)).alloc (.cells #[.int .i64 0, .int .i64 0, .slice none 0 0] 37)).heap[w.heap.size]? = some (.cells #[.int .i64 cm.kind, .string cm.topic, .string cm.name, .int .i64 cm.seq, .string cm.key, .string cm.val, .int .i64 cm.n, .int .i64 cm.node, .int .i64 cm.ask] 31 (0, 0)) := Below.at ((Below.refl _ _).alloc (Nat.le_refl _) _) (heap_alloc_new w _)
  have r1 : ((w.alloc (.cells #[.int .i64 cm.kind, .string cm.topic, .string cm.name, .int .i64 cm.seq, .string cm.key, .string cm.val, .int .i64 cm.n, .int .i64 cm.node, .int .i64 cm.ask] 31)).alloc (.cells #[.int .i64 0, .int .i64 0, .slice none 0 0] 37)).heap[w.heap.size + 1]? = some (.cells #[.int .i64 0, .int .i64 0, .slice none 0 0] 37 (0, 0)) := by
    have := heap_alloc_new (w.alloc (.cells #[.int .i64 cm.kind, .string cm.topic, .string cm.name, .int .i64 cm.seq, .string cm.key, .string cm.val, .int .i64 cm.n, .int .i64 cm.node, .int .i64 cm.ask] 31)) (.cells #[.int .i64 0, .int .i64 0, .slice none 0 0] 37)
    simpa using this
  obtain ⟨sz1, sz2, sz3, sz4⟩ := cm_sizes hx
  have szT : cm.topic.size ≤ maxLen := by unfold maxLen; omega
  have szN : cm.name.size ≤ maxLen := by unfold maxLen; omega
  go_enter Tryz.func58, Tryz.ntmps58
  refine wp_seq (reg_mono (mp_r0 (by kernel_rfl) _ (v := ⟨_, _, _, _, _, _, _, _⟩) (cm := cm) ⟨rfl, rfl, rfl, rfl, rfl, rfl, rfl, rfl, rfl, rfl⟩ rfl ?_))
  intro a0 F0
  try dsimp only at F0
  generalize (w.alloc _).alloc _ = w1 at *
  have h1 := h.below b1
  have l1 := h1.lt.1
  have m1 := h1.cells
  have LT := h1.lookT (W := w1.drew) rfl cm.topic szT
  cases hT : X.T cm.topic.data.toList with
  | none =>
    rw [hT] at LT
    have hE : publishM X cm = (codedM 5, X) := by unfold publishM; rw [hT]
    rw [hE]
    refine wp_seq (reg_mono (mp_r1 (by kernel_rfl) _ F0 rfl rfl l1 m1.2.2.2.1 c1 LT ?_))
    intro a1 F1
    try dsimp only at F1
    have b2 : Below w.heap.size w w1.drew := b1.drew
    refine wp_seq (wp_seq (reg_mono (mp_r2 (by kernel_rfl) _ F1 rfl ?_)))
    intro a2 F2 g2
    refine wp_cond_true g2 ?_
    refine wp_seq (reg_mono (mp_r3 (by kernel_rfl) _ F2 rfl r1 ?_))
    intro a9 w9 F9 b9
    refine wp_ret ?_
    have bb : Below w.heap.size w (set3 w9 (w.heap.size + 1) (.int .i64 5) (.int .i64 0) (.slice none 0 0)) := (b2.trans (b9.mono b2.size)).trans (touch_newX set3_touch (Nat.le_trans b2.size b9.size) (fun k e => by omega))
    exact mp_ret F9 rfl (set3_box (Below.at b9 r1)) (gave0 rfl rfl rfl (h.below bb) (MStep.below bb))
  | some H =>
    rw [hT] at LT
    refine wp_seq (reg_mono (mp_r1 (by kernel_rfl) _ F0 rfl rfl l1 m1.2.2.2.1 c1 LT ?_))
    intro a1 F1
    try dsimp only at F1
    have b2 : Below w.heap.size w w1.drew := b1.drew
    have h2 : MAt w1.drew L X := h1.below ⟨rfl, rfl, rfl, Nat.le_refl _, fun _ _ => rfl⟩
    have tA := h2.top _ H hT
    obtain ⟨tk, tn⟩ := hk.tops _ H hT
    refine wp_seq (wp_seq (reg_mono (mp_r2 (by kernel_rfl) _ F1 rfl ?_)))
    intro a2 F2 g2
    refine wp_cond_false g2 (wp_skip ?_)
    show Code.wp _ _ _ _ _
    have c2 : w1.drew.heap[w.heap.size]? = _ := c1
    have r2 : w1.drew.heap[w.heap.size + 1]? = _ := r1
    generalize w1.drew = w2 at *
    have hE : publishM X cm = (numM (pubF H cm.name cm.seq cm.key cm.val).2.1 (pubF H cm.name cm.seq cm.key cm.val).1, X.putT cm.topic.data.toList (pubF H cm.name cm.seq cm.key cm.val).2.2) := by unfold publishM; rw [hT]
    rw [hE]
    have TP := tpub tA tk hc cm.name cm.seq cm.key cm.val (by omega) (by omega) (by omega)
    generalize pubF H cm.name cm.seq cm.key cm.val = P at *
    refine wp_seq (reg_mono (mp_r4 (R := fun W => ∃ T, TAt W T P.2.2 ∧ TStep w2 W (L.loc cm.topic.data.toList) T) (by kernel_rfl) _ F2 rfl rfl c2 TP ?_))
    rintro a4 w3 F4 ⟨T, t3, s3⟩
    try dsimp only at F4
    obtain ⟨h3, st3⟩ := h2.topped hT s3 t3
    have rn : ∀ k, (L.loc cm.topic.data.toList).own k → k < w.heap.size := fun k e => h.lim k (by rw [h.rt _ H hT k e]; exact fun e => by cases e)
    have r3 := s3.touch.at r2 (fun e => by have := rn _ e; omega)
    refine wp_seq (reg_mono (mp_r5 (by kernel_rfl) _ F4 rfl rfl rfl r3 ?_))
    intro a5 w5 F5 b5
    refine wp_ret ?_
    obtain ⟨h5, st5⟩ := h.fin (rb := w.heap.size + 1) b2 (Nat.le_succ _) (heap_lt r2) (h3.below b5) (st3.then b5) (set3_touch (x0 := .int .i64 (numM P.2.1 P.1).code) (x1 := .int .i64 (numM P.2.1 P.1).n) (x2 := .slice none 0 0))
    exact mp_ret F5 rfl (set3_box (Below.at b5 r3)) (gave0 rfl rfl (num_recs _ _) h5 st5)
end Go.Proofs.YtlfodldlkchmoaaGreat.Y
