/-
  The laws' examples, on lists (mkj18.py).
-/
import Derived.Test.YtlfodldlkchmoaaGreatZRD
import Derived.Test.YtlfodldlkchmoaaGreatZRA
namespace Go.Proofs.YtlfodldlkchmoaaGreat
open Go.RowKit
set_option maxHeartbeats 4000000
set_option maxRecDepth 100000
attribute [local go_sem ↓] Go.wp_at_zero Go.wp_at_succ
set_option linter.unusedSimpArgs false
set_option linter.unusedVariables false
def rencP (x : CM) : ByteArray := if x.right then ⟨(codeC x).toArray⟩ else ⟨#[]⟩
theorem renc (x : CM) (hx : x.ok) (w : World) :
    Calls Tryz.prog 26 #[x.v] w fun e w' => e = .returned (.tuple #[.string (rencP x), .bool x.right]) ∧ Below w.heap.size w w' := by
  have hR := rright x hx
  have hS := @CM.small x
  have hE : rencP x = if x.right then ⟨(codeC x).toArray⟩ else ⟨#[]⟩ := rfl
  generalize rencP x = T at *
  generalize x.right = rr at *
  go_enter Tryz.func26, Tryz.ntmps26
  refine wp_seq (reg_mono (re_r0 (x := x) (by kernel_rfl) _ (v := ⟨_, _, _, _, _, _, _⟩) ⟨rfl, rfl, rfl, rfl, rfl, rfl, rfl, rfl, rfl⟩ rfl ?_))
  intro a1 w1 b F1 D1 B1
  refine wp_seq (reg_mono (re_r1 (by kernel_rfl) _ F1 rfl D1 (fun W _ => hR W) ?_))
  intro a2 w2 F2 b2
  have D2 := (b2.block _ (heap_lt D1)).trans D1
  have B2 := B1.trans (b2.mono B1.size)
  refine wp_seq (wp_seq (reg_mono (re_r2 (by kernel_rfl) _ F2 rfl ?_)))
  intro a3 F3
  cases rr with
  | false =>
    obtain rfl : T = ⟨#[]⟩ := hE
    refine wp_cond_true F3.s10 ?_
    refine wp_seq (reg_mono (re_r3 (by kernel_rfl) _ F3 ?_))
    intro a4 F4
    refine wp_ret ?_
    exact re_ret (R := fun e w' => e = .returned (.tuple #[.string ⟨#[]⟩, .bool false]) ∧ Below w.heap.size w w') F4 rfl rfl ⟨rfl, B2⟩
  | true =>
    obtain rfl : T = ⟨(codeC x).toArray⟩ := hE
    refine wp_cond_false F3.s10 (wp_skip ?_)
    refine wp_seq (reg_mono (re_r4 (by kernel_rfl) _ F3 rfl D2 (hS rfl) ?_))
    intro a4 w4 F4 b4
    refine wp_seq (reg_mono (re_r5 (by kernel_rfl) _ F4 rfl ?_))
    intro a5 F5
    refine wp_ret ?_
    exact re_ret F5 rfl rfl ⟨rfl, B2.trans (b4.mono B2.size)⟩
end Go.Proofs.YtlfodldlkchmoaaGreat
namespace Go.Proofs.YtlfodldlkchmoaaGreat.Y
open Go.RowKit
set_option maxHeartbeats 8000000
set_option maxRecDepth 100000
attribute [local go_sem ↓] Go.wp_at_zero Go.wp_at_succ
set_option linter.unusedSimpArgs false
set_option linter.unusedVariables false
open Go.Maps
theorem gave_fin {w w1 w2 w3 : World} {L L' : LM} {X : MS} {P : RM × MS} {rb : Nat} {ao : Option Addr} {cp : Nat} (h : MAt w L X) (b1 : Below w.heap.size w w1) (hrb : w.heap.size ≤ rb) (hr1 : rb < w1.heap.size) (q2 : RecsAt w2 (.slice ao P.1.recs.length cp) P.1.recs) (q3 : MAt w2 L' P.2) (q4 : MStep w1 w2 L L') (q5 : ∀ g, (Value.slice ao 0 cp).ownBlock = some g → w1.heap.size ≤ g ∧ ¬ L'.own g) (t9 : Touch (fun j => j = rb) w2 w3) :
    Gave w L P (.returned (.agg #[.int .i64 P.1.code, .int .i64 P.1.n, .slice ao P.1.recs.length cp])) w3 := by
  obtain ⟨h9, st9⟩ := h.fin b1 hrb hr1 q3 q4 t9
  have hsz := b1.size
  exact ⟨ao, cp, rfl, RecsAt.keep q2 t9 (fun z e1 e2 => by have := (q5 z e1).1; omega), L', h9, st9, fun z e => ⟨by have := (q5 z e).1; omega, (q5 z e).2⟩⟩
theorem cm_ok (cm : CM) (h : cm.right = true) : cm.ok := CM.Small.ok (CM.small h)
theorem renc_le (cm : CM) : (rencP cm).size ≤ 1182 := by
  unfold rencP
  split
  · rename_i h
    have := codeC_le (CM.small h)
    show (codeC cm).toArray.size ≤ 1182
    simpa using this
  · exact Nat.zero_le _
theorem frame_md (t : Array Value) (h : t.size = 15) : ∃ u : Nat → Value, t = List.toArray (u 0 :: u 1 :: u 2 :: u 3 :: u 4 :: u 5 :: u 6 :: u 7 :: u 8 :: u 9 :: u 10 :: u 11 :: u 12 :: u 13 :: u 14 :: []) := by
  refine ⟨fun i => t.getD i undef, ?_⟩
  refine Eq.trans (b := ((List.range 15).map fun i => t.getD i undef).toArray) ?_ rfl
  apply Array.ext
  · simp [h]
  · intro k h1 h2
    simp [Array.getD, h1]
structure Vmd where
  v0 : Value
  v1 : Value
  v3 : Value
  v4 : Value
  v5 : Value
structure Fmd (a : Act) (v : Vmd) : Prop where
  size : a.tmps.size = 15
  defers : a.defers = []
  s0 : a.tmps.getD 0 undef = v.v0
  s1 : a.tmps.getD 1 undef = v.v1
  s3 : a.tmps.getD 3 undef = v.v3
  s4 : a.tmps.getD 4 undef = v.v4
  s5 : a.tmps.getD 5 undef = v.v5
theorem frx_md {a : Act} {v0 v1 v3 v4 v5 : Value} (h : Fmd a ⟨v0, v1, v3, v4, v5⟩) : ∃ u : Nat → Value, a = ⟨List.toArray (v0 :: v1 :: u 2 :: v3 :: v4 :: v5 :: u 6 :: u 7 :: u 8 :: u 9 :: u 10 :: u 11 :: u 12 :: u 13 :: u 14 :: []), []⟩ := by
  obtain ⟨t', d'⟩ := a
  obtain ⟨hs, hd, q0, q1, q3, q4, q5⟩ := h
  obtain ⟨u, hu⟩ := frame_md t' hs
  simp only at hd q0 q1 q3 q4 q5
  subst hu hd
  have e0 : u 0 = v0 := q0
  have e1 : u 1 = v1 := q1
  have e3 : u 3 = v3 := q3
  have e4 : u 4 = v4 := q4
  have e5 : u 5 = v5 := q5
  refine ⟨u, ?_⟩
  rw [e0, e1, e3, e4, e5]
theorem md_ret {W : World} {a : Act} {v : Vmd} {rb : Nat} {x y : Int} {ao : Option Addr} {ln cp : Nat} {R : Ending → World → Prop} (hF : Fmd a v) (h0 : v.v4 = .pointer (some ⟨rb, 0, none⟩)) (hB : W.heap[rb]? = some (.cells #[.int .i64 x, .int .i64 y, .slice ao ln cp] 37 (0, 0))) (h : R (.returned (.agg #[.int .i64 x, .int .i64 y, .slice ao ln cp])) W) :
    bodyPost Tryz.prog Tryz.f19 R .ret a W := by
  have g0 := slot_get (hF.s4.trans h0)
  have e0 := box_cell hB 0 rfl
  have e1 := box_cell hB 1 rfl
  have e2 := box_cell hB 2 rfl
  refine bodyPost_ret (v := .agg #[.int .i64 x, .int .i64 y, .slice ao ln cp]) ?_ hF.defers h
  simp [results, Tryz.results19, go_sem, g0, e0, e1, e2]
theorem md_r0 {K : Act → World → Prop} {c : Code} (hc : regOf (Tryz.f19.body.getD .skip) 0 = some c) (a : Act) {v : Vmd} {wq : World} {cm : CM} (hF : Fmd a v) (h1v : v.v1 = .agg #[.int .i64 cm.kind, .string cm.topic, .string cm.name, .int .i64 cm.seq, .string cm.key, .string cm.val, .int .i64 cm.n, .int .i64 cm.node, .int .i64 cm.ask]) (hQ : ∀ a', Fmd a' { v with v3 := .pointer (some ⟨wq.heap.size, 0, none⟩), v4 := .pointer (some ⟨wq.heap.size + 1, 0, none⟩) } → K a' ((wq.alloc (.cells #[.int .i64 cm.kind, .string cm.topic, .string cm.name, .int .i64 cm.seq, .string cm.key, .string cm.val, .int .i64 cm.n, .int .i64 cm.node, .int .i64 cm.ask] 31)).alloc (.cells #[.int .i64 0, .int .i64 0, .slice none 0 0] 37))) :
    Code.wp Tryz.prog c (Exit.then K fun _ _ _ => False) a wq := by
  have HQ := hide hQ
  clear hQ
  obtain ⟨v0, v1, v3, v4, v5⟩ := v
  simp only at h1v HQ
  subst h1v
  obtain ⟨u, rfl⟩ := frx_md hF
  clear hF
  simp only [Tryz.f19, Option.getD_some, regOf] at hc
  injection hc with hc
  subst hc
  go_wp2
  exact HQ.out _ ⟨rfl, rfl, rfl, rfl, rfl, rfl, rfl⟩
theorem md_r1 {K : Act → World → Prop} {c : Code} (hc : regOf (Tryz.f19.body.getD .skip) 1 = some c) (a : Act) {v : Vmd} {wq : World} {cb : Nat} {cm : CM} {sx : ByteArray} {ok : Bool} (hF : Fmd a v) (h3v : v.v3 = .pointer (some ⟨cb, 0, none⟩)) (hC : wq.heap[cb]? = some (.cells #[.int .i64 cm.kind, .string cm.topic, .string cm.name, .int .i64 cm.seq, .string cm.key, .string cm.val, .int .i64 cm.n, .int .i64 cm.node, .int .i64 cm.ask] 31 (0, 0))) (hE : Calls Tryz.prog 26 #[.agg #[.int .i64 cm.kind, .string cm.topic, .string cm.name, .int .i64 cm.seq, .string cm.key, .string cm.val, .int .i64 cm.n, .int .i64 cm.node, .int .i64 cm.ask]] wq fun e w' => e = .returned (.tuple #[.string sx, .bool ok]) ∧ Below wq.heap.size wq w')
    (hQ : ∀ a' w1, Fmd a' { v with v5 := .string sx } → Below wq.heap.size wq w1 → K a' w1) :
    Code.wp Tryz.prog c (Exit.then K fun _ _ _ => False) a wq := by
  have HQ := hide hQ
  clear hQ
  obtain ⟨v0, v1, v3, v4, v5⟩ := v
  simp only at h3v HQ
  subst h3v
  obtain ⟨u, rfl⟩ := frx_md hF
  clear hF
  simp only [Tryz.f19, Option.getD_some, regOf] at hc
  injection hc with hc
  subst hc
  have HE := hide hE
  clear hE
  have z0 := box_cell hC 0 rfl
  have z1 := box_cell hC 1 rfl
  have z2 := box_cell hC 2 rfl
  have z3 := box_cell hC 3 rfl
  have z4 := box_cell hC 4 rfl
  have z5 := box_cell hC 5 rfl
  have z6 := box_cell hC 6 rfl
  have z7 := box_cell hC 7 rfl
  have z8 := box_cell hC 8 rfl
  clear hC
  go_wp2_with (go_at_call 26; refine HE.out.mono ?_; rintro e w1 ⟨rfl, b1⟩; have B1 := hide b1; clear b1)
  exact HQ.out _ _ ⟨rfl, rfl, rfl, rfl, rfl, rfl, rfl⟩ B1.out
theorem md_r2 {K : Act → World → Prop} {c : Code} (hc : regOf (Tryz.f19.body.getD .skip) 2 = some c) (a : Act) {v : Vmd} {wq : World} {mb rb ln : Nat} {x y : Int} {sx : ByteArray} {R : Option Addr → Nat → World → Prop} (hF : Fmd a v) (h0v : v.v0 = .pointer (some ⟨mb, 0, none⟩)) (h4v : v.v4 = .pointer (some ⟨rb, 0, none⟩)) (h5v : v.v5 = .string sx) (hE : Calls Tryz.prog 12 #[.pointer (some ⟨mb, 0, none⟩), .string sx] wq fun e w' => ∃ ao cp, e = .returned (.agg #[.int .i64 x, .int .i64 y, .slice ao ln cp]) ∧ w'.heap[rb]? = some (.cells #[.int .i64 0, .int .i64 0, .slice none 0 0] 37 (0, 0)) ∧ R ao cp w')
    (hQ : ∀ a' w1 ao cp, Fmd a' v → R ao cp w1 → K a' (set3 w1 rb (.int .i64 x) (.int .i64 y) (.slice ao ln cp))) :
    Code.wp Tryz.prog c (Exit.then K fun _ _ _ => False) a wq := by
  have HQ := hide hQ
  clear hQ
  obtain ⟨v0, v1, v3, v4, v5⟩ := v
  simp only at h0v h4v h5v HQ
  subst h0v h4v h5v
  obtain ⟨u, rfl⟩ := frx_md hF
  clear hF
  simp only [Tryz.f19, Option.getD_some, regOf] at hc
  injection hc with hc
  subst hc
  have HE := hide hE
  clear hE
  unfold set3 at HQ
  go_wp2_with (go_at_call 12; refine HE.out.mono ?_; rintro e w1 ⟨ao, cp, rfl, hR2, r1⟩; have R1 := hide r1; clear r1; have y0 := box_cell hR2 0 rfl; have y1 := box_cell hR2 1 rfl; have y2 := box_cell hR2 2 rfl; have f0 := box_free hR2 0; have f1 := box_free hR2 1; have f2 := box_free hR2 2; clear hR2)
  exact HQ.out _ _ _ _ ⟨rfl, rfl, rfl, rfl, rfl, rfl, rfl⟩ R1.out
theorem pdo {w : World} {L : LM} {X : MS} {c : Nat} (h : MAt w L X) (hk : X.Ok c) (hc : c + 1 ≤ 100000) (hcn : X.cnt ≤ 1000000) (cm : CM) (ho : cm.ok) :
    Calls Tryz.prog 19 #[.pointer (some ⟨L.b, 0, none⟩), .agg #[.int .i64 cm.kind, .string cm.topic, .string cm.name, .int .i64 cm.seq, .string cm.key, .string cm.val, .int .i64 cm.n, .int .i64 cm.node, .int .i64 cm.ask]] w fun e w' => Gave w L (applyM X (rencP cm).data.toList) e w' := by
  have b1 : Below w.heap.size w ((w.alloc (.cells #[.int .i64 cm.kind, .string cm.topic, .string cm.name, .int .i64 cm.seq, .string cm.key, .string cm.val, .int .i64 cm.n, .int .i64 cm.node, .int .i64 cm.ask] 31)).alloc (.cells #[.int .i64 0, .int .i64 0, .slice none 0 0] 37)) := ((Below.refl w.heap.size w).alloc (Nat.le_refl _) _).alloc (by simp) _
  have c1 : ((w.alloc (.cells #[.int .i64 cm.kind, .string cm.topic, .string cm.name, .int .i64 cm.seq, .string cm.key, .string cm.val, .int .i64 cm.n, .int .i64 cm.node, .int .i64 cm.ask] 31)).alloc (.cells #[.int .i64 0, .int .i64 0, .slice none 0 0] 37)).heap[w.heap.size]? = some (.cells #[.int .i64 cm.kind, .string cm.topic, .string cm.name, .int .i64 cm.seq, .string cm.key, .string cm.val, .int .i64 cm.n, .int .i64 cm.node, .int .i64 cm.ask] 31 (0, 0)) := Below.at ((Below.refl _ _).alloc (Nat.le_refl _) _) (heap_alloc_new w _)
  have r1 : ((w.alloc (.cells #[.int .i64 cm.kind, .string cm.topic, .string cm.name, .int .i64 cm.seq, .string cm.key, .string cm.val, .int .i64 cm.n, .int .i64 cm.node, .int .i64 cm.ask] 31)).alloc (.cells #[.int .i64 0, .int .i64 0, .slice none 0 0] 37)).heap[w.heap.size + 1]? = some (.cells #[.int .i64 0, .int .i64 0, .slice none 0 0] 37 (0, 0)) := by
    have := heap_alloc_new (w.alloc (.cells #[.int .i64 cm.kind, .string cm.topic, .string cm.name, .int .i64 cm.seq, .string cm.key, .string cm.val, .int .i64 cm.n, .int .i64 cm.node, .int .i64 cm.ask] 31)) (.cells #[.int .i64 0, .int .i64 0, .slice none 0 0] 37)
    simpa using this
  have hsz := renc_le cm
  go_enter Tryz.func19, Tryz.ntmps19
  refine wp_seq (reg_mono (md_r0 (by kernel_rfl) _ (v := ⟨_, _, _, _, _⟩) (cm := cm) ⟨rfl, rfl, rfl, rfl, rfl, rfl, rfl⟩ rfl ?_))
  intro a0 F0
  try dsimp only at F0
  generalize (w.alloc _).alloc _ = w1 at *
  refine wp_seq (reg_mono (md_r1 (by kernel_rfl) _ F0 rfl c1 (renc cm ho w1) ?_))
  intro a1 w2 F1 b2
  try dsimp only at F1
  have b12 := b1.trans (b2.mono b1.size)
  have h2 := h.below b12
  have r2 := Below.at b2 r1
  have rno : ¬ L.own (w.heap.size + 1) := fun e => by have := h.lim _ e; omega
  generalize rencP cm = sx at *
  have AP := papply h2 hk hc hcn sx (by omega)
  generalize applyM X sx.data.toList = P at *
  refine wp_seq (reg_mono (md_r2 (x := P.1.code) (y := P.1.n) (ln := P.1.recs.length) (R := fun ao cp W => RecsAt W (.slice ao P.1.recs.length cp) P.1.recs ∧ ∃ L', MAt W L' P.2 ∧ MStep w2 W L L' ∧ ∀ g, (Value.slice ao 0 cp).ownBlock = some g → w2.heap.size ≤ g ∧ ¬ L'.own g) (by kernel_rfl) _ F1 rfl rfl rfl (AP.mono fun e u q => by obtain ⟨ao, cp, q1, q2, L', q3, q4, q5⟩ := q; exact ⟨ao, cp, q1, q4.touch.at r2 rno, q2, L', q3, q4, q5⟩) ?_))
  rintro a2 w3 ao cp F2 ⟨q2, L', q3, q4, q5⟩
  refine wp_ret ?_
  have r3 := q4.touch.at r2 rno
  have t9 : Touch (fun j => j = w.heap.size + 1) w3 (set3 w3 (w.heap.size + 1) (.int .i64 P.1.code) (.int .i64 P.1.n) (.slice ao P.1.recs.length cp)) := set3_touch
  exact md_ret F2 rfl (set3_box r3) (gave_fin h b12 (Nat.le_succ _) (heap_lt r2) q2 q3 q4 q5 t9)
structure Vmx where
  v0 : Value
  v1 : Value
  v2 : Value
  v3 : Value
  v4 : Value
structure Fmx (a : Act) (v : Vmx) : Prop where
  size : a.tmps.size = 15
  defers : a.defers = []
  s0 : a.tmps.getD 0 undef = v.v0
  s1 : a.tmps.getD 1 undef = v.v1
  s2 : a.tmps.getD 2 undef = v.v2
  s3 : a.tmps.getD 3 undef = v.v3
  s4 : a.tmps.getD 4 undef = v.v4
end Go.Proofs.YtlfodldlkchmoaaGreat.Y
namespace Go.Proofs.YtlfodldlkchmoaaGreat.Y
open Go.RowKit
set_option maxRecDepth 100000
attribute [local go_sem ↓] Go.wp_at_zero Go.wp_at_succ
set_option linter.unusedSimpArgs false
set_option linter.unusedVariables false
open Go.Maps
def exC : Nat → CM
  | 0 => ⟨1, ⟨#[97]⟩, ⟨#[]⟩, 0, ⟨#[]⟩, ⟨#[]⟩, 0, 0, 0⟩
  | 1 => ⟨1, ⟨#[97]⟩, ⟨#[]⟩, 0, ⟨#[]⟩, ⟨#[]⟩, 0, 0, 0⟩
  | 2 => ⟨2, ⟨#[97]⟩, ⟨#[112]⟩, 1, ⟨#[]⟩, ⟨#[118]⟩, 0, 0, 0⟩
  | 3 => ⟨3, ⟨#[97]⟩, ⟨#[115]⟩, 0, ⟨#[]⟩, ⟨#[]⟩, 0, 0, 0⟩
  | 4 => ⟨5, ⟨#[]⟩, ⟨#[115]⟩, 0, ⟨#[]⟩, ⟨#[]⟩, 5, 0, 0⟩
  | _ => ⟨6, ⟨#[]⟩, ⟨#[115]⟩, 0, ⟨#[]⟩, ⟨#[]⟩, 0, 0, 0⟩
def exG : List UInt8 := [103, 97, 114, 98, 97, 103, 101]
theorem exC_right : ∀ k, (exC k).right = true
  | 0 => by decide
  | 1 => by decide
  | 2 => by decide
  | 3 => by decide
  | 4 => by decide
  | _ + 5 => (by decide : (exC 5).right = true)
theorem apply_right (X : MS) (cm : CM) (h : cm.right = true) : applyM X (rencP cm).data.toList = doM (X.tick (rencP cm).data.toList) cm := by
  have e : (rencP cm).data.toList = codeC cm := by unfold rencP; rw [if_pos h]
  unfold applyM
  rw [e, decC_code h]
  rfl
theorem apply_wrong (X : MS) (cm : CM) (h : cm.right = false) : applyM X (rencP cm).data.toList = (codedM 1, X.tick []) := by
  have e : (rencP cm).data.toList = [] := by unfold rencP; rw [h]; rfl
  rw [e]
  rfl
def exS : Nat → MS
  | 0 => MS.new 3
  | k + 1 => (doM ((exS k).tick (rencP (exC k)).data.toList) (exC k)).2
theorem exS_ok : ∀ k, k ≤ 100 → (exS k).Ok k ∧ (exS k).cnt = k
  | 0, _ => ⟨MS.Ok.new 3, rfl⟩
  | k + 1, h => by
    obtain ⟨h1, h2⟩ := exS_ok k (by omega)
    have e := apply_right (exS k) (exC k) (exC_right k)
    constructor
    · show (doM ((exS k).tick (rencP (exC k)).data.toList) (exC k)).2.Ok (k + 1)
      rw [← e]
      exact apply_ok h1 (by omega) _
    · show (doM ((exS k).tick (rencP (exC k)).data.toList) (exC k)).2.cnt = k + 1
      rw [← e, (apply_cnt _ _).1, h2]
def exP (k : Nat) : RM := (doM ((exS k).tick (rencP (exC k)).data.toList) (exC k)).1
theorem exR0 : exP 0 = ⟨0, 0, []⟩ := by kernel_rfl
theorem exR1 : exP 1 = ⟨4, 0, []⟩ := by kernel_rfl
theorem exR2 : exP 2 = ⟨0, 0, []⟩ := by kernel_rfl
theorem exR3 : exP 3 = ⟨0, 0, []⟩ := by kernel_rfl
theorem exR4 : exP 4 = ⟨0, 1, [⟨0, ⟨#[112]⟩, 1, ⟨#[]⟩, ⟨#[118]⟩⟩]⟩ := by kernel_rfl
theorem exR5 : exP 5 = ⟨0, 1, []⟩ := by kernel_rfl
theorem exS_next (k : Nat) : (doM ((exS k).tick (rencP (exC k)).data.toList) (exC k)).2 = exS (k + 1) := rfl
theorem do_ex (k : Nat) (hk : k ≤ 50) {w : World} {L : LM} (h : MAt w L (exS k)) (cm : CM) (hcm : exC k = cm) (m : RM) (hm : exP k = m) (j : Nat) (hj : j = k + 1) : Calls Tryz.prog 19 #[.pointer (some ⟨L.b, 0, none⟩), .agg #[.int .i64 cm.kind, .string cm.topic, .string cm.name, .int .i64 cm.seq, .string cm.key, .string cm.val, .int .i64 cm.n, .int .i64 cm.node, .int .i64 cm.ask]] w fun e w' =>
    ∃ ao cp, e = .returned (.agg #[.int .i64 m.code, .int .i64 m.n, .slice ao m.recs.length cp]) ∧ ∃ L', MAt w' L' (exS j) ∧ MStep w w' L L' ∧ RecsAt w' (.slice ao m.recs.length cp) m.recs ∧ ∀ g, (Value.slice ao 0 cp).ownBlock = some g → ¬ L'.own g := by
  obtain ⟨o1, o2⟩ := exS_ok k (by omega)
  subst hj
  have hr := exC_right k
  have D := pdo h o1 (by omega) (by rw [o2]; omega) (exC k) (cm_ok _ hr)
  rw [apply_right _ _ hr] at D
  have e2 := exS_next k
  have e1 : (doM ((exS k).tick (rencP (exC k)).data.toList) (exC k)).1 = m := hm
  generalize doM ((exS k).tick (rencP (exC k)).data.toList) (exC k) = P at *
  generalize exS (k + 1) = S1 at *
  subst e1 e2 hcm
  exact D.mono fun e u q => by
    obtain ⟨ao, cp, q1, q2, L', q3, q4, q5⟩ := q
    exact ⟨ao, cp, q1, L', q3, q4, q2, fun g e => (q5 g e).2⟩
theorem exR6 (X : MS) : applyM X exG = (codedM 1, X.tick exG) := by
  unfold applyM
  rw [if_pos (by decide)]
theorem exT0 : ((exS 6).T [97]).map TG.fin = some 1 := by kernel_rfl
theorem exT : ∃ H, (exS 6).T [97] = some H ∧ H.fin = 1 := by
  have h := exT0
  cases e : (exS 6).T [97] with
  | none => rw [e] at h; cases h
  | some H => rw [e] at h; exact ⟨H, rfl, Option.some.inj h⟩
theorem exW : (exS 6).wan = [true, true, true, false, false, false, false] := by kernel_rfl
structure Beside (w : World) (L : LM) (t : TypeId) (l : List (Nat × Array Value)) : Prop where
  at_ : ∀ p ∈ l, w.heap[p.1]? = some (.cells p.2 t (0, 0))
  ne : ∀ p ∈ l, ¬ L.own p.1
theorem Beside.nil (w : World) (L : LM) (t : TypeId) : Beside w L t [] := ⟨fun p h => (by cases h), fun p h => (by cases h)⟩
theorem Beside.step {w w' : World} {L L' : LM} {t : TypeId} {l : List (Nat × Array Value)} (h : Beside w L t l) (s : MStep w w' L L') : Beside w' L' t l :=
  ⟨fun p hp => s.touch.at (h.at_ p hp) (h.ne p hp), fun p hp e => by
    rcases s.own _ e with e | e
    · exact h.ne p hp e
    · have := heap_lt (h.at_ p hp); omega⟩
theorem Beside.put {w : World} {L : LM} {X : MS} {t : TypeId} {l : List (Nat × Array Value)} (h : Beside w L t l) (hm : MAt w L X) (cs : Array Value) : Beside (w.alloc (.cells cs t)) L t ((w.heap.size, cs) :: l) :=
  have s : MStep w (w.alloc (.cells cs t)) L L := MStep.below ((Below.refl _ _).alloc (Nat.le_refl _) _)
  have h2 := h.step s
  ⟨fun p hp => by
    rcases List.mem_cons.1 hp with rfl | hp
    · exact heap_alloc_new w _
    · exact h2.at_ p hp, fun p hp => by
    rcases List.mem_cons.1 hp with rfl | hp
    · exact fun e => by have := hm.lim _ e; omega
    · exact h2.ne p hp⟩
end Go.Proofs.YtlfodldlkchmoaaGreat.Y
