/-
  Apply's regions (mkj14.py).
-/
import Derived.Test.YtlfodldlkchmoaaGreatZPhiT
import Derived.Test.YtlfodldlkchmoaaGreatZCA
namespace Go.Proofs.YtlfodldlkchmoaaGreat.Y
open Go.RowKit
set_option maxHeartbeats 8000000
set_option maxRecDepth 100000
attribute [local go_sem ↓] Go.wp_at_zero Go.wp_at_succ
set_option linter.unusedSimpArgs false
set_option linter.unusedVariables false
open Go.Maps
theorem frame_my (t : Array Value) (h : t.size = 41) : ∃ u : Nat → Value, t = List.toArray (u 0 :: u 1 :: u 2 :: u 3 :: u 4 :: u 5 :: u 6 :: u 7 :: u 8 :: u 9 :: u 10 :: u 11 :: u 12 :: u 13 :: u 14 :: u 15 :: u 16 :: u 17 :: u 18 :: u 19 :: u 20 :: u 21 :: u 22 :: u 23 :: u 24 :: u 25 :: u 26 :: u 27 :: u 28 :: u 29 :: u 30 :: u 31 :: u 32 :: u 33 :: u 34 :: u 35 :: u 36 :: u 37 :: u 38 :: u 39 :: u 40 :: []) := by
  refine ⟨fun i => t.getD i undef, ?_⟩
  refine Eq.trans (b := ((List.range 41).map fun i => t.getD i undef).toArray) ?_ rfl
  apply Array.ext
  · simp [h]
  · intro k h1 h2
    simp [Array.getD, h1]
structure Vmy where
  v0 : Value
  v1 : Value
  v4 : Value
  v5 : Value
  v6 : Value
structure Fmy (a : Act) (v : Vmy) : Prop where
  size : a.tmps.size = 41
  defers : a.defers = []
  s0 : a.tmps.getD 0 undef = v.v0
  s1 : a.tmps.getD 1 undef = v.v1
  s4 : a.tmps.getD 4 undef = v.v4
  s5 : a.tmps.getD 5 undef = v.v5
  s6 : a.tmps.getD 6 undef = v.v6
theorem frx_my {a : Act} {v0 v1 v4 v5 v6 : Value} (h : Fmy a ⟨v0, v1, v4, v5, v6⟩) : ∃ u : Nat → Value, a = ⟨List.toArray (v0 :: v1 :: u 2 :: u 3 :: v4 :: v5 :: v6 :: u 7 :: u 8 :: u 9 :: u 10 :: u 11 :: u 12 :: u 13 :: u 14 :: u 15 :: u 16 :: u 17 :: u 18 :: u 19 :: u 20 :: u 21 :: u 22 :: u 23 :: u 24 :: u 25 :: u 26 :: u 27 :: u 28 :: u 29 :: u 30 :: u 31 :: u 32 :: u 33 :: u 34 :: u 35 :: u 36 :: u 37 :: u 38 :: u 39 :: u 40 :: []), []⟩ := by
  obtain ⟨t', d'⟩ := a
  obtain ⟨hs, hd, q0, q1, q4, q5, q6⟩ := h
  obtain ⟨u, hu⟩ := frame_my t' hs
  simp only at hd q0 q1 q4 q5 q6
  subst hu hd
  have e0 : u 0 = v0 := q0
  have e1 : u 1 = v1 := q1
  have e4 : u 4 = v4 := q4
  have e5 : u 5 = v5 := q5
  have e6 : u 6 = v6 := q6
  refine ⟨u, ?_⟩
  rw [e0, e1, e4, e5, e6]
theorem my_ret {W : World} {a : Act} {v : Vmy} {rb : Nat} {x y : Int} {ao : Option Addr} {ln cp : Nat} {R : Ending → World → Prop} (hF : Fmy a v) (h0 : v.v4 = .pointer (some ⟨rb, 0, none⟩)) (hB : W.heap[rb]? = some (.cells #[.int .i64 x, .int .i64 y, .slice ao ln cp] 37 (0, 0))) (h : R (.returned (.agg #[.int .i64 x, .int .i64 y, .slice ao ln cp])) W) :
    bodyPost Tryz.prog Tryz.f12 R .ret a W := by
  have g0 := slot_get (hF.s4.trans h0)
  have e0 := box_cell hB 0 rfl
  have e1 := box_cell hB 1 rfl
  have e2 := box_cell hB 2 rfl
  refine bodyPost_ret (v := .agg #[.int .i64 x, .int .i64 y, .slice ao ln cp]) ?_ hF.defers h
  simp [results, Tryz.results12, go_sem, g0, e0, e1, e2]
theorem my_r0 {K : Act → World → Prop} {c : Code} (hc : regOf (Tryz.f12.body.getD .skip) 0 = some c) (a : Act) {v : Vmy} {wq : World}  (hF : Fmy a v) (hQ : ∀ a', Fmy a' { v with v4 := .pointer (some ⟨wq.heap.size, 0, none⟩) } → K a' (wq.alloc (.cells #[.int .i64 0, .int .i64 0, .slice none 0 0] 37))) :
    Code.wp Tryz.prog c (Exit.then K fun _ _ _ => False) a wq := by
  have HQ := hide hQ
  clear hQ
  obtain ⟨v0, v1, v4, v5, v6⟩ := v
  obtain ⟨u, rfl⟩ := frx_my hF
  clear hF
  simp only [Tryz.f12, Option.getD_some, regOf] at hc
  injection hc with hc
  subst hc
  go_wp2
  exact HQ.out _ ⟨rfl, rfl, rfl, rfl, rfl, rfl, rfl⟩
theorem my_r1 {K : Act → World → Prop} {c : Code} (hc : regOf (Tryz.f12.body.getD .skip) 1 = some c) (a : Act) {v : Vmy} {wq : World} {mb n : Nat} (hF : Fmy a v) (h0v : v.v0 = .pointer (some ⟨mb, 0, none⟩)) (hy : wq.cell? ⟨mb, 0, none⟩ = some (.int .i64 (n : Int))) (hf : wq.frozen? ⟨mb, 0, none⟩ = false) (hn : n ≤ 1000000)
    (hQ : ∀ a', Fmy a' v → K a' (wq.setCell ⟨mb, 0, none⟩ (.int .i64 ((n + 1 : Nat) : Int)))) :
    Code.wp Tryz.prog c (Exit.then K fun _ _ _ => False) a wq := by
  have HQ := hide hQ
  clear hQ
  obtain ⟨v0, v1, v4, v5, v6⟩ := v
  simp only at h0v HQ
  subst h0v
  obtain ⟨u, rfl⟩ := frx_my hF
  clear hF
  simp only [Tryz.f12, Option.getD_some, regOf] at hc
  injection hc with hc
  subst hc
  have e0 : IntKind.i64.wrap ((n : Int) + 1) = ((n + 1 : Nat) : Int) := by rw [IntKind.wrap_i64]; omega
  go_wp2
  exact HQ.out _ ⟨rfl, rfl, rfl, rfl, rfl, rfl, rfl⟩
theorem my_r2 {K : Act → World → Prop} {c : Code} (hc : regOf (Tryz.f12.body.getD .skip) 2 = some c) (a : Act) {v : Vmy} {wq : World} {mb : Nat} {re im re2 im2 : Int} {sx : ByteArray} (hF : Fmy a v) (h0v : v.v0 = .pointer (some ⟨mb, 0, none⟩)) (h1v : v.v1 = .string sx) (y1 : wq.cell? ⟨mb, 1, none⟩ = some (.int .i64 re)) (y2 : wq.cell? ⟨mb, 2, none⟩ = some (.int .i64 im)) (f1 : wq.frozen? ⟨mb, 1, none⟩ = false) (f2 : wq.frozen? ⟨mb, 2, none⟩ = false) (hmb : mb < wq.heap.size) (hE : Calls Tryz.prog 27 #[.agg #[.int .i64 re, .int .i64 im], .string sx] wq fun e w' => e = .returned (.tuple #[.agg #[.int .i64 re2, .int .i64 im2], .int .i64 0]) ∧ Below wq.heap.size wq w')
    (hQ : ∀ a' w1, Fmy a' v → Below wq.heap.size wq w1 → K a' ((w1.setCell ⟨mb, 1, none⟩ (.int .i64 re2)).setCell ⟨mb, 2, none⟩ (.int .i64 im2))) :
    Code.wp Tryz.prog c (Exit.then K fun _ _ _ => False) a wq := by
  have HQ := hide hQ
  clear hQ
  obtain ⟨v0, v1, v4, v5, v6⟩ := v
  simp only at h0v h1v HQ
  subst h0v h1v
  obtain ⟨u, rfl⟩ := frx_my hF
  clear hF
  simp only [Tryz.f12, Option.getD_some, regOf] at hc
  injection hc with hc
  subst hc
  have HE := hide hE
  clear hE
  have HMB := hide hmb
  clear hmb
  have HY := hide (And.intro y1 y2)
  have HF := hide (And.intro f1 f2)
  go_wp2_with (go_at_call 27; refine HE.out.mono ?_; rintro e w1 ⟨rfl, b1⟩; have B1 := hide b1; have y1b := (b1.cell (p := ⟨mb, 1, none⟩) HMB.out).trans HY.out.1; have y2b := (b1.cell (p := ⟨mb, 2, none⟩) HMB.out).trans HY.out.2; have f1b := (b1.frozen (p := ⟨mb, 1, none⟩) HMB.out).trans HF.out.1; have f2b := (b1.frozen (p := ⟨mb, 2, none⟩) HMB.out).trans HF.out.2; clear b1 y1 y2 f1 f2)
  exact HQ.out _ _ ⟨rfl, rfl, rfl, rfl, rfl, rfl, rfl⟩ B1.out
theorem my_r3 {K : Act → World → Prop} {c : Code} (hc : regOf (Tryz.f12.body.getD .skip) 3 = some c) (a : Act) {v : Vmy} {wq : World} {sx : ByteArray} {cm : CM} {fx : Int} (hF : Fmy a v) (h1v : v.v1 = .string sx) (hE : Calls Tryz.prog 28 #[.string sx] wq fun e w' => e = .returned (.tuple #[.agg #[.int .i64 cm.kind, .string cm.topic, .string cm.name, .int .i64 cm.seq, .string cm.key, .string cm.val, .int .i64 cm.n, .int .i64 cm.node, .int .i64 cm.ask], .int .i64 fx]) ∧ Below wq.heap.size wq w')
    (hQ : ∀ a' w1, Fmy a' { v with v5 := .pointer (some ⟨w1.heap.size, 0, none⟩), v6 := .int .i64 fx } → Below wq.heap.size wq w1 → K a' (w1.alloc (.cells #[.int .i64 cm.kind, .string cm.topic, .string cm.name, .int .i64 cm.seq, .string cm.key, .string cm.val, .int .i64 cm.n, .int .i64 cm.node, .int .i64 cm.ask] 31))) :
    Code.wp Tryz.prog c (Exit.then K fun _ _ _ => False) a wq := by
  have HQ := hide hQ
  clear hQ
  obtain ⟨v0, v1, v4, v5, v6⟩ := v
  simp only at h1v HQ
  subst h1v
  obtain ⟨u, rfl⟩ := frx_my hF
  clear hF
  simp only [Tryz.f12, Option.getD_some, regOf] at hc
  injection hc with hc
  subst hc
  have HE := hide hE
  clear hE
  go_wp2_with (go_at_call 28; refine HE.out.mono ?_; rintro e w1 ⟨rfl, b1⟩; have B1 := hide b1; clear b1)
  exact HQ.out _ _ ⟨rfl, rfl, rfl, rfl, rfl, rfl, rfl⟩ B1.out
theorem my_r4 {K : Act → World → Prop} {c : Code} (hc : regOf (Tryz.f12.body.getD .skip) 4 = some c) (a : Act) {v : Vmy} {wq : World} {fx : Int} (hF : Fmy a v) (h6v : v.v6 = .int .i64 fx) (hQ : ∀ a', Fmy a' v → a'.tmps.getD 32 undef = .bool (!(fx == 0)) → K a' wq) :
    Code.wp Tryz.prog c (Exit.then K fun _ _ _ => False) a wq := by
  have HQ := hide hQ
  clear hQ
  obtain ⟨v0, v1, v4, v5, v6⟩ := v
  simp only at h6v HQ
  subst h6v
  obtain ⟨u, rfl⟩ := frx_my hF
  clear hF
  simp only [Tryz.f12, Option.getD_some, regOf] at hc
  injection hc with hc
  subst hc
  go_wp2
  exact HQ.out _ ⟨rfl, rfl, rfl, rfl, rfl, rfl, rfl⟩ (by first | rfl | (simp; done))
theorem my_r5 {K : Act → World → Prop} {c : Code} (hc : regOf (Tryz.f12.body.getD .skip) 5 = some c) (a : Act) {v : Vmy} {wq : World} {rb : Nat}  (hF : Fmy a v) (h4v : v.v4 = .pointer (some ⟨rb, 0, none⟩)) (hR : wq.heap[rb]? = some (.cells #[.int .i64 0, .int .i64 0, .slice none 0 0] 37 (0, 0)))
    (hQ : ∀ a' w1, Fmy a' v → Below wq.heap.size wq w1 → K a' (set3 w1 rb (.int .i64 1) (.int .i64 0) (.slice none 0 0))) :
    Code.wp Tryz.prog c (Exit.then K fun _ _ _ => False) a wq := by
  have HQ := hide hQ
  clear hQ
  obtain ⟨v0, v1, v4, v5, v6⟩ := v
  simp only at h4v HQ
  subst h4v
  obtain ⟨u, rfl⟩ := frx_my hF
  clear hF
  simp only [Tryz.f12, Option.getD_some, regOf] at hc
  injection hc with hc
  subst hc
  have HR := hide hR
  have HE : Hid (Calls Tryz.prog 29 #[.int .i64 1] wq fun e w' => e = .returned (.agg #[.int .i64 1, .int .i64 0, .slice none 0 0]) ∧ Below wq.heap.size wq w') := pcoded 1 wq
  clear hR
  unfold set3 at HQ
  go_wp2_with (go_at_call 29; refine HE.out.mono ?_; rintro e w1 ⟨rfl, b1⟩; have hR2 := Below.at b1 HR.out; have R1 := hide b1; clear b1; have y0 := box_cell hR2 0 rfl; have y1 := box_cell hR2 1 rfl; have y2 := box_cell hR2 2 rfl; have f0 := box_free hR2 0; have f1 := box_free hR2 1; have f2 := box_free hR2 2; clear hR2)
  exact HQ.out _ _ ⟨rfl, rfl, rfl, rfl, rfl, rfl, rfl⟩ R1.out
def RelA (R : Option Addr → Nat → World → World → Prop) (st j : Nat) (w w' : World) : Prop := (j ≠ st ∧ Below w.heap.size w w') ∨ (j = st ∧ ∃ ao cp, R ao cp w w')
theorem relA_other {R : Option Addr → Nat → World → World → Prop} {st j : Nat} {w w' : World} (h : j ≠ st) (r : RelA R st j w w') : Below w.heap.size w w' := by
  rcases r with r | r
  · exact r.2
  · exact absurd r.1 h
theorem my_r6 {K : Act → World → Prop} {c : Code} (hc : regOf (Tryz.f12.body.getD .skip) 6 = some c) (a : Act) {v : Vmy} {wq : World} {mb cb rb fk ln : Nat} {cm : CM} {x y : Int} {R : Option Addr → Nat → World → World → Prop} (hF : Fmy a v) (h0v : v.v0 = .pointer (some ⟨mb, 0, none⟩)) (h4v : v.v4 = .pointer (some ⟨rb, 0, none⟩)) (h5v : v.v5 = .pointer (some ⟨cb, 0, none⟩)) (hC : wq.heap[cb]? = some (.cells #[.int .i64 cm.kind, .string cm.topic, .string cm.name, .int .i64 cm.seq, .string cm.key, .string cm.val, .int .i64 cm.n, .int .i64 cm.node, .int .i64 cm.ask] 31 (0, 0))) (hI : ∀ W, (Instr.index 80 (.agg doA) (.int .i64 cm.kind)).run Tryz.prog W = .ok (.func (.func fk) #[] #[]) W) (hk : ∀ args w, (callFunc fk args).run Tryz.prog w = .ok (.enter fk args) w) (hst : ∀ ao cp W w w', R ao cp W w → Below w.heap.size w w' → R ao cp W w') (hrb : ∀ ao cp W w, R ao cp W w → w.heap[rb]? = some (.cells #[.int .i64 0, .int .i64 0, .slice none 0 0] 37 (0, 0))) (hE : ∀ W, Below wq.heap.size wq W → Calls Tryz.prog fk #[.pointer (some ⟨mb, 0, none⟩), .agg #[.int .i64 cm.kind, .string cm.topic, .string cm.name, .int .i64 cm.seq, .string cm.key, .string cm.val, .int .i64 cm.n, .int .i64 cm.node, .int .i64 cm.ask]] W fun e w' => ∃ ao cp, e = .returned (.agg #[.int .i64 x, .int .i64 y, .slice ao ln cp]) ∧ R ao cp W w')
    (hQ : ∀ a' W w1 ao cp, Fmy a' v → Below wq.heap.size wq W → R ao cp W w1 → K a' (set3 w1 rb (.int .i64 x) (.int .i64 y) (.slice ao ln cp))) :
    Code.wp Tryz.prog c (Exit.then K fun _ _ _ => False) a wq := by
  have HQ := hide hQ
  clear hQ
  obtain ⟨v0, v1, v4, v5, v6⟩ := v
  simp only at h0v h4v h5v HQ
  subst h0v h4v h5v
  obtain ⟨u, rfl⟩ := frx_my hF
  clear hF
  simp only [Tryz.f12, Option.getD_some, regOf] at hc
  injection hc with hc
  subst hc
  have HI := hide hI
  have HKF := hide hk
  have HST := hide hst
  have HRB := hide hrb
  have HE := hide hE
  clear hI hk hst hrb hE
  refine wp_region_last 7 rfl (by kernel_rfl) rfl rfl (by kernel_rfl) ?_
  intro ops' hops'
  simp only [idle, List.setIfInBounds_toArray, List.set_cons_succ, List.set_cons_zero] at hops'
  subst hops'
  refine wpAny_storeT (ns := 41) (uses := (fun i => match i with | 0 => [34] | 1 => [35] | 2 => [36] | 3 => [37] | 4 => [38] | 5 => [39] | 6 => [40] | 7 => [] | _ => [])) (by kernel_rfl) (by kernel_rfl) (fun j w w' => RelA R 6 j w w') 6 (by decide) (fun bb w => if bb then True else Below wq.heap.size wq w) (fun j b w w' hj h r => by cases b with | true => trivial | false => exact Below.trans h ((relA_other hj r).mono (Below.size h))) (fun w w' h r => trivial) ((Below.refl _ _).drew) (fun i => match i with | 0 => fun s w => s 34 = .agg doA | 1 => fun s w => s 35 = .pointer (some ⟨cb, 0, none⟩) | 2 => fun s w => s 36 = .int .i64 cm.kind | 3 => fun s w => s 37 = .func (.func fk) #[] #[] | 4 => fun s w => s 38 = .pointer (some ⟨mb, 0, none⟩) | 5 => fun s w => s 39 = .agg #[.int .i64 cm.kind, .string cm.topic, .string cm.name, .int .i64 cm.seq, .string cm.key, .string cm.val, .int .i64 cm.n, .int .i64 cm.node, .int .i64 cm.ask] | 6 => fun s w => ∃ ao cp W0, s 40 = .agg #[.int .i64 x, .int .i64 y, .slice ao ln cp] ∧ Below wq.heap.size wq W0 ∧ R ao cp W0 w | 7 => fun s w => True | _ => fun _ _ => True) ?phc ?phh ?pstep ?pdone
  case phc =>
    intro i s s' w hx h
    match i, hx, h with
    | 0, hx, h =>
      have e34 := hx 34 (by simp)
      first | exact (show _ from by simp only [← e34] at *; exact h) | (simp only [e34] at h; exact h)
    | 1, hx, h =>
      have e35 := hx 35 (by simp)
      first | exact (show _ from by simp only [← e35] at *; exact h) | (simp only [e35] at h; exact h)
    | 2, hx, h =>
      have e36 := hx 36 (by simp)
      first | exact (show _ from by simp only [← e36] at *; exact h) | (simp only [e36] at h; exact h)
    | 3, hx, h =>
      have e37 := hx 37 (by simp)
      first | exact (show _ from by simp only [← e37] at *; exact h) | (simp only [e37] at h; exact h)
    | 4, hx, h =>
      have e38 := hx 38 (by simp)
      first | exact (show _ from by simp only [← e38] at *; exact h) | (simp only [e38] at h; exact h)
    | 5, hx, h =>
      have e39 := hx 39 (by simp)
      first | exact (show _ from by simp only [← e39] at *; exact h) | (simp only [e39] at h; exact h)
    | 6, hx, h =>
      have e40 := hx 40 (by simp)
      first | exact (show _ from by simp only [← e40] at *; exact h) | (simp only [e40] at h; exact h)
    | 7, hx, h =>
      exact h
    | (n + 8), _, h => exact h
  case phh =>
    intro i j s w w' hij h r
    match i, hij, h with
    | 0, hij, h =>
      exact h
    | 1, hij, h =>
      exact h
    | 2, hij, h =>
      exact h
    | 3, hij, h =>
      exact h
    | 4, hij, h =>
      exact h
    | 5, hij, h =>
      exact h
    | 6, hij, h =>
      obtain ⟨ao, cp, W0, h1, h2, h3⟩ := h
      exact ⟨ao, cp, W0, h1, h2, HST.out _ _ _ _ _ h3 (relA_other (fun e => hij e.symm) r)⟩
    | 7, hij, h =>
      exact h
    | (n + 8), _, h => exact h
  case pstep =>
    intro i o ho a' w' bb hbb hsa hb hd
    match i, ho with
    | 0, ho =>
      obtain rfl := Option.some.inj ho
      try dsimp only at hd
      refine wpOp_of rfl rfl ?_
      refine op_call 30 _ _ rfl (enters_of Tryz.func30 (by kernel_rfl) rfl) [] (by simp only [List.map, Act.eval]) (pdoings w') ?_
      rintro e w'' ⟨rfl, b2⟩
      refine ⟨_, rfl, _, rfl, ?_, ?_⟩
      · try dsimp only
        exact (slots_put (ns := 41) (hsa.size.trans rfl) (by decide))
      · exact .inl ⟨by decide, b2⟩
    | 1, ho =>
      obtain rfl := Option.some.inj ho
      try dsimp only at hd
      have g5 : a'.tmps.getD 5 undef = .pointer (some ⟨cb, 0, none⟩) := hsa.rest 5 (by rfl)
      refine wpOp_of rfl rfl ?_
      refine op_run (v := .pointer (some ⟨cb, 0, none⟩)) (w' := w') ?_ ⟨_, rfl, ?_, ?_⟩
      · simp only [execOp, Act.eval, List.map_toArray, List.map_cons, List.map_nil, g5]; first | (go_simp; done) | rfl
      · try dsimp only
        exact (slots_put (ns := 41) (hsa.size.trans rfl) (by decide))
      · exact .inl ⟨by decide, Below.refl _ _⟩
    | 2, ho =>
      obtain rfl := Option.some.inj ho
      try dsimp only at hd
      obtain rfl := hbb (by kernel_rfl)
      have hb0 := hb
      have d1 : a'.tmps.getD 35 undef = .pointer (some ⟨cb, 0, none⟩) := hd 1 (by rfl)
      have z0 : w'.cell? ⟨cb, 0, none⟩ = some (.int .i64 cm.kind) := (hb0.cell (p := ⟨cb, 0, none⟩) (heap_lt hC)).trans (box_cell hC 0 rfl)
      refine wpOp_of rfl rfl ?_
      refine op_run (v := .int .i64 cm.kind) (w' := w') ?_ ⟨_, rfl, ?_, ?_⟩
      · simp only [execOp, Act.eval, List.map_toArray, List.map_cons, List.map_nil, d1, z0]; first | (go_simp; done) | rfl
      · try dsimp only
        exact (slots_put (ns := 41) (hsa.size.trans rfl) (by decide))
      · exact .inl ⟨by decide, Below.refl _ _⟩
    | 3, ho =>
      obtain rfl := Option.some.inj ho
      try dsimp only at hd
      have d0 : a'.tmps.getD 34 undef = .agg doA := hd 0 (by rfl)
      have d2 : a'.tmps.getD 36 undef = .int .i64 cm.kind := hd 2 (by rfl)
      have hl := HI.out w'
      refine wpOp_of rfl rfl ?_
      refine op_run (v := .func (.func fk) #[] #[]) (w' := w') ?_ ⟨_, rfl, ?_, ?_⟩
      · simp only [execOp, Act.eval, List.map_toArray, List.map_cons, List.map_nil, d0, d2, hl]; first | (go_simp; done) | rfl
      · try dsimp only
        exact (slots_put (ns := 41) (hsa.size.trans rfl) (by decide))
      · exact .inl ⟨by decide, Below.refl _ _⟩
    | 4, ho =>
      obtain rfl := Option.some.inj ho
      try dsimp only at hd
      have g0 : a'.tmps.getD 0 undef = .pointer (some ⟨mb, 0, none⟩) := hsa.rest 0 (by rfl)
      refine wpOp_of rfl rfl ?_
      refine op_run (v := .pointer (some ⟨mb, 0, none⟩)) (w' := w') ?_ ⟨_, rfl, ?_, ?_⟩
      · simp only [execOp, Act.eval, List.map_toArray, List.map_cons, List.map_nil, g0]; first | (go_simp; done) | rfl
      · try dsimp only
        exact (slots_put (ns := 41) (hsa.size.trans rfl) (by decide))
      · exact .inl ⟨by decide, Below.refl _ _⟩
    | 5, ho =>
      obtain rfl := Option.some.inj ho
      try dsimp only at hd
      obtain rfl := hbb (by kernel_rfl)
      have hb0 := hb
      have g5 : a'.tmps.getD 5 undef = .pointer (some ⟨cb, 0, none⟩) := hsa.rest 5 (by rfl)
      have z0 : w'.cell? ⟨cb, 0, none⟩ = some (.int .i64 cm.kind) := (hb0.cell (p := ⟨cb, 0, none⟩) (heap_lt hC)).trans (box_cell hC 0 rfl)
      have z1 : w'.cell? ⟨cb, 1, none⟩ = some (.string cm.topic) := (hb0.cell (p := ⟨cb, 1, none⟩) (heap_lt hC)).trans (box_cell hC 1 rfl)
      have z2 : w'.cell? ⟨cb, 2, none⟩ = some (.string cm.name) := (hb0.cell (p := ⟨cb, 2, none⟩) (heap_lt hC)).trans (box_cell hC 2 rfl)
      have z3 : w'.cell? ⟨cb, 3, none⟩ = some (.int .i64 cm.seq) := (hb0.cell (p := ⟨cb, 3, none⟩) (heap_lt hC)).trans (box_cell hC 3 rfl)
      have z4 : w'.cell? ⟨cb, 4, none⟩ = some (.string cm.key) := (hb0.cell (p := ⟨cb, 4, none⟩) (heap_lt hC)).trans (box_cell hC 4 rfl)
      have z5 : w'.cell? ⟨cb, 5, none⟩ = some (.string cm.val) := (hb0.cell (p := ⟨cb, 5, none⟩) (heap_lt hC)).trans (box_cell hC 5 rfl)
      have z6 : w'.cell? ⟨cb, 6, none⟩ = some (.int .i64 cm.n) := (hb0.cell (p := ⟨cb, 6, none⟩) (heap_lt hC)).trans (box_cell hC 6 rfl)
      have z7 : w'.cell? ⟨cb, 7, none⟩ = some (.int .i64 cm.node) := (hb0.cell (p := ⟨cb, 7, none⟩) (heap_lt hC)).trans (box_cell hC 7 rfl)
      have z8 : w'.cell? ⟨cb, 8, none⟩ = some (.int .i64 cm.ask) := (hb0.cell (p := ⟨cb, 8, none⟩) (heap_lt hC)).trans (box_cell hC 8 rfl)
      refine wpOp_of rfl rfl ?_
      refine op_run (v := .agg #[.int .i64 cm.kind, .string cm.topic, .string cm.name, .int .i64 cm.seq, .string cm.key, .string cm.val, .int .i64 cm.n, .int .i64 cm.node, .int .i64 cm.ask]) (w' := w') ?_ ⟨_, rfl, ?_, ?_⟩
      · simp only [execOp, Act.eval, List.map_toArray, List.map_cons, List.map_nil, g5, z0, z1, z2, z3, z4, z5, z6, z7, z8]; first | (go_simp; done) | rfl
      · try dsimp only
        exact (slots_put (ns := 41) (hsa.size.trans rfl) (by decide))
      · exact .inl ⟨by decide, Below.refl _ _⟩
    | 6, ho =>
      obtain rfl := Option.some.inj ho
      try dsimp only at hd
      obtain rfl := hbb (by kernel_rfl)
      have hb0 := hb
      have d3 : a'.tmps.getD 37 undef = .func (.func fk) #[] #[] := hd 3 (by rfl)
      have d4 : a'.tmps.getD 38 undef = .pointer (some ⟨mb, 0, none⟩) := hd 4 (by rfl)
      have d5 : a'.tmps.getD 39 undef = .agg #[.int .i64 cm.kind, .string cm.topic, .string cm.name, .int .i64 cm.seq, .string cm.key, .string cm.val, .int .i64 cm.n, .int .i64 cm.node, .int .i64 cm.ask] := hd 5 (by rfl)
      refine wpOp_of rfl rfl ?_
      refine op_callvM (.tmp 37) _ _ rfl fk [] (by simp only [Act.eval, d3, d4, d5] <;> rfl) HKF.out [.pointer (some ⟨mb, 0, none⟩), .agg #[.int .i64 cm.kind, .string cm.topic, .string cm.name, .int .i64 cm.seq, .string cm.key, .string cm.val, .int .i64 cm.n, .int .i64 cm.node, .int .i64 cm.ask]] (by simp only [List.map, Act.eval, d3, d4, d5]) (HE.out w' hb0) ?_
      rintro e w'' ⟨ao, cp, rfl, hr2⟩
      refine ⟨_, rfl, _, rfl, ?_, ?_⟩
      · try dsimp only
        exact ⟨ao, cp, w', (slots_put (ns := 41) (hsa.size.trans rfl) (by decide)), hb0, hr2⟩
      · exact .inr ⟨rfl, ao, cp, hr2⟩
    | 7, ho =>
      obtain rfl := Option.some.inj ho
      try dsimp only at hd
      refine wpOp_of rfl rfl ?_
      refine op_run (v := undef) (w' := w') ?_ ⟨_, rfl, ?_, ?_⟩
      · rfl
      · try dsimp only
        trivial
      · exact .inl ⟨by decide, Below.refl _ _⟩
    | (n + 8), ho => exact absurd ho (by simp)
  case pdone =>
    intro a' w' hsa hb hd
    have d0 : a'.tmps.getD 34 undef = .agg doA := hd 0 (by decide)
    have d1 : a'.tmps.getD 35 undef = .pointer (some ⟨cb, 0, none⟩) := hd 1 (by decide)
    have d2 : a'.tmps.getD 36 undef = .int .i64 cm.kind := hd 2 (by decide)
    have d3 : a'.tmps.getD 37 undef = .func (.func fk) #[] #[] := hd 3 (by decide)
    have d4 : a'.tmps.getD 38 undef = .pointer (some ⟨mb, 0, none⟩) := hd 4 (by decide)
    have d5 : a'.tmps.getD 39 undef = .agg #[.int .i64 cm.kind, .string cm.topic, .string cm.name, .int .i64 cm.seq, .string cm.key, .string cm.val, .int .i64 cm.n, .int .i64 cm.node, .int .i64 cm.ask] := hd 5 (by decide)
    have d6 : ∃ ao cp W0, a'.tmps.getD 40 undef = .agg #[.int .i64 x, .int .i64 y, .slice ao ln cp] ∧ Below wq.heap.size wq W0 ∧ R ao cp W0 w' := hd 6 (by decide)
    have d7 : True := hd 7 (by decide)
    intro K2 hK2
    obtain ⟨ao, cp, W0, k1, k2, k3⟩ := d6
    have hR2 := HRB.out _ _ _ _ k3
    have y0 := box_cell hR2 0 rfl
    have y1 := box_cell hR2 1 rfl
    have y2 := box_cell hR2 2 rfl
    have f0 := box_free hR2 0
    have f1 := box_free hR2 1
    have f2 := box_free hR2 2
    have g4 : a'.tmps.getD 4 undef = .pointer (some ⟨rb, 0, none⟩) := hsa.rest 4 (by rfl)
    refine op_skip (w' := set3 w' rb (.int .i64 x) (.int .i64 y) (.slice ao ln cp)) ?_ (hK2 _ _ ?_)
    · unfold set3
      simp only [execOp, Act.eval, k1, g4]
      first | (go_simp; done) | (go_simp; rfl)
    exact HQ.out _ _ _ _ _ ⟨hsa.size.trans rfl, hsa.defers.trans rfl, hsa.rest 0 (by rfl), hsa.rest 1 (by rfl), hsa.rest 4 (by rfl), hsa.rest 5 (by rfl), hsa.rest 6 (by rfl)⟩ k2 k3
end Go.Proofs.YtlfodldlkchmoaaGreat.Y
