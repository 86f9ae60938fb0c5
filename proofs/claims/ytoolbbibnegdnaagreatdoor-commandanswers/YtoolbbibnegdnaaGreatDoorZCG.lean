/-
  recordOf (mkcg.py)
-/
import Derived.Test.YtoolbbibnegdnaaGreatDoorZC9
import Derived.Test.YtoolbbibnegdnaaGreatDoorZHA
import Derived.Test.YtoolbbibnegdnaaGreatDoorZLast
namespace Go.Proofs.YtoolbbibnegdnaaGreatDoor
open Go.RowKit

attribute [local go_sem ↓] Go.wp_at_zero Go.wp_at_succ
set_option linter.unusedSimpArgs false
set_option linter.unusedVariables false
set_option maxRecDepth 100000 in
theorem frame_ro (t : Array Value) (h : t.size = 26) : ∃ u : Nat → Value, t = List.toArray (u 0 :: u 1 :: u 2 :: u 3 :: u 4 :: u 5 :: u 6 :: u 7 :: u 8 :: u 9 :: u 10 :: u 11 :: u 12 :: u 13 :: u 14 :: u 15 :: u 16 :: u 17 :: u 18 :: u 19 :: u 20 :: u 21 :: u 22 :: u 23 :: u 24 :: u 25 :: []) := by
  refine ⟨fun i => t.getD i undef, ?_⟩
  have e : (List.toArray ((fun i => t.getD i undef) 0 :: (fun i => t.getD i undef) 1 :: (fun i => t.getD i undef) 2 :: (fun i => t.getD i undef) 3 :: (fun i => t.getD i undef) 4 :: (fun i => t.getD i undef) 5 :: (fun i => t.getD i undef) 6 :: (fun i => t.getD i undef) 7 :: (fun i => t.getD i undef) 8 :: (fun i => t.getD i undef) 9 :: (fun i => t.getD i undef) 10 :: (fun i => t.getD i undef) 11 :: (fun i => t.getD i undef) 12 :: (fun i => t.getD i undef) 13 :: (fun i => t.getD i undef) 14 :: (fun i => t.getD i undef) 15 :: (fun i => t.getD i undef) 16 :: (fun i => t.getD i undef) 17 :: (fun i => t.getD i undef) 18 :: (fun i => t.getD i undef) 19 :: (fun i => t.getD i undef) 20 :: (fun i => t.getD i undef) 21 :: (fun i => t.getD i undef) 22 :: (fun i => t.getD i undef) 23 :: (fun i => t.getD i undef) 24 :: (fun i => t.getD i undef) 25 :: []) : Array Value) = ((List.range 26).map fun i => t.getD i undef).toArray := rfl
  refine Eq.trans ?_ e.symm
  apply Array.ext
  · simp [h]
  · intro k h1 h2
    simp [Array.getD, h1]
/-- The slots that matter. -/
structure Vro where
  v0 : Value
  v2 : Value
structure Fro (a : Act) (v : Vro) : Prop where
  size : a.tmps.size = 26
  defers : a.defers = []
  s0 : a.tmps.getD 0 undef = v.v0
  s2 : a.tmps.getD 2 undef = v.v2
set_option maxHeartbeats 8000000 in
set_option maxRecDepth 100000 in
theorem ro_r1 {K : Act → World → Prop} {c : Code} (hc : regOf (Tryz.f59.body.getD .skip) 1 = some c) (a : Act) {v : Vro} {wq : World} {g off rb B : Nat} {x0 x1 x2 x3 x4 : ItC} (hF : Fro a v) (h0v : v.v0 = .slice (some ⟨g, off, none⟩) 5 5) (h2v : v.v2 = .pointer (some ⟨rb, 0, none⟩)) (hg : g < wq.heap.size) (hR : wq.heap[rb]? = some (.cells #[.int .i64 0, .string ⟨#[]⟩, .int .i64 0, .string ⟨#[]⟩, .string ⟨#[]⟩] 46 (0, 0))) (hrb : B ≤ rb) (hB : B ≤ wq.heap.size) (y0 : wq.cell? ⟨g, off + 1, none⟩ = some (.int .u64 x0.n)) (y1 : wq.cell? ⟨g, off + 5, none⟩ = some (.string x1.s)) (y2 : wq.cell? ⟨g, off + 7, none⟩ = some (.int .u64 x2.n)) (y3 : wq.cell? ⟨g, off + 11, none⟩ = some (.string x3.s)) (y4 : wq.cell? ⟨g, off + 14, none⟩ = some (.string x4.s))
    (hQ : ∀ a' w', Fro a' v → w'.heap[rb]? = some (.cells #[.int .i64 (IntKind.i64.wrap x0.n), .string x1.s, .int .i64 (IntKind.i64.wrap x2.n), .string x3.s, .string x4.s] 46 (0, 0)) → Below B wq w' → K a' w') :
    Code.wp Tryz.prog c (Exit.then K fun _ _ _ => False) a wq := by
  have HQ := hide hQ
  clear hQ
  obtain ⟨t', d'⟩ := a
  obtain ⟨v0, v2⟩ := v
  simp only at h0v h2v HQ
  subst h0v h2v
  obtain ⟨hs1, hd1, q0, q2⟩ := hF
  obtain ⟨u, hu⟩ := frame_ro t' hs1
  simp only at hd1 q0 q2
  subst hu hd1
  have e0 : u 0 = .slice (some ⟨g, off, none⟩) 5 5 := q0
  have e2 : u 2 = .pointer (some ⟨rb, 0, none⟩) := q2
  rw [e0, e2]
  clear q0 e0 q2 e2 hs1
  simp only [Tryz.f59, Option.getD_some, regOf] at hc
  injection hc with hc
  subst hc
  generalize u 1 = u1
  generalize u 3 = u3
  generalize u 4 = u4
  generalize u 5 = u5
  generalize u 6 = u6
  generalize u 7 = u7
  generalize u 8 = u8
  generalize u 9 = u9
  generalize u 10 = u10
  generalize u 11 = u11
  generalize u 12 = u12
  generalize u 13 = u13
  generalize u 14 = u14
  generalize u 15 = u15
  generalize u 16 = u16
  generalize u 17 = u17
  generalize u 18 = u18
  generalize u 19 = u19
  generalize u 20 = u20
  generalize u 21 = u21
  generalize u 22 = u22
  generalize u 23 = u23
  generalize u 24 = u24
  generalize u 25 = u25
  clear u
  refine wp_region_last 23 rfl (by kernel_rfl) rfl rfl (by kernel_rfl) ?_
  intro ops' hops'
  simp only [idle, List.setIfInBounds_toArray, List.set_cons_succ, List.set_cons_zero] at hops'
  subst hops'
  refine wpAny_phi (ns := 26) (uses := (fun i => match i with | 0 => [3] | 1 => [4] | 2 => [5] | 3 => [6] | 4 => [7] | 5 => [8] | 6 => [9] | 7 => [10] | 8 => [11] | 9 => [12] | 10 => [13] | 11 => [14] | 12 => [15] | 13 => [16] | 14 => [17] | 15 => [18] | 16 => [19] | 17 => [20] | 18 => [21] | 19 => [22] | 20 => [23] | 21 => [24] | 22 => [25] | 23 => [] | _ => [])) (by kernel_rfl) (by kernel_rfl) (fun _ w w' => Below w.heap.size w w') (fun w => Below wq.heap.size wq w) (fun _ _ _ h r => h.trans (r.mono h.size)) ((Below.refl _ _).drew) (fun i => match i with | 0 => fun s w => s 3 = .slice (some ⟨g, off, none⟩) 5 5 | 1 => fun s w => s 4 = .pointer (some ⟨g, off, none⟩) | 2 => fun s w => s 5 = .pointer (some ⟨g, off + 1, none⟩) | 3 => fun s w => s 6 = .int .u64 x0.n | 4 => fun s w => s 7 = .int .i64 (IntKind.i64.wrap x0.n) | 5 => fun s w => s 8 = .slice (some ⟨g, off, none⟩) 5 5 | 6 => fun s w => s 9 = .pointer (some ⟨g, off + 3, none⟩) | 7 => fun s w => s 10 = .pointer (some ⟨g, off + 5, none⟩) | 8 => fun s w => s 11 = .string x1.s | 9 => fun s w => s 12 = .slice (some ⟨g, off, none⟩) 5 5 | 10 => fun s w => s 13 = .pointer (some ⟨g, off + 6, none⟩) | 11 => fun s w => s 14 = .pointer (some ⟨g, off + 7, none⟩) | 12 => fun s w => s 15 = .int .u64 x2.n | 13 => fun s w => s 16 = .int .i64 (IntKind.i64.wrap x2.n) | 14 => fun s w => s 17 = .slice (some ⟨g, off, none⟩) 5 5 | 15 => fun s w => s 18 = .pointer (some ⟨g, off + 9, none⟩) | 16 => fun s w => s 19 = .pointer (some ⟨g, off + 11, none⟩) | 17 => fun s w => s 20 = .string x3.s | 18 => fun s w => s 21 = .slice (some ⟨g, off, none⟩) 5 5 | 19 => fun s w => s 22 = .pointer (some ⟨g, off + 12, none⟩) | 20 => fun s w => s 23 = .pointer (some ⟨g, off + 14, none⟩) | 21 => fun s w => s 24 = .string x4.s | 22 => fun s w => s 25 = .agg #[.int .i64 (IntKind.i64.wrap x0.n), .string x1.s, .int .i64 (IntKind.i64.wrap x2.n), .string x3.s, .string x4.s] | 23 => fun s w => True | _ => fun _ _ => True) ?phc ?phh ?pstep ?pdone
  case phc =>
    intro i s s' w hx h
    match i, hx, h with
    | 0, hx, h =>
      have e3 := hx 3 (by simp)
      first | exact (show _ from by simp only [← e3] at *; exact h) | (simp only [e3] at h; exact h)
    | 1, hx, h =>
      have e4 := hx 4 (by simp)
      first | exact (show _ from by simp only [← e4] at *; exact h) | (simp only [e4] at h; exact h)
    | 2, hx, h =>
      have e5 := hx 5 (by simp)
      first | exact (show _ from by simp only [← e5] at *; exact h) | (simp only [e5] at h; exact h)
    | 3, hx, h =>
      have e6 := hx 6 (by simp)
      first | exact (show _ from by simp only [← e6] at *; exact h) | (simp only [e6] at h; exact h)
    | 4, hx, h =>
      have e7 := hx 7 (by simp)
      first | exact (show _ from by simp only [← e7] at *; exact h) | (simp only [e7] at h; exact h)
    | 5, hx, h =>
      have e8 := hx 8 (by simp)
      first | exact (show _ from by simp only [← e8] at *; exact h) | (simp only [e8] at h; exact h)
    | 6, hx, h =>
      have e9 := hx 9 (by simp)
      first | exact (show _ from by simp only [← e9] at *; exact h) | (simp only [e9] at h; exact h)
    | 7, hx, h =>
      have e10 := hx 10 (by simp)
      first | exact (show _ from by simp only [← e10] at *; exact h) | (simp only [e10] at h; exact h)
    | 8, hx, h =>
      have e11 := hx 11 (by simp)
      first | exact (show _ from by simp only [← e11] at *; exact h) | (simp only [e11] at h; exact h)
    | 9, hx, h =>
      have e12 := hx 12 (by simp)
      first | exact (show _ from by simp only [← e12] at *; exact h) | (simp only [e12] at h; exact h)
    | 10, hx, h =>
      have e13 := hx 13 (by simp)
      first | exact (show _ from by simp only [← e13] at *; exact h) | (simp only [e13] at h; exact h)
    | 11, hx, h =>
      have e14 := hx 14 (by simp)
      first | exact (show _ from by simp only [← e14] at *; exact h) | (simp only [e14] at h; exact h)
    | 12, hx, h =>
      have e15 := hx 15 (by simp)
      first | exact (show _ from by simp only [← e15] at *; exact h) | (simp only [e15] at h; exact h)
    | 13, hx, h =>
      have e16 := hx 16 (by simp)
      first | exact (show _ from by simp only [← e16] at *; exact h) | (simp only [e16] at h; exact h)
    | 14, hx, h =>
      have e17 := hx 17 (by simp)
      first | exact (show _ from by simp only [← e17] at *; exact h) | (simp only [e17] at h; exact h)
    | 15, hx, h =>
      have e18 := hx 18 (by simp)
      first | exact (show _ from by simp only [← e18] at *; exact h) | (simp only [e18] at h; exact h)
    | 16, hx, h =>
      have e19 := hx 19 (by simp)
      first | exact (show _ from by simp only [← e19] at *; exact h) | (simp only [e19] at h; exact h)
    | 17, hx, h =>
      have e20 := hx 20 (by simp)
      first | exact (show _ from by simp only [← e20] at *; exact h) | (simp only [e20] at h; exact h)
    | 18, hx, h =>
      have e21 := hx 21 (by simp)
      first | exact (show _ from by simp only [← e21] at *; exact h) | (simp only [e21] at h; exact h)
    | 19, hx, h =>
      have e22 := hx 22 (by simp)
      first | exact (show _ from by simp only [← e22] at *; exact h) | (simp only [e22] at h; exact h)
    | 20, hx, h =>
      have e23 := hx 23 (by simp)
      first | exact (show _ from by simp only [← e23] at *; exact h) | (simp only [e23] at h; exact h)
    | 21, hx, h =>
      have e24 := hx 24 (by simp)
      first | exact (show _ from by simp only [← e24] at *; exact h) | (simp only [e24] at h; exact h)
    | 22, hx, h =>
      have e25 := hx 25 (by simp)
      first | exact (show _ from by simp only [← e25] at *; exact h) | (simp only [e25] at h; exact h)
    | 23, hx, h =>
      exact h
    | (n + 24), _, h => exact h
  case phh =>
    intro i j s w w' hij h hb r
    match i, hij, h with
    | 0, hij, h =>
      exact h
    | 1, hij, h =>
      exact h
    | 2, hij, h =>
      exact h
    | 3, hij, h =>
      exact h
    | 4, hij, h =>
      exact h
    | 5, hij, h =>
      exact h
    | 6, hij, h =>
      exact h
    | 7, hij, h =>
      exact h
    | 8, hij, h =>
      exact h
    | 9, hij, h =>
      exact h
    | 10, hij, h =>
      exact h
    | 11, hij, h =>
      exact h
    | 12, hij, h =>
      exact h
    | 13, hij, h =>
      exact h
    | 14, hij, h =>
      exact h
    | 15, hij, h =>
      exact h
    | 16, hij, h =>
      exact h
    | 17, hij, h =>
      exact h
    | 18, hij, h =>
      exact h
    | 19, hij, h =>
      exact h
    | 20, hij, h =>
      exact h
    | 21, hij, h =>
      exact h
    | 22, hij, h =>
      exact h
    | 23, hij, h =>
      exact h
    | (n + 24), _, h => exact h
  case pstep =>
    intro i o ho a' w' hsa hb hd
    match i, ho with
    | 0, ho =>
      obtain rfl := Option.some.inj ho
      try dsimp only at hd
      have g0 : a'.tmps.getD 0 undef = .slice (some ⟨g, off, none⟩) 5 5 := hsa.rest 0 (by rfl)
      refine wpOp_of rfl rfl ?_
      refine op_run (v := .slice (some ⟨g, off, none⟩) 5 5) (w' := w') ?_ ⟨_, rfl, ?_, ?_⟩
      · simp only [execOp, Act.eval, List.map_toArray, List.map_cons, List.map_nil, g0]; first | (go_simp; done) | rfl
      · try dsimp only
        exact (slots_put (ns := 26) (hsa.size.trans rfl) (by decide))
      · exact Below.refl _ _
    | 1, ho =>
      obtain rfl := Option.some.inj ho
      try dsimp only at hd
      have d0 : a'.tmps.getD 3 undef = .slice (some ⟨g, off, none⟩) 5 5 := hd 0 (by rfl)
      refine wpOp_of rfl rfl ?_
      refine op_run (v := .pointer (some ⟨g, off, none⟩)) (w' := w') ?_ ⟨_, rfl, ?_, ?_⟩
      · simp only [execOp, Act.eval, List.map_toArray, List.map_cons, List.map_nil, d0]; first | (go_simp; done) | rfl
      · try dsimp only
        exact (slots_put (ns := 26) (hsa.size.trans rfl) (by decide))
      · exact Below.refl _ _
    | 2, ho =>
      obtain rfl := Option.some.inj ho
      try dsimp only at hd
      have d1 : a'.tmps.getD 4 undef = .pointer (some ⟨g, off, none⟩) := hd 1 (by rfl)
      refine wpOp_of rfl rfl ?_
      refine op_run (v := .pointer (some ⟨g, off + 1, none⟩)) (w' := w') ?_ ⟨_, rfl, ?_, ?_⟩
      · simp only [execOp, Act.eval, List.map_toArray, List.map_cons, List.map_nil, d1]; first | (go_simp; done) | rfl
      · try dsimp only
        exact (slots_put (ns := 26) (hsa.size.trans rfl) (by decide))
      · exact Below.refl _ _
    | 3, ho =>
      obtain rfl := Option.some.inj ho
      try dsimp only at hd
      have d2 : a'.tmps.getD 5 undef = .pointer (some ⟨g, off + 1, none⟩) := hd 2 (by rfl)
      have y0 : w'.cell? ⟨g, off + 1, none⟩ = some (.int .u64 x0.n) := (hb.cell (p := ⟨g, off + 1, none⟩) hg).trans y0
      refine wpOp_of rfl rfl ?_
      refine op_run (v := .int .u64 x0.n) (w' := w') ?_ ⟨_, rfl, ?_, ?_⟩
      · simp only [execOp, Act.eval, List.map_toArray, List.map_cons, List.map_nil, d2, y0]; first | (go_simp; done) | rfl
      · try dsimp only
        exact (slots_put (ns := 26) (hsa.size.trans rfl) (by decide))
      · exact Below.refl _ _
    | 4, ho =>
      obtain rfl := Option.some.inj ho
      try dsimp only at hd
      have d3 : a'.tmps.getD 6 undef = .int .u64 x0.n := hd 3 (by rfl)
      refine wpOp_of rfl rfl ?_
      refine op_run (v := .int .i64 (IntKind.i64.wrap x0.n)) (w' := w') ?_ ⟨_, rfl, ?_, ?_⟩
      · simp only [execOp, Act.eval, List.map_toArray, List.map_cons, List.map_nil, d3]; first | (go_simp; done) | rfl
      · try dsimp only
        exact (slots_put (ns := 26) (hsa.size.trans rfl) (by decide))
      · exact Below.refl _ _
    | 5, ho =>
      obtain rfl := Option.some.inj ho
      try dsimp only at hd
      have g0 : a'.tmps.getD 0 undef = .slice (some ⟨g, off, none⟩) 5 5 := hsa.rest 0 (by rfl)
      refine wpOp_of rfl rfl ?_
      refine op_run (v := .slice (some ⟨g, off, none⟩) 5 5) (w' := w') ?_ ⟨_, rfl, ?_, ?_⟩
      · simp only [execOp, Act.eval, List.map_toArray, List.map_cons, List.map_nil, g0]; first | (go_simp; done) | rfl
      · try dsimp only
        exact (slots_put (ns := 26) (hsa.size.trans rfl) (by decide))
      · exact Below.refl _ _
    | 6, ho =>
      obtain rfl := Option.some.inj ho
      try dsimp only at hd
      have d5 : a'.tmps.getD 8 undef = .slice (some ⟨g, off, none⟩) 5 5 := hd 5 (by rfl)
      refine wpOp_of rfl rfl ?_
      refine op_run (v := .pointer (some ⟨g, off + 3, none⟩)) (w' := w') ?_ ⟨_, rfl, ?_, ?_⟩
      · simp only [execOp, Act.eval, List.map_toArray, List.map_cons, List.map_nil, d5]; first | (go_simp; done) | rfl
      · try dsimp only
        exact (slots_put (ns := 26) (hsa.size.trans rfl) (by decide))
      · exact Below.refl _ _
    | 7, ho =>
      obtain rfl := Option.some.inj ho
      try dsimp only at hd
      have d6 : a'.tmps.getD 9 undef = .pointer (some ⟨g, off + 3, none⟩) := hd 6 (by rfl)
      refine wpOp_of rfl rfl ?_
      refine op_run (v := .pointer (some ⟨g, off + 5, none⟩)) (w' := w') ?_ ⟨_, rfl, ?_, ?_⟩
      · simp only [execOp, Act.eval, List.map_toArray, List.map_cons, List.map_nil, d6]; first | (go_simp; done) | rfl
      · try dsimp only
        exact (slots_put (ns := 26) (hsa.size.trans rfl) (by decide))
      · exact Below.refl _ _
    | 8, ho =>
      obtain rfl := Option.some.inj ho
      try dsimp only at hd
      have d7 : a'.tmps.getD 10 undef = .pointer (some ⟨g, off + 5, none⟩) := hd 7 (by rfl)
      have y1 : w'.cell? ⟨g, off + 5, none⟩ = some (.string x1.s) := (hb.cell (p := ⟨g, off + 5, none⟩) hg).trans y1
      refine wpOp_of rfl rfl ?_
      refine op_run (v := .string x1.s) (w' := w') ?_ ⟨_, rfl, ?_, ?_⟩
      · simp only [execOp, Act.eval, List.map_toArray, List.map_cons, List.map_nil, d7, y1]; first | (go_simp; done) | rfl
      · try dsimp only
        exact (slots_put (ns := 26) (hsa.size.trans rfl) (by decide))
      · exact Below.refl _ _
    | 9, ho =>
      obtain rfl := Option.some.inj ho
      try dsimp only at hd
      have g0 : a'.tmps.getD 0 undef = .slice (some ⟨g, off, none⟩) 5 5 := hsa.rest 0 (by rfl)
      refine wpOp_of rfl rfl ?_
      refine op_run (v := .slice (some ⟨g, off, none⟩) 5 5) (w' := w') ?_ ⟨_, rfl, ?_, ?_⟩
      · simp only [execOp, Act.eval, List.map_toArray, List.map_cons, List.map_nil, g0]; first | (go_simp; done) | rfl
      · try dsimp only
        exact (slots_put (ns := 26) (hsa.size.trans rfl) (by decide))
      · exact Below.refl _ _
    | 10, ho =>
      obtain rfl := Option.some.inj ho
      try dsimp only at hd
      have d9 : a'.tmps.getD 12 undef = .slice (some ⟨g, off, none⟩) 5 5 := hd 9 (by rfl)
      refine wpOp_of rfl rfl ?_
      refine op_run (v := .pointer (some ⟨g, off + 6, none⟩)) (w' := w') ?_ ⟨_, rfl, ?_, ?_⟩
      · simp only [execOp, Act.eval, List.map_toArray, List.map_cons, List.map_nil, d9]; first | (go_simp; done) | rfl
      · try dsimp only
        exact (slots_put (ns := 26) (hsa.size.trans rfl) (by decide))
      · exact Below.refl _ _
    | 11, ho =>
      obtain rfl := Option.some.inj ho
      try dsimp only at hd
      have d10 : a'.tmps.getD 13 undef = .pointer (some ⟨g, off + 6, none⟩) := hd 10 (by rfl)
      refine wpOp_of rfl rfl ?_
      refine op_run (v := .pointer (some ⟨g, off + 7, none⟩)) (w' := w') ?_ ⟨_, rfl, ?_, ?_⟩
      · simp only [execOp, Act.eval, List.map_toArray, List.map_cons, List.map_nil, d10]; first | (go_simp; done) | rfl
      · try dsimp only
        exact (slots_put (ns := 26) (hsa.size.trans rfl) (by decide))
      · exact Below.refl _ _
    | 12, ho =>
      obtain rfl := Option.some.inj ho
      try dsimp only at hd
      have d11 : a'.tmps.getD 14 undef = .pointer (some ⟨g, off + 7, none⟩) := hd 11 (by rfl)
      have y2 : w'.cell? ⟨g, off + 7, none⟩ = some (.int .u64 x2.n) := (hb.cell (p := ⟨g, off + 7, none⟩) hg).trans y2
      refine wpOp_of rfl rfl ?_
      refine op_run (v := .int .u64 x2.n) (w' := w') ?_ ⟨_, rfl, ?_, ?_⟩
      · simp only [execOp, Act.eval, List.map_toArray, List.map_cons, List.map_nil, d11, y2]; first | (go_simp; done) | rfl
      · try dsimp only
        exact (slots_put (ns := 26) (hsa.size.trans rfl) (by decide))
      · exact Below.refl _ _
    | 13, ho =>
      obtain rfl := Option.some.inj ho
      try dsimp only at hd
      have d12 : a'.tmps.getD 15 undef = .int .u64 x2.n := hd 12 (by rfl)
      refine wpOp_of rfl rfl ?_
      refine op_run (v := .int .i64 (IntKind.i64.wrap x2.n)) (w' := w') ?_ ⟨_, rfl, ?_, ?_⟩
      · simp only [execOp, Act.eval, List.map_toArray, List.map_cons, List.map_nil, d12]; first | (go_simp; done) | rfl
      · try dsimp only
        exact (slots_put (ns := 26) (hsa.size.trans rfl) (by decide))
      · exact Below.refl _ _
    | 14, ho =>
      obtain rfl := Option.some.inj ho
      try dsimp only at hd
      have g0 : a'.tmps.getD 0 undef = .slice (some ⟨g, off, none⟩) 5 5 := hsa.rest 0 (by rfl)
      refine wpOp_of rfl rfl ?_
      refine op_run (v := .slice (some ⟨g, off, none⟩) 5 5) (w' := w') ?_ ⟨_, rfl, ?_, ?_⟩
      · simp only [execOp, Act.eval, List.map_toArray, List.map_cons, List.map_nil, g0]; first | (go_simp; done) | rfl
      · try dsimp only
        exact (slots_put (ns := 26) (hsa.size.trans rfl) (by decide))
      · exact Below.refl _ _
    | 15, ho =>
      obtain rfl := Option.some.inj ho
      try dsimp only at hd
      have d14 : a'.tmps.getD 17 undef = .slice (some ⟨g, off, none⟩) 5 5 := hd 14 (by rfl)
      refine wpOp_of rfl rfl ?_
      refine op_run (v := .pointer (some ⟨g, off + 9, none⟩)) (w' := w') ?_ ⟨_, rfl, ?_, ?_⟩
      · simp only [execOp, Act.eval, List.map_toArray, List.map_cons, List.map_nil, d14]; first | (go_simp; done) | rfl
      · try dsimp only
        exact (slots_put (ns := 26) (hsa.size.trans rfl) (by decide))
      · exact Below.refl _ _
    | 16, ho =>
      obtain rfl := Option.some.inj ho
      try dsimp only at hd
      have d15 : a'.tmps.getD 18 undef = .pointer (some ⟨g, off + 9, none⟩) := hd 15 (by rfl)
      refine wpOp_of rfl rfl ?_
      refine op_run (v := .pointer (some ⟨g, off + 11, none⟩)) (w' := w') ?_ ⟨_, rfl, ?_, ?_⟩
      · simp only [execOp, Act.eval, List.map_toArray, List.map_cons, List.map_nil, d15]; first | (go_simp; done) | rfl
      · try dsimp only
        exact (slots_put (ns := 26) (hsa.size.trans rfl) (by decide))
      · exact Below.refl _ _
    | 17, ho =>
      obtain rfl := Option.some.inj ho
      try dsimp only at hd
      have d16 : a'.tmps.getD 19 undef = .pointer (some ⟨g, off + 11, none⟩) := hd 16 (by rfl)
      have y3 : w'.cell? ⟨g, off + 11, none⟩ = some (.string x3.s) := (hb.cell (p := ⟨g, off + 11, none⟩) hg).trans y3
      refine wpOp_of rfl rfl ?_
      refine op_run (v := .string x3.s) (w' := w') ?_ ⟨_, rfl, ?_, ?_⟩
      · simp only [execOp, Act.eval, List.map_toArray, List.map_cons, List.map_nil, d16, y3]; first | (go_simp; done) | rfl
      · try dsimp only
        exact (slots_put (ns := 26) (hsa.size.trans rfl) (by decide))
      · exact Below.refl _ _
    | 18, ho =>
      obtain rfl := Option.some.inj ho
      try dsimp only at hd
      have g0 : a'.tmps.getD 0 undef = .slice (some ⟨g, off, none⟩) 5 5 := hsa.rest 0 (by rfl)
      refine wpOp_of rfl rfl ?_
      refine op_run (v := .slice (some ⟨g, off, none⟩) 5 5) (w' := w') ?_ ⟨_, rfl, ?_, ?_⟩
      · simp only [execOp, Act.eval, List.map_toArray, List.map_cons, List.map_nil, g0]; first | (go_simp; done) | rfl
      · try dsimp only
        exact (slots_put (ns := 26) (hsa.size.trans rfl) (by decide))
      · exact Below.refl _ _
    | 19, ho =>
      obtain rfl := Option.some.inj ho
      try dsimp only at hd
      have d18 : a'.tmps.getD 21 undef = .slice (some ⟨g, off, none⟩) 5 5 := hd 18 (by rfl)
      refine wpOp_of rfl rfl ?_
      refine op_run (v := .pointer (some ⟨g, off + 12, none⟩)) (w' := w') ?_ ⟨_, rfl, ?_, ?_⟩
      · simp only [execOp, Act.eval, List.map_toArray, List.map_cons, List.map_nil, d18]; first | (go_simp; done) | rfl
      · try dsimp only
        exact (slots_put (ns := 26) (hsa.size.trans rfl) (by decide))
      · exact Below.refl _ _
    | 20, ho =>
      obtain rfl := Option.some.inj ho
      try dsimp only at hd
      have d19 : a'.tmps.getD 22 undef = .pointer (some ⟨g, off + 12, none⟩) := hd 19 (by rfl)
      refine wpOp_of rfl rfl ?_
      refine op_run (v := .pointer (some ⟨g, off + 14, none⟩)) (w' := w') ?_ ⟨_, rfl, ?_, ?_⟩
      · simp only [execOp, Act.eval, List.map_toArray, List.map_cons, List.map_nil, d19]; first | (go_simp; done) | rfl
      · try dsimp only
        exact (slots_put (ns := 26) (hsa.size.trans rfl) (by decide))
      · exact Below.refl _ _
    | 21, ho =>
      obtain rfl := Option.some.inj ho
      try dsimp only at hd
      have d20 : a'.tmps.getD 23 undef = .pointer (some ⟨g, off + 14, none⟩) := hd 20 (by rfl)
      have y4 : w'.cell? ⟨g, off + 14, none⟩ = some (.string x4.s) := (hb.cell (p := ⟨g, off + 14, none⟩) hg).trans y4
      refine wpOp_of rfl rfl ?_
      refine op_run (v := .string x4.s) (w' := w') ?_ ⟨_, rfl, ?_, ?_⟩
      · simp only [execOp, Act.eval, List.map_toArray, List.map_cons, List.map_nil, d20, y4]; first | (go_simp; done) | rfl
      · try dsimp only
        exact (slots_put (ns := 26) (hsa.size.trans rfl) (by decide))
      · exact Below.refl _ _
    | 22, ho =>
      obtain rfl := Option.some.inj ho
      try dsimp only at hd
      have d4 : a'.tmps.getD 7 undef = .int .i64 (IntKind.i64.wrap x0.n) := hd 4 (by rfl)
      have d8 : a'.tmps.getD 11 undef = .string x1.s := hd 8 (by rfl)
      have d13 : a'.tmps.getD 16 undef = .int .i64 (IntKind.i64.wrap x2.n) := hd 13 (by rfl)
      have d17 : a'.tmps.getD 20 undef = .string x3.s := hd 17 (by rfl)
      have d21 : a'.tmps.getD 24 undef = .string x4.s := hd 21 (by rfl)
      refine wpOp_of rfl rfl ?_
      refine op_run (v := .agg #[.int .i64 (IntKind.i64.wrap x0.n), .string x1.s, .int .i64 (IntKind.i64.wrap x2.n), .string x3.s, .string x4.s]) (w' := w') ?_ ⟨_, rfl, ?_, ?_⟩
      · simp only [execOp, Act.eval, List.map_toArray, List.map_cons, List.map_nil, d4, d8, d13, d17, d21]; first | (go_simp; done) | rfl
      · try dsimp only
        exact (slots_put (ns := 26) (hsa.size.trans rfl) (by decide))
      · exact Below.refl _ _
    | 23, ho =>
      obtain rfl := Option.some.inj ho
      try dsimp only at hd
      refine wpOp_of rfl rfl ?_
      refine op_run (v := undef) (w' := w') ?_ ⟨_, rfl, ?_, ?_⟩
      · rfl
      · try dsimp only
        trivial
      · exact Below.refl _ _
    | (n + 24), ho => exact absurd ho (by simp)
  case pdone =>
    intro a' w' hsa hb hd
    have d0 : a'.tmps.getD 3 undef = .slice (some ⟨g, off, none⟩) 5 5 := hd 0 (by decide)
    have d1 : a'.tmps.getD 4 undef = .pointer (some ⟨g, off, none⟩) := hd 1 (by decide)
    have d2 : a'.tmps.getD 5 undef = .pointer (some ⟨g, off + 1, none⟩) := hd 2 (by decide)
    have d3 : a'.tmps.getD 6 undef = .int .u64 x0.n := hd 3 (by decide)
    have d4 : a'.tmps.getD 7 undef = .int .i64 (IntKind.i64.wrap x0.n) := hd 4 (by decide)
    have d5 : a'.tmps.getD 8 undef = .slice (some ⟨g, off, none⟩) 5 5 := hd 5 (by decide)
    have d6 : a'.tmps.getD 9 undef = .pointer (some ⟨g, off + 3, none⟩) := hd 6 (by decide)
    have d7 : a'.tmps.getD 10 undef = .pointer (some ⟨g, off + 5, none⟩) := hd 7 (by decide)
    have d8 : a'.tmps.getD 11 undef = .string x1.s := hd 8 (by decide)
    have d9 : a'.tmps.getD 12 undef = .slice (some ⟨g, off, none⟩) 5 5 := hd 9 (by decide)
    have d10 : a'.tmps.getD 13 undef = .pointer (some ⟨g, off + 6, none⟩) := hd 10 (by decide)
    have d11 : a'.tmps.getD 14 undef = .pointer (some ⟨g, off + 7, none⟩) := hd 11 (by decide)
    have d12 : a'.tmps.getD 15 undef = .int .u64 x2.n := hd 12 (by decide)
    have d13 : a'.tmps.getD 16 undef = .int .i64 (IntKind.i64.wrap x2.n) := hd 13 (by decide)
    have d14 : a'.tmps.getD 17 undef = .slice (some ⟨g, off, none⟩) 5 5 := hd 14 (by decide)
    have d15 : a'.tmps.getD 18 undef = .pointer (some ⟨g, off + 9, none⟩) := hd 15 (by decide)
    have d16 : a'.tmps.getD 19 undef = .pointer (some ⟨g, off + 11, none⟩) := hd 16 (by decide)
    have d17 : a'.tmps.getD 20 undef = .string x3.s := hd 17 (by decide)
    have d18 : a'.tmps.getD 21 undef = .slice (some ⟨g, off, none⟩) 5 5 := hd 18 (by decide)
    have d19 : a'.tmps.getD 22 undef = .pointer (some ⟨g, off + 12, none⟩) := hd 19 (by decide)
    have d20 : a'.tmps.getD 23 undef = .pointer (some ⟨g, off + 14, none⟩) := hd 20 (by decide)
    have d21 : a'.tmps.getD 24 undef = .string x4.s := hd 21 (by decide)
    have d22 : a'.tmps.getD 25 undef = .agg #[.int .i64 (IntKind.i64.wrap x0.n), .string x1.s, .int .i64 (IntKind.i64.wrap x2.n), .string x3.s, .string x4.s] := hd 22 (by decide)
    have d23 : True := hd 23 (by decide)
    intro K2 hK2
    have h3 := (hb.block _ (heap_lt hR)).trans hR
    have g2 : a'.tmps.getD 2 undef = .pointer (some ⟨rb, 0, none⟩) := hsa.rest 2 (by rfl)
    have q0 := box_cell h3 0 rfl
    have z0 := box_free h3 0
    have q1 := box_cell h3 1 rfl
    have z1 := box_free h3 1
    have q2 := box_cell h3 2 rfl
    have z2 := box_free h3 2
    have q3 := box_cell h3 3 rfl
    have z3 := box_free h3 3
    have q4 := box_cell h3 4 rfl
    have z4 := box_free h3 4
    refine op_skip (w' := ((((w'.setCell ⟨rb, 0, none⟩ (.int .i64 (IntKind.i64.wrap x0.n))).setCell ⟨rb, 1, none⟩ (.string x1.s)).setCell ⟨rb, 2, none⟩ (.int .i64 (IntKind.i64.wrap x2.n))).setCell ⟨rb, 3, none⟩ (.string x3.s)).setCell ⟨rb, 4, none⟩ (.string x4.s)) ?_ (hK2 _ _ ?_)
    · simp only [execOp, Act.eval, d22, g2]
      first | (go_simp; done) | (go_simp; rfl)
    refine HQ.out _ _ ⟨hsa.size.trans rfl, hsa.defers.trans rfl, hsa.rest 0 (by rfl), hsa.rest 2 (by rfl)⟩ ?_ ?_
    · have h9 := box_set (box_set (box_set (box_set (box_set (h3) 0 (.int .i64 (IntKind.i64.wrap x0.n))) 1 (.string x1.s)) 2 (.int .i64 (IntKind.i64.wrap x2.n))) 3 (.string x3.s)) 4 (.string x4.s)
      simpa using h9
    · have hb := hb.mono hB
      exact (((((hb).setCell (p := ⟨rb, 0, none⟩) hrb _).setCell (p := ⟨rb, 1, none⟩) hrb _).setCell (p := ⟨rb, 2, none⟩) hrb _).setCell (p := ⟨rb, 3, none⟩) hrb _).setCell (p := ⟨rb, 4, none⟩) hrb _
/-- A record as the program reads it: longs that are past all numbers wrap. -/
def recW (r : Rec) : Rec := ⟨IntKind.i64.wrap r.off, r.prod, IntKind.i64.wrap r.seq, r.key, r.val⟩
theorem ro_ret {W : World} {a : Act} {v : Vro} {rb : Nat} {r : Rec} {R : Ending → World → Prop} (hF : Fro a v) (h2 : v.v2 = .pointer (some ⟨rb, 0, none⟩)) (hR : W.heap[rb]? = some (.cells #[.int .i64 r.off, .string r.prod, .int .i64 r.seq, .string r.key, .string r.val] 46 (0, 0))) (h : R (.returned r.v) W) :
    bodyPost Tryz.prog Tryz.f59 R .ret a W := by
  have g2 := slot_get (hF.s2.trans h2)
  have c0 := box_cell hR 0 rfl
  have c1 := box_cell hR 1 rfl
  have c2 := box_cell hR 2 rfl
  have c3 := box_cell hR 3 rfl
  have c4 := box_cell hR 4 rfl
  refine bodyPost_ret (v := r.v) ?_ hF.defers h
  simp [results, Tryz.results59, go_sem, g2, c0, c1, c2, c3, c4, Rec.v]
set_option maxHeartbeats 4000000 in
set_option maxRecDepth 100000 in
theorem precof (g off : Nat) (r : Rec) (w : World) (hg : g < w.heap.size) (y0 : w.cell? ⟨g, off + 1, none⟩ = some (.int .u64 r.off)) (y1 : w.cell? ⟨g, off + 5, none⟩ = some (.string r.prod)) (y2 : w.cell? ⟨g, off + 7, none⟩ = some (.int .u64 r.seq)) (y3 : w.cell? ⟨g, off + 11, none⟩ = some (.string r.key)) (y4 : w.cell? ⟨g, off + 14, none⟩ = some (.string r.val)) :
    Calls Tryz.prog 59 #[.slice (some ⟨g, off, none⟩) 5 5] w fun e w' => e = .returned (recW r).v ∧ Below w.heap.size w w' := by
  have HX := hide (heap_alloc_new w (.cells #[.int .i64 0, .string ⟨#[]⟩, .int .i64 0, .string ⟨#[]⟩, .string ⟨#[]⟩] 46))
  have HB := hide ((Below.refl w.heap.size w).alloc (Nat.le_refl _) (.cells #[.int .i64 0, .string ⟨#[]⟩, .int .i64 0, .string ⟨#[]⟩, .string ⟨#[]⟩] 46))
  have HY := hide (And.intro y0 (And.intro y1 (And.intro y2 (And.intro y3 y4))))
  have HG := hide hg
  clear hg y0 y1 y2 y3 y4
  go_enter Tryz.func59, Tryz.ntmps59
  go_upto_region 1 with fail
  rename_i Ko hKo
  generalize w.alloc (.cells #[.int .i64 0, .string ⟨#[]⟩, .int .i64 0, .string ⟨#[]⟩, .string ⟨#[]⟩] 46) = w1 at *
  have hl : g < w1.heap.size := Nat.lt_of_lt_of_le HG.out HB.out.size
  have hc := fun k => HB.out.cell (p := ⟨g, k, none⟩) HG.out
  obtain ⟨y0, y1, y2, y3, y4⟩ := HY.out
  refine reg_mono (ro_r1 (B := w.heap.size) (x0 := ⟨3, r.off, ⟨#[]⟩⟩) (x1 := ⟨4, 0, r.prod⟩) (x2 := ⟨3, r.seq, ⟨#[]⟩⟩) (x3 := ⟨4, 0, r.key⟩) (x4 := ⟨4, 0, r.val⟩) (by kernel_rfl) _ (v := ⟨_, _⟩) ⟨rfl, rfl, rfl, rfl⟩ rfl rfl hl HX.out (Nat.le_refl _) HB.out.size ((hc _).trans y0) ((hc _).trans y1) ((hc _).trans y2) ((hc _).trans y3) ((hc _).trans y4) fun a' w' hF hR hW => hKo _ _ ?_)
  refine wp_ret ?_
  exact ro_ret (r := recW r) hF rfl hR ⟨rfl, HB.out.trans hW⟩
end Go.Proofs.YtoolbbibnegdnaaGreatDoor
