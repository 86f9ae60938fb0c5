/-
  The program's Is: its regions (mkua.py).
-/
import Derived.Test.YtafjngmdandgmaaZUA1
namespace Go.Proofs.Ytafjngmdandgmaa
open Go.RowKit

attribute [local go_sem ↓] Go.wp_at_zero Go.wp_at_succ
set_option linter.unusedSimpArgs false
set_option linter.unusedVariables false
set_option maxRecDepth 100000 in
theorem frame_pi (t : Array Value) (h : t.size = 38) : ∃ u : Nat → Value, t = List.toArray (u 0 :: u 1 :: u 2 :: u 3 :: u 4 :: u 5 :: u 6 :: u 7 :: u 8 :: u 9 :: u 10 :: u 11 :: u 12 :: u 13 :: u 14 :: u 15 :: u 16 :: u 17 :: u 18 :: u 19 :: u 20 :: u 21 :: u 22 :: u 23 :: u 24 :: u 25 :: u 26 :: u 27 :: u 28 :: u 29 :: u 30 :: u 31 :: u 32 :: u 33 :: u 34 :: u 35 :: u 36 :: u 37 :: []) := by
  refine ⟨fun i => t.getD i undef, ?_⟩
  have e : (List.toArray ((fun i => t.getD i undef) 0 :: (fun i => t.getD i undef) 1 :: (fun i => t.getD i undef) 2 :: (fun i => t.getD i undef) 3 :: (fun i => t.getD i undef) 4 :: (fun i => t.getD i undef) 5 :: (fun i => t.getD i undef) 6 :: (fun i => t.getD i undef) 7 :: (fun i => t.getD i undef) 8 :: (fun i => t.getD i undef) 9 :: (fun i => t.getD i undef) 10 :: (fun i => t.getD i undef) 11 :: (fun i => t.getD i undef) 12 :: (fun i => t.getD i undef) 13 :: (fun i => t.getD i undef) 14 :: (fun i => t.getD i undef) 15 :: (fun i => t.getD i undef) 16 :: (fun i => t.getD i undef) 17 :: (fun i => t.getD i undef) 18 :: (fun i => t.getD i undef) 19 :: (fun i => t.getD i undef) 20 :: (fun i => t.getD i undef) 21 :: (fun i => t.getD i undef) 22 :: (fun i => t.getD i undef) 23 :: (fun i => t.getD i undef) 24 :: (fun i => t.getD i undef) 25 :: (fun i => t.getD i undef) 26 :: (fun i => t.getD i undef) 27 :: (fun i => t.getD i undef) 28 :: (fun i => t.getD i undef) 29 :: (fun i => t.getD i undef) 30 :: (fun i => t.getD i undef) 31 :: (fun i => t.getD i undef) 32 :: (fun i => t.getD i undef) 33 :: (fun i => t.getD i undef) 34 :: (fun i => t.getD i undef) 35 :: (fun i => t.getD i undef) 36 :: (fun i => t.getD i undef) 37 :: []) : Array Value) = ((List.range 38).map fun i => t.getD i undef).toArray := rfl
  refine Eq.trans ?_ e.symm
  apply Array.ext
  · simp [h]
  · intro k h1 h2
    simp [Array.getD, h1]
/-- The slots that matter. -/
structure Vpi where
  v0 : Value
  v3 : Value
  v4 : Value
structure Fpi (a : Act) (v : Vpi) : Prop where
  size : a.tmps.size = 38
  defers : a.defers = []
  s0 : a.tmps.getD 0 undef = v.v0
  s3 : a.tmps.getD 3 undef = v.v3
  s4 : a.tmps.getD 4 undef = v.v4
set_option maxHeartbeats 8000000 in
set_option maxRecDepth 100000 in
theorem pi_r2 {K : Act → World → Prop} {c : Code} (hc : regOf (Try.f15.body.getD .skip) 2 = some c) (a : Act) {v : Vpi} {wq : World}  (hF : Fpi a v) (hQ : ∀ a', Fpi a' { v with v4 := .bool true } → K a' wq) :
    Code.wp Try.prog c (Exit.then K fun _ _ _ => False) a wq := by
  have HQ := hide hQ
  clear hQ
  obtain ⟨t', d'⟩ := a
  obtain ⟨v0, v3, v4⟩ := v
  obtain ⟨hs1, hd1, q0, q3, q4⟩ := hF
  obtain ⟨u, hu⟩ := frame_pi t' hs1
  simp only at hd1 q0 q3 q4
  subst hu hd1
  have e0 : u 0 = v0 := q0
  have e3 : u 3 = v3 := q3
  have e4 : u 4 = v4 := q4
  rw [e0, e3, e4]
  clear q0 e0 q3 e3 q4 e4 hs1
  simp only [Try.f15, Option.getD_some, regOf] at hc
  injection hc with hc
  subst hc
  generalize u 1 = u1
  generalize u 2 = u2
  generalize u 5 = u5
  generalize u 6 = u6
  generalize u 7 = u7
  generalize u 8 = u8
  generalize u 9 = u9
  generalize u 10 = u10
  generalize u 11 = u11
  generalize u 12 = u12
  generalize u 13 = u13
  generalize u 14 = u14
  generalize u 15 = u15
  generalize u 16 = u16
  generalize u 17 = u17
  generalize u 18 = u18
  generalize u 19 = u19
  generalize u 20 = u20
  generalize u 21 = u21
  generalize u 22 = u22
  generalize u 23 = u23
  generalize u 24 = u24
  generalize u 25 = u25
  generalize u 26 = u26
  generalize u 27 = u27
  generalize u 28 = u28
  generalize u 29 = u29
  generalize u 30 = u30
  generalize u 31 = u31
  generalize u 32 = u32
  generalize u 33 = u33
  generalize u 34 = u34
  generalize u 35 = u35
  generalize u 36 = u36
  generalize u 37 = u37
  clear u
  go_wp2
  exact HQ.out _ ⟨rfl, rfl, rfl, rfl, rfl⟩
set_option maxHeartbeats 8000000 in
set_option maxRecDepth 100000 in
theorem pi_r1 {K : Act → World → Prop} {c : Code} (hc : regOf (Try.f15.body.getD .skip) 1 = some c) (a : Act) {v : Vpi} {wq : World} {b d : Nat} {x y x1 y1 : Int} (hF : Fpi a v) (h0v : v.v0 = .pointer (some ⟨b, 0, none⟩)) (h3v : v.v3 = .pointer (some ⟨d, 0, none⟩)) (hdl : d < wq.heap.size) (hbl : b < wq.heap.size) (c0 : wq.cell? ⟨d, 0, none⟩ = some (.int .i64 x)) (c1 : wq.cell? ⟨d, 1, none⟩ = some (.int .i64 x1)) (z0 : wq.cell? ⟨b, 0, none⟩ = some (.int .i64 y)) (z1 : wq.cell? ⟨b, 1, none⟩ = some (.int .i64 y1))
    (hQ : ∀ a' w', Fpi a' v → a'.tmps.getD 10 undef = .bool (x == y && x1 == y1) → Below wq.heap.size wq w' → K a' w') :
    Code.wp Try.prog c (Exit.then K fun _ _ _ => False) a wq := by
  have HQ := hide hQ
  clear hQ
  obtain ⟨t', d'⟩ := a
  obtain ⟨v0, v3, v4⟩ := v
  simp only at h0v h3v HQ
  subst h0v h3v
  obtain ⟨hs1, hd1, q0, q3, q4⟩ := hF
  obtain ⟨u, hu⟩ := frame_pi t' hs1
  simp only at hd1 q0 q3 q4
  subst hu hd1
  have e0 : u 0 = .pointer (some ⟨b, 0, none⟩) := q0
  have e3 : u 3 = .pointer (some ⟨d, 0, none⟩) := q3
  have e4 : u 4 = v4 := q4
  rw [e0, e3, e4]
  clear q0 e0 q3 e3 q4 e4 hs1
  simp only [Try.f15, Option.getD_some, regOf] at hc
  injection hc with hc
  subst hc
  generalize u 1 = u1
  generalize u 2 = u2
  generalize u 5 = u5
  generalize u 6 = u6
  generalize u 7 = u7
  generalize u 8 = u8
  generalize u 9 = u9
  generalize u 10 = u10
  generalize u 11 = u11
  generalize u 12 = u12
  generalize u 13 = u13
  generalize u 14 = u14
  generalize u 15 = u15
  generalize u 16 = u16
  generalize u 17 = u17
  generalize u 18 = u18
  generalize u 19 = u19
  generalize u 20 = u20
  generalize u 21 = u21
  generalize u 22 = u22
  generalize u 23 = u23
  generalize u 24 = u24
  generalize u 25 = u25
  generalize u 26 = u26
  generalize u 27 = u27
  generalize u 28 = u28
  generalize u 29 = u29
  generalize u 30 = u30
  generalize u 31 = u31
  generalize u 32 = u32
  generalize u 33 = u33
  generalize u 34 = u34
  generalize u 35 = u35
  generalize u 36 = u36
  generalize u 37 = u37
  clear u
  refine wp_region_phi (by kernel_rfl) (ns := 38) (uses := (fun i => match i with | 0 => [5] | 1 => [6] | 2 => [7] | 3 => [8] | 4 => [9] | 5 => [10] | _ => [])) (by kernel_rfl) (by kernel_rfl) (fun _ w w' => Below w.heap.size w w') (fun w => Below wq.heap.size wq w) (fun _ _ _ h r => h.trans (r.mono h.size)) ((Below.refl _ _).drew) (fun i => match i with | 0 => fun s w => s 5 = .agg #[.int .i64 x, .int .i64 x1] | 1 => fun s w => s 6 = .pointer (some ⟨b, 0, none⟩) | 2 => fun s w => s 7 = .pointer (some ⟨b, 0, none⟩) | 3 => fun s w => s 8 = .pointer (some ⟨b, 0, none⟩) | 4 => fun s w => s 9 = .agg #[.int .i64 y, .int .i64 y1] | 5 => fun s w => s 10 = .bool (x == y && x1 == y1) | _ => fun _ _ => True) ?phc ?phh ?pstep ?pdone
  case phc =>
    intro i s s' w hx h
    match i, hx, h with
    | 0, hx, h =>
      have e5 := hx 5 (by simp)
      first | exact (show _ from by simp only [← e5] at *; exact h) | (simp only [e5] at h; exact h)
    | 1, hx, h =>
      have e6 := hx 6 (by simp)
      first | exact (show _ from by simp only [← e6] at *; exact h) | (simp only [e6] at h; exact h)
    | 2, hx, h =>
      have e7 := hx 7 (by simp)
      first | exact (show _ from by simp only [← e7] at *; exact h) | (simp only [e7] at h; exact h)
    | 3, hx, h =>
      have e8 := hx 8 (by simp)
      first | exact (show _ from by simp only [← e8] at *; exact h) | (simp only [e8] at h; exact h)
    | 4, hx, h =>
      have e9 := hx 9 (by simp)
      first | exact (show _ from by simp only [← e9] at *; exact h) | (simp only [e9] at h; exact h)
    | 5, hx, h =>
      have e10 := hx 10 (by simp)
      first | exact (show _ from by simp only [← e10] at *; exact h) | (simp only [e10] at h; exact h)
    | (n + 6), _, h => exact h
  case phh =>
    intro i j s w w' hij h hb r
    match i, hij, h with
    | 0, hij, h =>
      exact h
    | 1, hij, h =>
      exact h
    | 2, hij, h =>
      exact h
    | 3, hij, h =>
      exact h
    | 4, hij, h =>
      exact h
    | 5, hij, h =>
      exact h
    | (n + 6), _, h => exact h
  case pstep =>
    intro i o ho a' w' hsa hb hd
    match i, ho with
    | 0, ho =>
      obtain rfl := Option.some.inj ho
      try dsimp only at hd
      have g3 : a'.tmps.getD 3 undef = .pointer (some ⟨d, 0, none⟩) := hsa.rest 3 (by rfl)
      have c0x := (hb.cell (p := ⟨d, _, none⟩) hdl).trans c0
      have c1x := (hb.cell (p := ⟨d, _, none⟩) hdl).trans c1
      refine wpOp_of rfl rfl ?_
      refine op_run (v := .agg #[.int .i64 x, .int .i64 x1]) (w' := w') ?_ ⟨_, rfl, ?_, ?_⟩
      · simp only [execOp, Act.eval, List.map_toArray, List.map_cons, List.map_nil, g3, c0x, c1x]; first | (go_simp; done) | rfl
      · try dsimp only
        exact (slots_put (ns := 38) (hsa.size.trans rfl) (by decide))
      · exact Below.refl _ _
    | 1, ho =>
      obtain rfl := Option.some.inj ho
      try dsimp only at hd
      have g0 : a'.tmps.getD 0 undef = .pointer (some ⟨b, 0, none⟩) := hsa.rest 0 (by rfl)
      refine wpOp_of rfl rfl ?_
      refine op_run (v := .pointer (some ⟨b, 0, none⟩)) (w' := w') ?_ ⟨_, rfl, ?_, ?_⟩
      · simp only [execOp, Act.eval, List.map_toArray, List.map_cons, List.map_nil, g0]; first | (go_simp; done) | rfl
      · try dsimp only
        exact (slots_put (ns := 38) (hsa.size.trans rfl) (by decide))
      · exact Below.refl _ _
    | 2, ho =>
      obtain rfl := Option.some.inj ho
      try dsimp only at hd
      have d1 : a'.tmps.getD 6 undef = .pointer (some ⟨b, 0, none⟩) := hd 1 (by rfl)
      refine wpOp_of rfl rfl ?_
      refine op_run (v := .pointer (some ⟨b, 0, none⟩)) (w' := w') ?_ ⟨_, rfl, ?_, ?_⟩
      · simp only [execOp, Act.eval, List.map_toArray, List.map_cons, List.map_nil, d1]; first | (go_simp; done) | rfl
      · try dsimp only
        exact (slots_put (ns := 38) (hsa.size.trans rfl) (by decide))
      · exact Below.refl _ _
    | 3, ho =>
      obtain rfl := Option.some.inj ho
      try dsimp only at hd
      have d2 : a'.tmps.getD 7 undef = .pointer (some ⟨b, 0, none⟩) := hd 2 (by rfl)
      refine wpOp_of rfl rfl ?_
      refine op_run (v := .pointer (some ⟨b, 0, none⟩)) (w' := w') ?_ ⟨_, rfl, ?_, ?_⟩
      · simp only [execOp, Act.eval, List.map_toArray, List.map_cons, List.map_nil, d2]; first | (go_simp; done) | rfl
      · try dsimp only
        exact (slots_put (ns := 38) (hsa.size.trans rfl) (by decide))
      · exact Below.refl _ _
    | 4, ho =>
      obtain rfl := Option.some.inj ho
      try dsimp only at hd
      have d3 : a'.tmps.getD 8 undef = .pointer (some ⟨b, 0, none⟩) := hd 3 (by rfl)
      have z0x := (hb.cell (p := ⟨b, _, none⟩) hbl).trans z0
      have z1x := (hb.cell (p := ⟨b, _, none⟩) hbl).trans z1
      refine wpOp_of rfl rfl ?_
      refine op_run (v := .agg #[.int .i64 y, .int .i64 y1]) (w' := w') ?_ ⟨_, rfl, ?_, ?_⟩
      · simp only [execOp, Act.eval, List.map_toArray, List.map_cons, List.map_nil, d3, z0x, z1x]; first | (go_simp; done) | rfl
      · try dsimp only
        exact (slots_put (ns := 38) (hsa.size.trans rfl) (by decide))
      · exact Below.refl _ _
    | 5, ho =>
      obtain rfl := Option.some.inj ho
      try dsimp only at hd
      have d0 : a'.tmps.getD 5 undef = .agg #[.int .i64 x, .int .i64 x1] := hd 0 (by rfl)
      have d4 : a'.tmps.getD 9 undef = .agg #[.int .i64 y, .int .i64 y1] := hd 4 (by rfl)
      refine wpOp_of rfl rfl ?_
      refine op_run (v := .bool (x == y && x1 == y1)) (w' := w') ?_ ⟨_, rfl, ?_, ?_⟩
      · exact (ex_mem _ x y x1 y1 _ _ _ (by simp only [Act.eval, d0]) (by simp only [Act.eval, d4]) _ rfl)
      · try dsimp only
        exact (slots_put (ns := 38) (hsa.size.trans rfl) (by decide))
      · exact Below.refl _ _
    | (n + 6), ho => exact absurd ho (by simp)
  case pdone =>
    intro a' w' hsa hb hd
    have d0 : a'.tmps.getD 5 undef = .agg #[.int .i64 x, .int .i64 x1] := hd 0 (by decide)
    have d1 : a'.tmps.getD 6 undef = .pointer (some ⟨b, 0, none⟩) := hd 1 (by decide)
    have d2 : a'.tmps.getD 7 undef = .pointer (some ⟨b, 0, none⟩) := hd 2 (by decide)
    have d3 : a'.tmps.getD 8 undef = .pointer (some ⟨b, 0, none⟩) := hd 3 (by decide)
    have d4 : a'.tmps.getD 9 undef = .agg #[.int .i64 y, .int .i64 y1] := hd 4 (by decide)
    have d5 : a'.tmps.getD 10 undef = .bool (x == y && x1 == y1) := hd 5 (by decide)
    exact HQ.out _ _ ⟨hsa.size.trans rfl, hsa.defers, (hsa.rest 0 (by rfl)).trans rfl, (hsa.rest 3 (by rfl)).trans rfl, (hsa.rest 4 (by rfl)).trans rfl⟩ d5 hb
set_option maxHeartbeats 8000000 in
set_option maxRecDepth 100000 in
theorem pi_r3a {K : Act → World → Prop} {c : Code} (hc : regOf (Try.f15.body.getD .skip) 3 = some c) (a : Act) {v : Vpi} {wq : World} {b d : Nat} {m : MB} (hF : Fpi a v) (h0v : v.v0 = .pointer (some ⟨b, 0, none⟩)) (h3v : v.v3 = .pointer (some ⟨d, 0, none⟩)) (hdl : d < wq.heap.size) (c0 : wq.cell? ⟨d, 0, none⟩ = some (.int .i64 m.node)) (c1 : wq.cell? ⟨d, 1, none⟩ = some (.int .i64 m.life)) (hE : ∀ w', Below wq.heap.size wq w' → Calls Try.prog 18 #[.agg #[.int .i64 m.node, .int .i64 m.life]] w' fun e w'' => e = .returned (.bool false) ∧ Below w'.heap.size w' w'')
    (hQ : ∀ a' w', Fpi a' { v with v4 := .bool false } → Below wq.heap.size wq w' → K a' w') :
    Code.wp Try.prog c (Exit.then K fun _ _ _ => False) a wq := by
  have HQ := hide hQ
  clear hQ
  obtain ⟨t', d'⟩ := a
  obtain ⟨v0, v3, v4⟩ := v
  simp only at h0v h3v HQ
  subst h0v h3v
  obtain ⟨hs1, hd1, q0, q3, q4⟩ := hF
  obtain ⟨u, hu⟩ := frame_pi t' hs1
  simp only at hd1 q0 q3 q4
  subst hu hd1
  have e0 : u 0 = .pointer (some ⟨b, 0, none⟩) := q0
  have e3 : u 3 = .pointer (some ⟨d, 0, none⟩) := q3
  have e4 : u 4 = v4 := q4
  rw [e0, e3, e4]
  clear q0 e0 q3 e3 q4 e4 hs1
  simp only [Try.f15, Option.getD_some, regOf] at hc
  injection hc with hc
  subst hc
  generalize u 1 = u1
  generalize u 2 = u2
  generalize u 5 = u5
  generalize u 6 = u6
  generalize u 7 = u7
  generalize u 8 = u8
  generalize u 9 = u9
  generalize u 10 = u10
  generalize u 11 = u11
  generalize u 12 = u12
  generalize u 13 = u13
  generalize u 14 = u14
  generalize u 15 = u15
  generalize u 16 = u16
  generalize u 17 = u17
  generalize u 18 = u18
  generalize u 19 = u19
  generalize u 20 = u20
  generalize u 21 = u21
  generalize u 22 = u22
  generalize u 23 = u23
  generalize u 24 = u24
  generalize u 25 = u25
  generalize u 26 = u26
  generalize u 27 = u27
  generalize u 28 = u28
  generalize u 29 = u29
  generalize u 30 = u30
  generalize u 31 = u31
  generalize u 32 = u32
  generalize u 33 = u33
  generalize u 34 = u34
  generalize u 35 = u35
  generalize u 36 = u36
  generalize u 37 = u37
  clear u
  refine wp_region_phi (by kernel_rfl) (ns := 38) (uses := (fun i => match i with | 0 => [11] | 1 => [12] | 2 => [13] | 3 => [14] | 4 => [15] | 5 => [16] | 6 => [17] | 7 => [18] | 8 => [19] | 9 => [20] | 10 => [21] | 11 => [22] | 12 => [23] | 13 => [24] | 14 => [25] | 15 => [26] | 16 => [27] | 17 => [28] | 18 => [29] | 19 => [30] | 20 => [31] | 21 => [32] | 22 => [33] | 23 => [34] | 24 => [35] | 25 => [36] | 26 => [37] | 27 => [4] | _ => [])) (by kernel_rfl) (by kernel_rfl) (fun _ w w' => Below w.heap.size w w') (fun w => Below wq.heap.size wq w) (fun _ _ _ h r => h.trans (r.mono h.size)) ((Below.refl _ _).drew) (fun i => match i with | 0 => fun s w => s 11 = .agg #[.int .i64 m.node, .int .i64 m.life] | 1 => fun s w => s 12 = .bool false | 2 => fun s w => s 13 = .bool false | 3 => fun s w => s 14 = undef | 4 => fun s w => s 15 = undef | 5 => fun s w => s 16 = undef | 6 => fun s w => s 17 = undef | 7 => fun s w => s 18 = undef | 8 => fun s w => s 19 = undef | 9 => fun s w => s 20 = .bool false | 10 => fun s w => s 21 = .bool false | 11 => fun s w => s 22 = undef | 12 => fun s w => s 23 = undef | 13 => fun s w => s 24 = undef | 14 => fun s w => s 25 = undef | 15 => fun s w => s 26 = undef | 16 => fun s w => s 27 = undef | 17 => fun s w => s 28 = undef | 18 => fun s w => s 29 = undef | 19 => fun s w => s 30 = undef | 20 => fun s w => s 31 = undef | 21 => fun s w => s 32 = undef | 22 => fun s w => s 33 = undef | 23 => fun s w => s 34 = undef | 24 => fun s w => s 35 = undef | 25 => fun s w => s 36 = undef | 26 => fun s w => s 37 = .bool false | 27 => fun s w => s 4 = .bool false | _ => fun _ _ => True) ?phc ?phh ?pstep ?pdone
  case phc =>
    intro i s s' w hx h
    match i, hx, h with
    | 0, hx, h =>
      have e11 := hx 11 (by simp)
      first | exact (show _ from by simp only [← e11] at *; exact h) | (simp only [e11] at h; exact h)
    | 1, hx, h =>
      have e12 := hx 12 (by simp)
      first | exact (show _ from by simp only [← e12] at *; exact h) | (simp only [e12] at h; exact h)
    | 2, hx, h =>
      have e13 := hx 13 (by simp)
      first | exact (show _ from by simp only [← e13] at *; exact h) | (simp only [e13] at h; exact h)
    | 3, hx, h =>
      have e14 := hx 14 (by simp)
      first | exact (show _ from by simp only [← e14] at *; exact h) | (simp only [e14] at h; exact h)
    | 4, hx, h =>
      have e15 := hx 15 (by simp)
      first | exact (show _ from by simp only [← e15] at *; exact h) | (simp only [e15] at h; exact h)
    | 5, hx, h =>
      have e16 := hx 16 (by simp)
      first | exact (show _ from by simp only [← e16] at *; exact h) | (simp only [e16] at h; exact h)
    | 6, hx, h =>
      have e17 := hx 17 (by simp)
      first | exact (show _ from by simp only [← e17] at *; exact h) | (simp only [e17] at h; exact h)
    | 7, hx, h =>
      have e18 := hx 18 (by simp)
      first | exact (show _ from by simp only [← e18] at *; exact h) | (simp only [e18] at h; exact h)
    | 8, hx, h =>
      have e19 := hx 19 (by simp)
      first | exact (show _ from by simp only [← e19] at *; exact h) | (simp only [e19] at h; exact h)
    | 9, hx, h =>
      have e20 := hx 20 (by simp)
      first | exact (show _ from by simp only [← e20] at *; exact h) | (simp only [e20] at h; exact h)
    | 10, hx, h =>
      have e21 := hx 21 (by simp)
      first | exact (show _ from by simp only [← e21] at *; exact h) | (simp only [e21] at h; exact h)
    | 11, hx, h =>
      have e22 := hx 22 (by simp)
      first | exact (show _ from by simp only [← e22] at *; exact h) | (simp only [e22] at h; exact h)
    | 12, hx, h =>
      have e23 := hx 23 (by simp)
      first | exact (show _ from by simp only [← e23] at *; exact h) | (simp only [e23] at h; exact h)
    | 13, hx, h =>
      have e24 := hx 24 (by simp)
      first | exact (show _ from by simp only [← e24] at *; exact h) | (simp only [e24] at h; exact h)
    | 14, hx, h =>
      have e25 := hx 25 (by simp)
      first | exact (show _ from by simp only [← e25] at *; exact h) | (simp only [e25] at h; exact h)
    | 15, hx, h =>
      have e26 := hx 26 (by simp)
      first | exact (show _ from by simp only [← e26] at *; exact h) | (simp only [e26] at h; exact h)
    | 16, hx, h =>
      have e27 := hx 27 (by simp)
      first | exact (show _ from by simp only [← e27] at *; exact h) | (simp only [e27] at h; exact h)
    | 17, hx, h =>
      have e28 := hx 28 (by simp)
      first | exact (show _ from by simp only [← e28] at *; exact h) | (simp only [e28] at h; exact h)
    | 18, hx, h =>
      have e29 := hx 29 (by simp)
      first | exact (show _ from by simp only [← e29] at *; exact h) | (simp only [e29] at h; exact h)
    | 19, hx, h =>
      have e30 := hx 30 (by simp)
      first | exact (show _ from by simp only [← e30] at *; exact h) | (simp only [e30] at h; exact h)
    | 20, hx, h =>
      have e31 := hx 31 (by simp)
      first | exact (show _ from by simp only [← e31] at *; exact h) | (simp only [e31] at h; exact h)
    | 21, hx, h =>
      have e32 := hx 32 (by simp)
      first | exact (show _ from by simp only [← e32] at *; exact h) | (simp only [e32] at h; exact h)
    | 22, hx, h =>
      have e33 := hx 33 (by simp)
      first | exact (show _ from by simp only [← e33] at *; exact h) | (simp only [e33] at h; exact h)
    | 23, hx, h =>
      have e34 := hx 34 (by simp)
      first | exact (show _ from by simp only [← e34] at *; exact h) | (simp only [e34] at h; exact h)
    | 24, hx, h =>
      have e35 := hx 35 (by simp)
      first | exact (show _ from by simp only [← e35] at *; exact h) | (simp only [e35] at h; exact h)
    | 25, hx, h =>
      have e36 := hx 36 (by simp)
      first | exact (show _ from by simp only [← e36] at *; exact h) | (simp only [e36] at h; exact h)
    | 26, hx, h =>
      have e37 := hx 37 (by simp)
      first | exact (show _ from by simp only [← e37] at *; exact h) | (simp only [e37] at h; exact h)
    | 27, hx, h =>
      have e4 := hx 4 (by simp)
      first | exact (show _ from by simp only [← e4] at *; exact h) | (simp only [e4] at h; exact h)
    | (n + 28), _, h => exact h
  case phh =>
    intro i j s w w' hij h hb r
    match i, hij, h with
    | 0, hij, h =>
      exact h
    | 1, hij, h =>
      exact h
    | 2, hij, h =>
      exact h
    | 3, hij, h =>
      exact h
    | 4, hij, h =>
      exact h
    | 5, hij, h =>
      exact h
    | 6, hij, h =>
      exact h
    | 7, hij, h =>
      exact h
    | 8, hij, h =>
      exact h
    | 9, hij, h =>
      exact h
    | 10, hij, h =>
      exact h
    | 11, hij, h =>
      exact h
    | 12, hij, h =>
      exact h
    | 13, hij, h =>
      exact h
    | 14, hij, h =>
      exact h
    | 15, hij, h =>
      exact h
    | 16, hij, h =>
      exact h
    | 17, hij, h =>
      exact h
    | 18, hij, h =>
      exact h
    | 19, hij, h =>
      exact h
    | 20, hij, h =>
      exact h
    | 21, hij, h =>
      exact h
    | 22, hij, h =>
      exact h
    | 23, hij, h =>
      exact h
    | 24, hij, h =>
      exact h
    | 25, hij, h =>
      exact h
    | 26, hij, h =>
      exact h
    | 27, hij, h =>
      exact h
    | (n + 28), _, h => exact h
  case pstep =>
    intro i o ho a' w' hsa hb hd
    match i, ho with
    | 0, ho =>
      obtain rfl := Option.some.inj ho
      try dsimp only at hd
      have g3 : a'.tmps.getD 3 undef = .pointer (some ⟨d, 0, none⟩) := hsa.rest 3 (by rfl)
      have c0x := (hb.cell (p := ⟨d, _, none⟩) hdl).trans c0
      have c1x := (hb.cell (p := ⟨d, _, none⟩) hdl).trans c1
      refine wpOp_of rfl rfl ?_
      refine op_run (v := .agg #[.int .i64 m.node, .int .i64 m.life]) (w' := w') ?_ ⟨_, rfl, ?_, ?_⟩
      · simp only [execOp, Act.eval, List.map_toArray, List.map_cons, List.map_nil, g3, c0x, c1x]; first | (go_simp; done) | rfl
      · try dsimp only
        exact (slots_put (ns := 38) (hsa.size.trans rfl) (by decide))
      · exact Below.refl _ _
    | 1, ho =>
      obtain rfl := Option.some.inj ho
      try dsimp only at hd
      have d0 : a'.tmps.getD 11 undef = .agg #[.int .i64 m.node, .int .i64 m.life] := hd 0 (by rfl)
      refine wpOp_of rfl rfl ?_
      refine op_call 18 _ _ rfl (enters_of Try.func18 (by kernel_rfl) rfl) [.agg #[.int .i64 m.node, .int .i64 m.life]] (by simp only [List.map, Act.eval, d0]) (hE w' hb) ?_
      rintro e w'' ⟨rfl, b2⟩
      refine ⟨_, rfl, _, rfl, ?_, ?_⟩
      · try dsimp only
        exact (slots_put (ns := 38) (hsa.size.trans rfl) (by decide))
      · exact b2
    | 2, ho =>
      obtain rfl := Option.some.inj ho
      try dsimp only at hd
      have d1 : a'.tmps.getD 12 undef = .bool false := hd 1 (by rfl)
      refine wpOp_of rfl rfl ?_
      refine op_run (v := .bool false) (w' := w') ?_ ⟨_, rfl, ?_, ?_⟩
      · simp only [execOp, Act.eval, List.map_toArray, List.map_cons, List.map_nil, d1]; first | (go_simp; done) | rfl
      · try dsimp only
        exact (slots_put (ns := 38) (hsa.size.trans rfl) (by decide))
      · exact Below.refl _ _
    | 3, ho =>
      obtain rfl := Option.some.inj ho
      try dsimp only at hd
      have d2 : a'.tmps.getD 13 undef = .bool false := hd 2 (by rfl)
      refine wpOp_off (j := 2) (dj := 13) rfl rfl rfl d2 (by simp [undef]) ⟨undef, rfl, ?_, ?_⟩
      · exact (slots_put (ns := 38) (hsa.size.trans rfl) (by decide))
      · exact Below.refl _ _
    | 4, ho =>
      obtain rfl := Option.some.inj ho
      try dsimp only at hd
      have d2 : a'.tmps.getD 13 undef = .bool false := hd 2 (by rfl)
      refine wpOp_off (j := 2) (dj := 13) rfl rfl rfl d2 (by simp [undef]) ⟨undef, rfl, ?_, ?_⟩
      · exact (slots_put (ns := 38) (hsa.size.trans rfl) (by decide))
      · exact Below.refl _ _
    | 5, ho =>
      obtain rfl := Option.some.inj ho
      try dsimp only at hd
      have d2 : a'.tmps.getD 13 undef = .bool false := hd 2 (by rfl)
      refine wpOp_off (j := 2) (dj := 13) rfl rfl rfl d2 (by simp [undef]) ⟨undef, rfl, ?_, ?_⟩
      · exact (slots_put (ns := 38) (hsa.size.trans rfl) (by decide))
      · exact Below.refl _ _
    | 6, ho =>
      obtain rfl := Option.some.inj ho
      try dsimp only at hd
      have d2 : a'.tmps.getD 13 undef = .bool false := hd 2 (by rfl)
      refine wpOp_off (j := 2) (dj := 13) rfl rfl rfl d2 (by simp [undef]) ⟨undef, rfl, ?_, ?_⟩
      · exact (slots_put (ns := 38) (hsa.size.trans rfl) (by decide))
      · exact Below.refl _ _
    | 7, ho =>
      obtain rfl := Option.some.inj ho
      try dsimp only at hd
      have d2 : a'.tmps.getD 13 undef = .bool false := hd 2 (by rfl)
      refine wpOp_off (j := 2) (dj := 13) rfl rfl rfl d2 (by simp [undef]) ⟨undef, rfl, ?_, ?_⟩
      · exact (slots_put (ns := 38) (hsa.size.trans rfl) (by decide))
      · exact Below.refl _ _
    | 8, ho =>
      obtain rfl := Option.some.inj ho
      try dsimp only at hd
      have d2 : a'.tmps.getD 13 undef = .bool false := hd 2 (by rfl)
      refine wpOp_off (j := 2) (dj := 13) rfl rfl rfl d2 (by simp [undef]) ⟨undef, rfl, ?_, ?_⟩
      · exact (slots_put (ns := 38) (hsa.size.trans rfl) (by decide))
      · exact Below.refl _ _
    | 9, ho =>
      obtain rfl := Option.some.inj ho
      try dsimp only at hd
      have d2 : a'.tmps.getD 13 undef = .bool false := hd 2 (by rfl)
      have d8 : a'.tmps.getD 19 undef = undef := hd 8 (by rfl)
      refine wpOp_of rfl rfl ?_
      refine op_run (v := .bool false) (w' := w') ?_ ⟨_, rfl, ?_, ?_⟩
      · simp only [execOp, Act.eval, List.map_toArray, List.map_cons, List.map_nil, d2, d8]; first | (go_simp; done) | rfl
      · try dsimp only
        exact (slots_put (ns := 38) (hsa.size.trans rfl) (by decide))
      · exact Below.refl _ _
    | 10, ho =>
      obtain rfl := Option.some.inj ho
      try dsimp only at hd
      have d9 : a'.tmps.getD 20 undef = .bool false := hd 9 (by rfl)
      refine wpOp_of rfl rfl ?_
      refine op_run (v := .bool false) (w' := w') ?_ ⟨_, rfl, ?_, ?_⟩
      · simp only [execOp, Act.eval, List.map_toArray, List.map_cons, List.map_nil, d9]; first | (go_simp; done) | rfl
      · try dsimp only
        exact (slots_put (ns := 38) (hsa.size.trans rfl) (by decide))
      · exact Below.refl _ _
    | 11, ho =>
      obtain rfl := Option.some.inj ho
      try dsimp only at hd
      have d10 : a'.tmps.getD 21 undef = .bool false := hd 10 (by rfl)
      refine wpOp_off (j := 10) (dj := 21) rfl rfl rfl d10 (by simp [undef]) ⟨undef, rfl, ?_, ?_⟩
      · exact (slots_put (ns := 38) (hsa.size.trans rfl) (by decide))
      · exact Below.refl _ _
    | 12, ho =>
      obtain rfl := Option.some.inj ho
      try dsimp only at hd
      have d10 : a'.tmps.getD 21 undef = .bool false := hd 10 (by rfl)
      refine wpOp_off (j := 10) (dj := 21) rfl rfl rfl d10 (by simp [undef]) ⟨undef, rfl, ?_, ?_⟩
      · exact (slots_put (ns := 38) (hsa.size.trans rfl) (by decide))
      · exact Below.refl _ _
    | 13, ho =>
      obtain rfl := Option.some.inj ho
      try dsimp only at hd
      have d10 : a'.tmps.getD 21 undef = .bool false := hd 10 (by rfl)
      refine wpOp_off (j := 10) (dj := 21) rfl rfl rfl d10 (by simp [undef]) ⟨undef, rfl, ?_, ?_⟩
      · exact (slots_put (ns := 38) (hsa.size.trans rfl) (by decide))
      · exact Below.refl _ _
    | 14, ho =>
      obtain rfl := Option.some.inj ho
      try dsimp only at hd
      have d10 : a'.tmps.getD 21 undef = .bool false := hd 10 (by rfl)
      refine wpOp_off (j := 10) (dj := 21) rfl rfl rfl d10 (by simp [undef]) ⟨undef, rfl, ?_, ?_⟩
      · exact (slots_put (ns := 38) (hsa.size.trans rfl) (by decide))
      · exact Below.refl _ _
    | 15, ho =>
      obtain rfl := Option.some.inj ho
      try dsimp only at hd
      have d10 : a'.tmps.getD 21 undef = .bool false := hd 10 (by rfl)
      refine wpOp_off (j := 10) (dj := 21) rfl rfl rfl d10 (by simp [undef]) ⟨undef, rfl, ?_, ?_⟩
      · exact (slots_put (ns := 38) (hsa.size.trans rfl) (by decide))
      · exact Below.refl _ _
    | 16, ho =>
      obtain rfl := Option.some.inj ho
      try dsimp only at hd
      have d10 : a'.tmps.getD 21 undef = .bool false := hd 10 (by rfl)
      refine wpOp_off (j := 10) (dj := 21) rfl rfl rfl d10 (by simp [undef]) ⟨undef, rfl, ?_, ?_⟩
      · exact (slots_put (ns := 38) (hsa.size.trans rfl) (by decide))
      · exact Below.refl _ _
    | 17, ho =>
      obtain rfl := Option.some.inj ho
      try dsimp only at hd
      have d10 : a'.tmps.getD 21 undef = .bool false := hd 10 (by rfl)
      refine wpOp_off (j := 10) (dj := 21) rfl rfl rfl d10 (by simp [undef]) ⟨undef, rfl, ?_, ?_⟩
      · exact (slots_put (ns := 38) (hsa.size.trans rfl) (by decide))
      · exact Below.refl _ _
    | 18, ho =>
      obtain rfl := Option.some.inj ho
      try dsimp only at hd
      have d10 : a'.tmps.getD 21 undef = .bool false := hd 10 (by rfl)
      refine wpOp_off (j := 10) (dj := 21) rfl rfl rfl d10 (by simp [undef]) ⟨undef, rfl, ?_, ?_⟩
      · exact (slots_put (ns := 38) (hsa.size.trans rfl) (by decide))
      · exact Below.refl _ _
    | 19, ho =>
      obtain rfl := Option.some.inj ho
      try dsimp only at hd
      have d10 : a'.tmps.getD 21 undef = .bool false := hd 10 (by rfl)
      refine wpOp_off (j := 10) (dj := 21) rfl rfl rfl d10 (by simp [undef]) ⟨undef, rfl, ?_, ?_⟩
      · exact (slots_put (ns := 38) (hsa.size.trans rfl) (by decide))
      · exact Below.refl _ _
    | 20, ho =>
      obtain rfl := Option.some.inj ho
      try dsimp only at hd
      have d10 : a'.tmps.getD 21 undef = .bool false := hd 10 (by rfl)
      refine wpOp_off (j := 10) (dj := 21) rfl rfl rfl d10 (by simp [undef]) ⟨undef, rfl, ?_, ?_⟩
      · exact (slots_put (ns := 38) (hsa.size.trans rfl) (by decide))
      · exact Below.refl _ _
    | 21, ho =>
      obtain rfl := Option.some.inj ho
      try dsimp only at hd
      have d10 : a'.tmps.getD 21 undef = .bool false := hd 10 (by rfl)
      refine wpOp_off (j := 10) (dj := 21) rfl rfl rfl d10 (by simp [undef]) ⟨undef, rfl, ?_, ?_⟩
      · exact (slots_put (ns := 38) (hsa.size.trans rfl) (by decide))
      · exact Below.refl _ _
    | 22, ho =>
      obtain rfl := Option.some.inj ho
      try dsimp only at hd
      have d10 : a'.tmps.getD 21 undef = .bool false := hd 10 (by rfl)
      refine wpOp_off (j := 10) (dj := 21) rfl rfl rfl d10 (by simp [undef]) ⟨undef, rfl, ?_, ?_⟩
      · exact (slots_put (ns := 38) (hsa.size.trans rfl) (by decide))
      · exact Below.refl _ _
    | 23, ho =>
      obtain rfl := Option.some.inj ho
      try dsimp only at hd
      have d10 : a'.tmps.getD 21 undef = .bool false := hd 10 (by rfl)
      refine wpOp_off (j := 10) (dj := 21) rfl rfl rfl d10 (by simp [undef]) ⟨undef, rfl, ?_, ?_⟩
      · exact (slots_put (ns := 38) (hsa.size.trans rfl) (by decide))
      · exact Below.refl _ _
    | 24, ho =>
      obtain rfl := Option.some.inj ho
      try dsimp only at hd
      have d10 : a'.tmps.getD 21 undef = .bool false := hd 10 (by rfl)
      refine wpOp_off (j := 10) (dj := 21) rfl rfl rfl d10 (by simp [undef]) ⟨undef, rfl, ?_, ?_⟩
      · exact (slots_put (ns := 38) (hsa.size.trans rfl) (by decide))
      · exact Below.refl _ _
    | 25, ho =>
      obtain rfl := Option.some.inj ho
      try dsimp only at hd
      have d10 : a'.tmps.getD 21 undef = .bool false := hd 10 (by rfl)
      refine wpOp_off (j := 10) (dj := 21) rfl rfl rfl d10 (by simp [undef]) ⟨undef, rfl, ?_, ?_⟩
      · exact (slots_put (ns := 38) (hsa.size.trans rfl) (by decide))
      · exact Below.refl _ _
    | 26, ho =>
      obtain rfl := Option.some.inj ho
      try dsimp only at hd
      have d10 : a'.tmps.getD 21 undef = .bool false := hd 10 (by rfl)
      have d25 : a'.tmps.getD 36 undef = undef := hd 25 (by rfl)
      refine wpOp_of rfl rfl ?_
      refine op_run (v := .bool false) (w' := w') ?_ ⟨_, rfl, ?_, ?_⟩
      · simp only [execOp, Act.eval, List.map_toArray, List.map_cons, List.map_nil, d10, d25]; first | (go_simp; done) | rfl
      · try dsimp only
        exact (slots_put (ns := 38) (hsa.size.trans rfl) (by decide))
      · exact Below.refl _ _
    | 27, ho =>
      obtain rfl := Option.some.inj ho
      try dsimp only at hd
      have d26 : a'.tmps.getD 37 undef = .bool false := hd 26 (by rfl)
      refine wpOp_of rfl rfl ?_
      refine op_run (v := .bool false) (w' := w') ?_ ⟨_, rfl, ?_, ?_⟩
      · simp only [execOp, Act.eval, List.map_toArray, List.map_cons, List.map_nil, d26]; first | (go_simp; done) | rfl
      · try dsimp only
        exact (slots_put (ns := 38) (hsa.size.trans rfl) (by decide))
      · exact Below.refl _ _
    | (n + 28), ho => exact absurd ho (by simp)
  case pdone =>
    intro a' w' hsa hb hd
    have d0 : a'.tmps.getD 11 undef = .agg #[.int .i64 m.node, .int .i64 m.life] := hd 0 (by decide)
    have d1 : a'.tmps.getD 12 undef = .bool false := hd 1 (by decide)
    have d2 : a'.tmps.getD 13 undef = .bool false := hd 2 (by decide)
    have d3 : a'.tmps.getD 14 undef = undef := hd 3 (by decide)
    have d4 : a'.tmps.getD 15 undef = undef := hd 4 (by decide)
    have d5 : a'.tmps.getD 16 undef = undef := hd 5 (by decide)
    have d6 : a'.tmps.getD 17 undef = undef := hd 6 (by decide)
    have d7 : a'.tmps.getD 18 undef = undef := hd 7 (by decide)
    have d8 : a'.tmps.getD 19 undef = undef := hd 8 (by decide)
    have d9 : a'.tmps.getD 20 undef = .bool false := hd 9 (by decide)
    have d10 : a'.tmps.getD 21 undef = .bool false := hd 10 (by decide)
    have d11 : a'.tmps.getD 22 undef = undef := hd 11 (by decide)
    have d12 : a'.tmps.getD 23 undef = undef := hd 12 (by decide)
    have d13 : a'.tmps.getD 24 undef = undef := hd 13 (by decide)
    have d14 : a'.tmps.getD 25 undef = undef := hd 14 (by decide)
    have d15 : a'.tmps.getD 26 undef = undef := hd 15 (by decide)
    have d16 : a'.tmps.getD 27 undef = undef := hd 16 (by decide)
    have d17 : a'.tmps.getD 28 undef = undef := hd 17 (by decide)
    have d18 : a'.tmps.getD 29 undef = undef := hd 18 (by decide)
    have d19 : a'.tmps.getD 30 undef = undef := hd 19 (by decide)
    have d20 : a'.tmps.getD 31 undef = undef := hd 20 (by decide)
    have d21 : a'.tmps.getD 32 undef = undef := hd 21 (by decide)
    have d22 : a'.tmps.getD 33 undef = undef := hd 22 (by decide)
    have d23 : a'.tmps.getD 34 undef = undef := hd 23 (by decide)
    have d24 : a'.tmps.getD 35 undef = undef := hd 24 (by decide)
    have d25 : a'.tmps.getD 36 undef = undef := hd 25 (by decide)
    have d26 : a'.tmps.getD 37 undef = .bool false := hd 26 (by decide)
    have d27 : a'.tmps.getD 4 undef = .bool false := hd 27 (by decide)
    exact HQ.out _ _ ⟨hsa.size.trans rfl, hsa.defers, (hsa.rest 0 (by rfl)).trans rfl, (hsa.rest 3 (by rfl)).trans rfl, d27⟩ hb
set_option maxHeartbeats 8000000 in
set_option maxRecDepth 100000 in
theorem pi_r3b {K : Act → World → Prop} {c : Code} (hc : regOf (Try.f15.body.getD .skip) 3 = some c) (a : Act) {v : Vpi} {wq : World} {b d : Nat} {m p : MB} (hF : Fpi a v) (h0v : v.v0 = .pointer (some ⟨b, 0, none⟩)) (h3v : v.v3 = .pointer (some ⟨d, 0, none⟩)) (hdl : d < wq.heap.size) (c0 : wq.cell? ⟨d, 0, none⟩ = some (.int .i64 m.node)) (c1 : wq.cell? ⟨d, 1, none⟩ = some (.int .i64 m.life)) (hE : ∀ w', Below wq.heap.size wq w' → Calls Try.prog 18 #[.agg #[.int .i64 m.node, .int .i64 m.life]] w' fun e w'' => e = .returned (.bool true) ∧ Below w'.heap.size w' w'') (hL : ∀ w', Below wq.heap.size wq w' → Calls Try.prog 21 #[.pointer (some ⟨b, 0, none⟩), .int .i64 m.node] w' fun e w'' => e = .returned (.agg #[.int .i64 p.node, .int .i64 p.life]) ∧ Below w'.heap.size w' w'') (hg : (m.node == p.node && m.life == p.life) = false)
    (hQ : ∀ a' w', Fpi a' { v with v4 := .bool false } → Below wq.heap.size wq w' → K a' w') :
    Code.wp Try.prog c (Exit.then K fun _ _ _ => False) a wq := by
  have HQ := hide hQ
  clear hQ
  obtain ⟨t', d'⟩ := a
  obtain ⟨v0, v3, v4⟩ := v
  simp only at h0v h3v HQ
  subst h0v h3v
  obtain ⟨hs1, hd1, q0, q3, q4⟩ := hF
  obtain ⟨u, hu⟩ := frame_pi t' hs1
  simp only at hd1 q0 q3 q4
  subst hu hd1
  have e0 : u 0 = .pointer (some ⟨b, 0, none⟩) := q0
  have e3 : u 3 = .pointer (some ⟨d, 0, none⟩) := q3
  have e4 : u 4 = v4 := q4
  rw [e0, e3, e4]
  clear q0 e0 q3 e3 q4 e4 hs1
  simp only [Try.f15, Option.getD_some, regOf] at hc
  injection hc with hc
  subst hc
  generalize u 1 = u1
  generalize u 2 = u2
  generalize u 5 = u5
  generalize u 6 = u6
  generalize u 7 = u7
  generalize u 8 = u8
  generalize u 9 = u9
  generalize u 10 = u10
  generalize u 11 = u11
  generalize u 12 = u12
  generalize u 13 = u13
  generalize u 14 = u14
  generalize u 15 = u15
  generalize u 16 = u16
  generalize u 17 = u17
  generalize u 18 = u18
  generalize u 19 = u19
  generalize u 20 = u20
  generalize u 21 = u21
  generalize u 22 = u22
  generalize u 23 = u23
  generalize u 24 = u24
  generalize u 25 = u25
  generalize u 26 = u26
  generalize u 27 = u27
  generalize u 28 = u28
  generalize u 29 = u29
  generalize u 30 = u30
  generalize u 31 = u31
  generalize u 32 = u32
  generalize u 33 = u33
  generalize u 34 = u34
  generalize u 35 = u35
  generalize u 36 = u36
  generalize u 37 = u37
  clear u
  refine wp_region_phi (by kernel_rfl) (ns := 38) (uses := (fun i => match i with | 0 => [11] | 1 => [12] | 2 => [13] | 3 => [14] | 4 => [15] | 5 => [16] | 6 => [17] | 7 => [18] | 8 => [19] | 9 => [20] | 10 => [21] | 11 => [22] | 12 => [23] | 13 => [24] | 14 => [25] | 15 => [26] | 16 => [27] | 17 => [28] | 18 => [29] | 19 => [30] | 20 => [31] | 21 => [32] | 22 => [33] | 23 => [34] | 24 => [35] | 25 => [36] | 26 => [37] | 27 => [4] | _ => [])) (by kernel_rfl) (by kernel_rfl) (fun _ w w' => Below w.heap.size w w') (fun w => Below wq.heap.size wq w) (fun _ _ _ h r => h.trans (r.mono h.size)) ((Below.refl _ _).drew) (fun i => match i with | 0 => fun s w => s 11 = .agg #[.int .i64 m.node, .int .i64 m.life] | 1 => fun s w => s 12 = .bool true | 2 => fun s w => s 13 = .bool true | 3 => fun s w => s 14 = .agg #[.int .i64 m.node, .int .i64 m.life] | 4 => fun s w => s 15 = .pointer (some ⟨b, 0, none⟩) | 5 => fun s w => s 16 = .pointer (some ⟨d, 0, none⟩) | 6 => fun s w => s 17 = .int .i64 m.node | 7 => fun s w => s 18 = .agg #[.int .i64 p.node, .int .i64 p.life] | 8 => fun s w => s 19 = .bool false | 9 => fun s w => s 20 = .bool false | 10 => fun s w => s 21 = .bool false | 11 => fun s w => s 22 = undef | 12 => fun s w => s 23 = undef | 13 => fun s w => s 24 = undef | 14 => fun s w => s 25 = undef | 15 => fun s w => s 26 = undef | 16 => fun s w => s 27 = undef | 17 => fun s w => s 28 = undef | 18 => fun s w => s 29 = undef | 19 => fun s w => s 30 = undef | 20 => fun s w => s 31 = undef | 21 => fun s w => s 32 = undef | 22 => fun s w => s 33 = undef | 23 => fun s w => s 34 = undef | 24 => fun s w => s 35 = undef | 25 => fun s w => s 36 = undef | 26 => fun s w => s 37 = .bool false | 27 => fun s w => s 4 = .bool false | _ => fun _ _ => True) ?phc ?phh ?pstep ?pdone
  case phc =>
    intro i s s' w hx h
    match i, hx, h with
    | 0, hx, h =>
      have e11 := hx 11 (by simp)
      first | exact (show _ from by simp only [← e11] at *; exact h) | (simp only [e11] at h; exact h)
    | 1, hx, h =>
      have e12 := hx 12 (by simp)
      first | exact (show _ from by simp only [← e12] at *; exact h) | (simp only [e12] at h; exact h)
    | 2, hx, h =>
      have e13 := hx 13 (by simp)
      first | exact (show _ from by simp only [← e13] at *; exact h) | (simp only [e13] at h; exact h)
    | 3, hx, h =>
      have e14 := hx 14 (by simp)
      first | exact (show _ from by simp only [← e14] at *; exact h) | (simp only [e14] at h; exact h)
    | 4, hx, h =>
      have e15 := hx 15 (by simp)
      first | exact (show _ from by simp only [← e15] at *; exact h) | (simp only [e15] at h; exact h)
    | 5, hx, h =>
      have e16 := hx 16 (by simp)
      first | exact (show _ from by simp only [← e16] at *; exact h) | (simp only [e16] at h; exact h)
    | 6, hx, h =>
      have e17 := hx 17 (by simp)
      first | exact (show _ from by simp only [← e17] at *; exact h) | (simp only [e17] at h; exact h)
    | 7, hx, h =>
      have e18 := hx 18 (by simp)
      first | exact (show _ from by simp only [← e18] at *; exact h) | (simp only [e18] at h; exact h)
    | 8, hx, h =>
      have e19 := hx 19 (by simp)
      first | exact (show _ from by simp only [← e19] at *; exact h) | (simp only [e19] at h; exact h)
    | 9, hx, h =>
      have e20 := hx 20 (by simp)
      first | exact (show _ from by simp only [← e20] at *; exact h) | (simp only [e20] at h; exact h)
    | 10, hx, h =>
      have e21 := hx 21 (by simp)
      first | exact (show _ from by simp only [← e21] at *; exact h) | (simp only [e21] at h; exact h)
    | 11, hx, h =>
      have e22 := hx 22 (by simp)
      first | exact (show _ from by simp only [← e22] at *; exact h) | (simp only [e22] at h; exact h)
    | 12, hx, h =>
      have e23 := hx 23 (by simp)
      first | exact (show _ from by simp only [← e23] at *; exact h) | (simp only [e23] at h; exact h)
    | 13, hx, h =>
      have e24 := hx 24 (by simp)
      first | exact (show _ from by simp only [← e24] at *; exact h) | (simp only [e24] at h; exact h)
    | 14, hx, h =>
      have e25 := hx 25 (by simp)
      first | exact (show _ from by simp only [← e25] at *; exact h) | (simp only [e25] at h; exact h)
    | 15, hx, h =>
      have e26 := hx 26 (by simp)
      first | exact (show _ from by simp only [← e26] at *; exact h) | (simp only [e26] at h; exact h)
    | 16, hx, h =>
      have e27 := hx 27 (by simp)
      first | exact (show _ from by simp only [← e27] at *; exact h) | (simp only [e27] at h; exact h)
    | 17, hx, h =>
      have e28 := hx 28 (by simp)
      first | exact (show _ from by simp only [← e28] at *; exact h) | (simp only [e28] at h; exact h)
    | 18, hx, h =>
      have e29 := hx 29 (by simp)
      first | exact (show _ from by simp only [← e29] at *; exact h) | (simp only [e29] at h; exact h)
    | 19, hx, h =>
      have e30 := hx 30 (by simp)
      first | exact (show _ from by simp only [← e30] at *; exact h) | (simp only [e30] at h; exact h)
    | 20, hx, h =>
      have e31 := hx 31 (by simp)
      first | exact (show _ from by simp only [← e31] at *; exact h) | (simp only [e31] at h; exact h)
    | 21, hx, h =>
      have e32 := hx 32 (by simp)
      first | exact (show _ from by simp only [← e32] at *; exact h) | (simp only [e32] at h; exact h)
    | 22, hx, h =>
      have e33 := hx 33 (by simp)
      first | exact (show _ from by simp only [← e33] at *; exact h) | (simp only [e33] at h; exact h)
    | 23, hx, h =>
      have e34 := hx 34 (by simp)
      first | exact (show _ from by simp only [← e34] at *; exact h) | (simp only [e34] at h; exact h)
    | 24, hx, h =>
      have e35 := hx 35 (by simp)
      first | exact (show _ from by simp only [← e35] at *; exact h) | (simp only [e35] at h; exact h)
    | 25, hx, h =>
      have e36 := hx 36 (by simp)
      first | exact (show _ from by simp only [← e36] at *; exact h) | (simp only [e36] at h; exact h)
    | 26, hx, h =>
      have e37 := hx 37 (by simp)
      first | exact (show _ from by simp only [← e37] at *; exact h) | (simp only [e37] at h; exact h)
    | 27, hx, h =>
      have e4 := hx 4 (by simp)
      first | exact (show _ from by simp only [← e4] at *; exact h) | (simp only [e4] at h; exact h)
    | (n + 28), _, h => exact h
  case phh =>
    intro i j s w w' hij h hb r
    match i, hij, h with
    | 0, hij, h =>
      exact h
    | 1, hij, h =>
      exact h
    | 2, hij, h =>
      exact h
    | 3, hij, h =>
      exact h
    | 4, hij, h =>
      exact h
    | 5, hij, h =>
      exact h
    | 6, hij, h =>
      exact h
    | 7, hij, h =>
      exact h
    | 8, hij, h =>
      exact h
    | 9, hij, h =>
      exact h
    | 10, hij, h =>
      exact h
    | 11, hij, h =>
      exact h
    | 12, hij, h =>
      exact h
    | 13, hij, h =>
      exact h
    | 14, hij, h =>
      exact h
    | 15, hij, h =>
      exact h
    | 16, hij, h =>
      exact h
    | 17, hij, h =>
      exact h
    | 18, hij, h =>
      exact h
    | 19, hij, h =>
      exact h
    | 20, hij, h =>
      exact h
    | 21, hij, h =>
      exact h
    | 22, hij, h =>
      exact h
    | 23, hij, h =>
      exact h
    | 24, hij, h =>
      exact h
    | 25, hij, h =>
      exact h
    | 26, hij, h =>
      exact h
    | 27, hij, h =>
      exact h
    | (n + 28), _, h => exact h
  case pstep =>
    intro i o ho a' w' hsa hb hd
    match i, ho with
    | 0, ho =>
      obtain rfl := Option.some.inj ho
      try dsimp only at hd
      have g3 : a'.tmps.getD 3 undef = .pointer (some ⟨d, 0, none⟩) := hsa.rest 3 (by rfl)
      have c0x := (hb.cell (p := ⟨d, _, none⟩) hdl).trans c0
      have c1x := (hb.cell (p := ⟨d, _, none⟩) hdl).trans c1
      refine wpOp_of rfl rfl ?_
      refine op_run (v := .agg #[.int .i64 m.node, .int .i64 m.life]) (w' := w') ?_ ⟨_, rfl, ?_, ?_⟩
      · simp only [execOp, Act.eval, List.map_toArray, List.map_cons, List.map_nil, g3, c0x, c1x]; first | (go_simp; done) | rfl
      · try dsimp only
        exact (slots_put (ns := 38) (hsa.size.trans rfl) (by decide))
      · exact Below.refl _ _
    | 1, ho =>
      obtain rfl := Option.some.inj ho
      try dsimp only at hd
      have d0 : a'.tmps.getD 11 undef = .agg #[.int .i64 m.node, .int .i64 m.life] := hd 0 (by rfl)
      refine wpOp_of rfl rfl ?_
      refine op_call 18 _ _ rfl (enters_of Try.func18 (by kernel_rfl) rfl) [.agg #[.int .i64 m.node, .int .i64 m.life]] (by simp only [List.map, Act.eval, d0]) (hE w' hb) ?_
      rintro e w'' ⟨rfl, b2⟩
      refine ⟨_, rfl, _, rfl, ?_, ?_⟩
      · try dsimp only
        exact (slots_put (ns := 38) (hsa.size.trans rfl) (by decide))
      · exact b2
    | 2, ho =>
      obtain rfl := Option.some.inj ho
      try dsimp only at hd
      have d1 : a'.tmps.getD 12 undef = .bool true := hd 1 (by rfl)
      refine wpOp_of rfl rfl ?_
      refine op_run (v := .bool true) (w' := w') ?_ ⟨_, rfl, ?_, ?_⟩
      · simp only [execOp, Act.eval, List.map_toArray, List.map_cons, List.map_nil, d1]; first | (go_simp; done) | rfl
      · try dsimp only
        exact (slots_put (ns := 38) (hsa.size.trans rfl) (by decide))
      · exact Below.refl _ _
    | 3, ho =>
      obtain rfl := Option.some.inj ho
      try dsimp only at hd
      have d2 : a'.tmps.getD 13 undef = .bool true := hd 2 (by rfl)
      have g3 : a'.tmps.getD 3 undef = .pointer (some ⟨d, 0, none⟩) := hsa.rest 3 (by rfl)
      have c0x := (hb.cell (p := ⟨d, _, none⟩) hdl).trans c0
      have c1x := (hb.cell (p := ⟨d, _, none⟩) hdl).trans c1
      refine wpOp_on (j := 2) (dj := 13) rfl rfl rfl d2 ?_
      refine op_run (v := .agg #[.int .i64 m.node, .int .i64 m.life]) (w' := w') ?_ ⟨_, rfl, ?_, ?_⟩
      · simp only [execOp, Act.eval, List.map_toArray, List.map_cons, List.map_nil, d2, g3, c0x, c1x]; first | (go_simp; done) | rfl
      · try dsimp only
        exact (slots_put (ns := 38) (hsa.size.trans rfl) (by decide))
      · exact Below.refl _ _
    | 4, ho =>
      obtain rfl := Option.some.inj ho
      try dsimp only at hd
      have d2 : a'.tmps.getD 13 undef = .bool true := hd 2 (by rfl)
      have g0 : a'.tmps.getD 0 undef = .pointer (some ⟨b, 0, none⟩) := hsa.rest 0 (by rfl)
      refine wpOp_on (j := 2) (dj := 13) rfl rfl rfl d2 ?_
      refine op_run (v := .pointer (some ⟨b, 0, none⟩)) (w' := w') ?_ ⟨_, rfl, ?_, ?_⟩
      · simp only [execOp, Act.eval, List.map_toArray, List.map_cons, List.map_nil, d2, g0]; first | (go_simp; done) | rfl
      · try dsimp only
        exact (slots_put (ns := 38) (hsa.size.trans rfl) (by decide))
      · exact Below.refl _ _
    | 5, ho =>
      obtain rfl := Option.some.inj ho
      try dsimp only at hd
      have d2 : a'.tmps.getD 13 undef = .bool true := hd 2 (by rfl)
      have g3 : a'.tmps.getD 3 undef = .pointer (some ⟨d, 0, none⟩) := hsa.rest 3 (by rfl)
      refine wpOp_on (j := 2) (dj := 13) rfl rfl rfl d2 ?_
      refine op_run (v := .pointer (some ⟨d, 0, none⟩)) (w' := w') ?_ ⟨_, rfl, ?_, ?_⟩
      · simp only [execOp, Act.eval, List.map_toArray, List.map_cons, List.map_nil, d2, g3]; first | (go_simp; done) | rfl
      · try dsimp only
        exact (slots_put (ns := 38) (hsa.size.trans rfl) (by decide))
      · exact Below.refl _ _
    | 6, ho =>
      obtain rfl := Option.some.inj ho
      try dsimp only at hd
      have d2 : a'.tmps.getD 13 undef = .bool true := hd 2 (by rfl)
      have d5 : a'.tmps.getD 16 undef = .pointer (some ⟨d, 0, none⟩) := hd 5 (by rfl)
      have c0x := (hb.cell (p := ⟨d, _, none⟩) hdl).trans c0
      refine wpOp_on (j := 2) (dj := 13) rfl rfl rfl d2 ?_
      refine op_run (v := .int .i64 m.node) (w' := w') ?_ ⟨_, rfl, ?_, ?_⟩
      · simp only [execOp, Act.eval, List.map_toArray, List.map_cons, List.map_nil, d2, d5, c0x]; first | (go_simp; done) | rfl
      · try dsimp only
        exact (slots_put (ns := 38) (hsa.size.trans rfl) (by decide))
      · exact Below.refl _ _
    | 7, ho =>
      obtain rfl := Option.some.inj ho
      try dsimp only at hd
      have d2 : a'.tmps.getD 13 undef = .bool true := hd 2 (by rfl)
      have d4 : a'.tmps.getD 15 undef = .pointer (some ⟨b, 0, none⟩) := hd 4 (by rfl)
      have d6 : a'.tmps.getD 17 undef = .int .i64 m.node := hd 6 (by rfl)
      refine wpOp_on (j := 2) (dj := 13) rfl rfl rfl d2 ?_
      refine op_call 21 _ _ rfl (enters_of Try.func21 (by kernel_rfl) rfl) [.pointer (some ⟨b, 0, none⟩), .int .i64 m.node] (by simp only [List.map, Act.eval, d2, d4, d6]) (hL w' hb) ?_
      rintro e w'' ⟨rfl, b2⟩
      refine ⟨_, rfl, _, rfl, ?_, ?_⟩
      · try dsimp only
        exact (slots_put (ns := 38) (hsa.size.trans rfl) (by decide))
      · exact b2
    | 8, ho =>
      obtain rfl := Option.some.inj ho
      try dsimp only at hd
      have d2 : a'.tmps.getD 13 undef = .bool true := hd 2 (by rfl)
      have d3 : a'.tmps.getD 14 undef = .agg #[.int .i64 m.node, .int .i64 m.life] := hd 3 (by rfl)
      have d7 : a'.tmps.getD 18 undef = .agg #[.int .i64 p.node, .int .i64 p.life] := hd 7 (by rfl)
      refine wpOp_on (j := 2) (dj := 13) rfl rfl rfl d2 ?_
      refine op_run (v := .bool false) (w' := w') ?_ ⟨_, rfl, ?_, ?_⟩
      · exact (ex_mem _ m.node p.node m.life p.life _ _ _ (by simp only [Act.eval, d3]) (by simp only [Act.eval, d7]) _ rfl).trans (by rw [hg])
      · try dsimp only
        exact (slots_put (ns := 38) (hsa.size.trans rfl) (by decide))
      · exact Below.refl _ _
    | 9, ho =>
      obtain rfl := Option.some.inj ho
      try dsimp only at hd
      have d2 : a'.tmps.getD 13 undef = .bool true := hd 2 (by rfl)
      have d8 : a'.tmps.getD 19 undef = .bool false := hd 8 (by rfl)
      refine wpOp_of rfl rfl ?_
      refine op_run (v := .bool false) (w' := w') ?_ ⟨_, rfl, ?_, ?_⟩
      · simp only [execOp, Act.eval, List.map_toArray, List.map_cons, List.map_nil, d2, d8]; first | (go_simp; done) | rfl
      · try dsimp only
        exact (slots_put (ns := 38) (hsa.size.trans rfl) (by decide))
      · exact Below.refl _ _
    | 10, ho =>
      obtain rfl := Option.some.inj ho
      try dsimp only at hd
      have d9 : a'.tmps.getD 20 undef = .bool false := hd 9 (by rfl)
      refine wpOp_of rfl rfl ?_
      refine op_run (v := .bool false) (w' := w') ?_ ⟨_, rfl, ?_, ?_⟩
      · simp only [execOp, Act.eval, List.map_toArray, List.map_cons, List.map_nil, d9]; first | (go_simp; done) | rfl
      · try dsimp only
        exact (slots_put (ns := 38) (hsa.size.trans rfl) (by decide))
      · exact Below.refl _ _
    | 11, ho =>
      obtain rfl := Option.some.inj ho
      try dsimp only at hd
      have d10 : a'.tmps.getD 21 undef = .bool false := hd 10 (by rfl)
      refine wpOp_off (j := 10) (dj := 21) rfl rfl rfl d10 (by simp [undef]) ⟨undef, rfl, ?_, ?_⟩
      · exact (slots_put (ns := 38) (hsa.size.trans rfl) (by decide))
      · exact Below.refl _ _
    | 12, ho =>
      obtain rfl := Option.some.inj ho
      try dsimp only at hd
      have d10 : a'.tmps.getD 21 undef = .bool false := hd 10 (by rfl)
      refine wpOp_off (j := 10) (dj := 21) rfl rfl rfl d10 (by simp [undef]) ⟨undef, rfl, ?_, ?_⟩
      · exact (slots_put (ns := 38) (hsa.size.trans rfl) (by decide))
      · exact Below.refl _ _
    | 13, ho =>
      obtain rfl := Option.some.inj ho
      try dsimp only at hd
      have d10 : a'.tmps.getD 21 undef = .bool false := hd 10 (by rfl)
      refine wpOp_off (j := 10) (dj := 21) rfl rfl rfl d10 (by simp [undef]) ⟨undef, rfl, ?_, ?_⟩
      · exact (slots_put (ns := 38) (hsa.size.trans rfl) (by decide))
      · exact Below.refl _ _
    | 14, ho =>
      obtain rfl := Option.some.inj ho
      try dsimp only at hd
      have d10 : a'.tmps.getD 21 undef = .bool false := hd 10 (by rfl)
      refine wpOp_off (j := 10) (dj := 21) rfl rfl rfl d10 (by simp [undef]) ⟨undef, rfl, ?_, ?_⟩
      · exact (slots_put (ns := 38) (hsa.size.trans rfl) (by decide))
      · exact Below.refl _ _
    | 15, ho =>
      obtain rfl := Option.some.inj ho
      try dsimp only at hd
      have d10 : a'.tmps.getD 21 undef = .bool false := hd 10 (by rfl)
      refine wpOp_off (j := 10) (dj := 21) rfl rfl rfl d10 (by simp [undef]) ⟨undef, rfl, ?_, ?_⟩
      · exact (slots_put (ns := 38) (hsa.size.trans rfl) (by decide))
      · exact Below.refl _ _
    | 16, ho =>
      obtain rfl := Option.some.inj ho
      try dsimp only at hd
      have d10 : a'.tmps.getD 21 undef = .bool false := hd 10 (by rfl)
      refine wpOp_off (j := 10) (dj := 21) rfl rfl rfl d10 (by simp [undef]) ⟨undef, rfl, ?_, ?_⟩
      · exact (slots_put (ns := 38) (hsa.size.trans rfl) (by decide))
      · exact Below.refl _ _
    | 17, ho =>
      obtain rfl := Option.some.inj ho
      try dsimp only at hd
      have d10 : a'.tmps.getD 21 undef = .bool false := hd 10 (by rfl)
      refine wpOp_off (j := 10) (dj := 21) rfl rfl rfl d10 (by simp [undef]) ⟨undef, rfl, ?_, ?_⟩
      · exact (slots_put (ns := 38) (hsa.size.trans rfl) (by decide))
      · exact Below.refl _ _
    | 18, ho =>
      obtain rfl := Option.some.inj ho
      try dsimp only at hd
      have d10 : a'.tmps.getD 21 undef = .bool false := hd 10 (by rfl)
      refine wpOp_off (j := 10) (dj := 21) rfl rfl rfl d10 (by simp [undef]) ⟨undef, rfl, ?_, ?_⟩
      · exact (slots_put (ns := 38) (hsa.size.trans rfl) (by decide))
      · exact Below.refl _ _
    | 19, ho =>
      obtain rfl := Option.some.inj ho
      try dsimp only at hd
      have d10 : a'.tmps.getD 21 undef = .bool false := hd 10 (by rfl)
      refine wpOp_off (j := 10) (dj := 21) rfl rfl rfl d10 (by simp [undef]) ⟨undef, rfl, ?_, ?_⟩
      · exact (slots_put (ns := 38) (hsa.size.trans rfl) (by decide))
      · exact Below.refl _ _
    | 20, ho =>
      obtain rfl := Option.some.inj ho
      try dsimp only at hd
      have d10 : a'.tmps.getD 21 undef = .bool false := hd 10 (by rfl)
      refine wpOp_off (j := 10) (dj := 21) rfl rfl rfl d10 (by simp [undef]) ⟨undef, rfl, ?_, ?_⟩
      · exact (slots_put (ns := 38) (hsa.size.trans rfl) (by decide))
      · exact Below.refl _ _
    | 21, ho =>
      obtain rfl := Option.some.inj ho
      try dsimp only at hd
      have d10 : a'.tmps.getD 21 undef = .bool false := hd 10 (by rfl)
      refine wpOp_off (j := 10) (dj := 21) rfl rfl rfl d10 (by simp [undef]) ⟨undef, rfl, ?_, ?_⟩
      · exact (slots_put (ns := 38) (hsa.size.trans rfl) (by decide))
      · exact Below.refl _ _
    | 22, ho =>
      obtain rfl := Option.some.inj ho
      try dsimp only at hd
      have d10 : a'.tmps.getD 21 undef = .bool false := hd 10 (by rfl)
      refine wpOp_off (j := 10) (dj := 21) rfl rfl rfl d10 (by simp [undef]) ⟨undef, rfl, ?_, ?_⟩
      · exact (slots_put (ns := 38) (hsa.size.trans rfl) (by decide))
      · exact Below.refl _ _
    | 23, ho =>
      obtain rfl := Option.some.inj ho
      try dsimp only at hd
      have d10 : a'.tmps.getD 21 undef = .bool false := hd 10 (by rfl)
      refine wpOp_off (j := 10) (dj := 21) rfl rfl rfl d10 (by simp [undef]) ⟨undef, rfl, ?_, ?_⟩
      · exact (slots_put (ns := 38) (hsa.size.trans rfl) (by decide))
      · exact Below.refl _ _
    | 24, ho =>
      obtain rfl := Option.some.inj ho
      try dsimp only at hd
      have d10 : a'.tmps.getD 21 undef = .bool false := hd 10 (by rfl)
      refine wpOp_off (j := 10) (dj := 21) rfl rfl rfl d10 (by simp [undef]) ⟨undef, rfl, ?_, ?_⟩
      · exact (slots_put (ns := 38) (hsa.size.trans rfl) (by decide))
      · exact Below.refl _ _
    | 25, ho =>
      obtain rfl := Option.some.inj ho
      try dsimp only at hd
      have d10 : a'.tmps.getD 21 undef = .bool false := hd 10 (by rfl)
      refine wpOp_off (j := 10) (dj := 21) rfl rfl rfl d10 (by simp [undef]) ⟨undef, rfl, ?_, ?_⟩
      · exact (slots_put (ns := 38) (hsa.size.trans rfl) (by decide))
      · exact Below.refl _ _
    | 26, ho =>
      obtain rfl := Option.some.inj ho
      try dsimp only at hd
      have d10 : a'.tmps.getD 21 undef = .bool false := hd 10 (by rfl)
      have d25 : a'.tmps.getD 36 undef = undef := hd 25 (by rfl)
      refine wpOp_of rfl rfl ?_
      refine op_run (v := .bool false) (w' := w') ?_ ⟨_, rfl, ?_, ?_⟩
      · simp only [execOp, Act.eval, List.map_toArray, List.map_cons, List.map_nil, d10, d25]; first | (go_simp; done) | rfl
      · try dsimp only
        exact (slots_put (ns := 38) (hsa.size.trans rfl) (by decide))
      · exact Below.refl _ _
    | 27, ho =>
      obtain rfl := Option.some.inj ho
      try dsimp only at hd
      have d26 : a'.tmps.getD 37 undef = .bool false := hd 26 (by rfl)
      refine wpOp_of rfl rfl ?_
      refine op_run (v := .bool false) (w' := w') ?_ ⟨_, rfl, ?_, ?_⟩
      · simp only [execOp, Act.eval, List.map_toArray, List.map_cons, List.map_nil, d26]; first | (go_simp; done) | rfl
      · try dsimp only
        exact (slots_put (ns := 38) (hsa.size.trans rfl) (by decide))
      · exact Below.refl _ _
    | (n + 28), ho => exact absurd ho (by simp)
  case pdone =>
    intro a' w' hsa hb hd
    have d0 : a'.tmps.getD 11 undef = .agg #[.int .i64 m.node, .int .i64 m.life] := hd 0 (by decide)
    have d1 : a'.tmps.getD 12 undef = .bool true := hd 1 (by decide)
    have d2 : a'.tmps.getD 13 undef = .bool true := hd 2 (by decide)
    have d3 : a'.tmps.getD 14 undef = .agg #[.int .i64 m.node, .int .i64 m.life] := hd 3 (by decide)
    have d4 : a'.tmps.getD 15 undef = .pointer (some ⟨b, 0, none⟩) := hd 4 (by decide)
    have d5 : a'.tmps.getD 16 undef = .pointer (some ⟨d, 0, none⟩) := hd 5 (by decide)
    have d6 : a'.tmps.getD 17 undef = .int .i64 m.node := hd 6 (by decide)
    have d7 : a'.tmps.getD 18 undef = .agg #[.int .i64 p.node, .int .i64 p.life] := hd 7 (by decide)
    have d8 : a'.tmps.getD 19 undef = .bool false := hd 8 (by decide)
    have d9 : a'.tmps.getD 20 undef = .bool false := hd 9 (by decide)
    have d10 : a'.tmps.getD 21 undef = .bool false := hd 10 (by decide)
    have d11 : a'.tmps.getD 22 undef = undef := hd 11 (by decide)
    have d12 : a'.tmps.getD 23 undef = undef := hd 12 (by decide)
    have d13 : a'.tmps.getD 24 undef = undef := hd 13 (by decide)
    have d14 : a'.tmps.getD 25 undef = undef := hd 14 (by decide)
    have d15 : a'.tmps.getD 26 undef = undef := hd 15 (by decide)
    have d16 : a'.tmps.getD 27 undef = undef := hd 16 (by decide)
    have d17 : a'.tmps.getD 28 undef = undef := hd 17 (by decide)
    have d18 : a'.tmps.getD 29 undef = undef := hd 18 (by decide)
    have d19 : a'.tmps.getD 30 undef = undef := hd 19 (by decide)
    have d20 : a'.tmps.getD 31 undef = undef := hd 20 (by decide)
    have d21 : a'.tmps.getD 32 undef = undef := hd 21 (by decide)
    have d22 : a'.tmps.getD 33 undef = undef := hd 22 (by decide)
    have d23 : a'.tmps.getD 34 undef = undef := hd 23 (by decide)
    have d24 : a'.tmps.getD 35 undef = undef := hd 24 (by decide)
    have d25 : a'.tmps.getD 36 undef = undef := hd 25 (by decide)
    have d26 : a'.tmps.getD 37 undef = .bool false := hd 26 (by decide)
    have d27 : a'.tmps.getD 4 undef = .bool false := hd 27 (by decide)
    exact HQ.out _ _ ⟨hsa.size.trans rfl, hsa.defers, (hsa.rest 0 (by rfl)).trans rfl, (hsa.rest 3 (by rfl)).trans rfl, d27⟩ hb
set_option maxHeartbeats 8000000 in
set_option maxRecDepth 100000 in
theorem pi_r3c {K : Act → World → Prop} {c : Code} (hc : regOf (Try.f15.body.getD .skip) 3 = some c) (a : Act) {v : Vpi} {wq : World} {b d cc n : Nat} {m p : MB} {q t : Int} (hF : Fpi a v) (h0v : v.v0 = .pointer (some ⟨b, 0, none⟩)) (h3v : v.v3 = .pointer (some ⟨d, 0, none⟩)) (hdl : d < wq.heap.size) (c0 : wq.cell? ⟨d, 0, none⟩ = some (.int .i64 m.node)) (c1 : wq.cell? ⟨d, 1, none⟩ = some (.int .i64 m.life)) (hE : ∀ w', Below wq.heap.size wq w' → Calls Try.prog 18 #[.agg #[.int .i64 m.node, .int .i64 m.life]] w' fun e w'' => e = .returned (.bool true) ∧ Below w'.heap.size w' w'') (hL : ∀ w', Below wq.heap.size wq w' → Calls Try.prog 21 #[.pointer (some ⟨b, 0, none⟩), .int .i64 (n : Int)] w' fun e w'' => e = .returned (.agg #[.int .i64 p.node, .int .i64 p.life]) ∧ Below w'.heap.size w' w'') (hnm : m.node = (n : Int)) (hn7 : n < 7) (hbl : b < wq.heap.size) (z16 : wq.cell? ⟨b, 16, none⟩ = some (.func (.func 22) #[] #[.pointer (some ⟨cc, 0, none⟩)])) (hC : ∀ w', Below wq.heap.size wq w' → Calls Try.prog 22 #[.int .i64 0, .pointer (some ⟨cc, 0, none⟩)] w' fun e w'' => e = .returned (.int .i64 q) ∧ Below w'.heap.size w' w'') (t2 : wq.cell? ⟨b, 2 + n * 2 + 1, none⟩ = some (.int .i64 t)) (hw : IntKind.i64.wrap (q - t) = q - t) (hg : (m.node == p.node && m.life == p.life) = true)
    (hQ : ∀ a' w', Fpi a' { v with v4 := .bool (decide (q - t < 5)) } → Below wq.heap.size wq w' → K a' w') :
    Code.wp Try.prog c (Exit.then K fun _ _ _ => False) a wq := by
  have HQ := hide hQ
  clear hQ
  obtain ⟨t', d'⟩ := a
  obtain ⟨v0, v3, v4⟩ := v
  simp only at h0v h3v HQ
  subst h0v h3v
  obtain ⟨hs1, hd1, q0, q3, q4⟩ := hF
  obtain ⟨u, hu⟩ := frame_pi t' hs1
  simp only at hd1 q0 q3 q4
  subst hu hd1
  have e0 : u 0 = .pointer (some ⟨b, 0, none⟩) := q0
  have e3 : u 3 = .pointer (some ⟨d, 0, none⟩) := q3
  have e4 : u 4 = v4 := q4
  rw [e0, e3, e4]
  clear q0 e0 q3 e3 q4 e4 hs1
  simp only [Try.f15, Option.getD_some, regOf] at hc
  injection hc with hc
  subst hc
  generalize u 1 = u1
  generalize u 2 = u2
  generalize u 5 = u5
  generalize u 6 = u6
  generalize u 7 = u7
  generalize u 8 = u8
  generalize u 9 = u9
  generalize u 10 = u10
  generalize u 11 = u11
  generalize u 12 = u12
  generalize u 13 = u13
  generalize u 14 = u14
  generalize u 15 = u15
  generalize u 16 = u16
  generalize u 17 = u17
  generalize u 18 = u18
  generalize u 19 = u19
  generalize u 20 = u20
  generalize u 21 = u21
  generalize u 22 = u22
  generalize u 23 = u23
  generalize u 24 = u24
  generalize u 25 = u25
  generalize u 26 = u26
  generalize u 27 = u27
  generalize u 28 = u28
  generalize u 29 = u29
  generalize u 30 = u30
  generalize u 31 = u31
  generalize u 32 = u32
  generalize u 33 = u33
  generalize u 34 = u34
  generalize u 35 = u35
  generalize u 36 = u36
  generalize u 37 = u37
  clear u
  have hi0 : (0 : Int) ≤ (n : Int) := by omega
  have hi1 : (n : Int) < 7 := by omega
  refine wp_region_phi (by kernel_rfl) (ns := 38) (uses := (fun i => match i with | 0 => [11] | 1 => [12] | 2 => [13] | 3 => [14] | 4 => [15] | 5 => [16] | 6 => [17] | 7 => [18] | 8 => [19] | 9 => [20] | 10 => [21] | 11 => [22] | 12 => [23] | 13 => [24] | 14 => [25] | 15 => [26] | 16 => [27] | 17 => [28] | 18 => [29] | 19 => [30] | 20 => [31] | 21 => [32] | 22 => [33] | 23 => [34] | 24 => [35] | 25 => [36] | 26 => [37] | 27 => [4] | _ => [])) (by kernel_rfl) (by kernel_rfl) (fun _ w w' => Below w.heap.size w w') (fun w => Below wq.heap.size wq w) (fun _ _ _ h r => h.trans (r.mono h.size)) ((Below.refl _ _).drew) (fun i => match i with | 0 => fun s w => s 11 = .agg #[.int .i64 m.node, .int .i64 m.life] | 1 => fun s w => s 12 = .bool true | 2 => fun s w => s 13 = .bool true | 3 => fun s w => s 14 = .agg #[.int .i64 m.node, .int .i64 m.life] | 4 => fun s w => s 15 = .pointer (some ⟨b, 0, none⟩) | 5 => fun s w => s 16 = .pointer (some ⟨d, 0, none⟩) | 6 => fun s w => s 17 = .int .i64 (n : Int) | 7 => fun s w => s 18 = .agg #[.int .i64 p.node, .int .i64 p.life] | 8 => fun s w => s 19 = .bool true | 9 => fun s w => s 20 = .bool true | 10 => fun s w => s 21 = .bool true | 11 => fun s w => s 22 = .pointer (some ⟨b, 0, none⟩) | 12 => fun s w => s 23 = .pointer (some ⟨b, 0, none⟩) | 13 => fun s w => s 24 = .pointer (some ⟨b, 16, none⟩) | 14 => fun s w => s 25 = .func (.func 22) #[] #[.pointer (some ⟨cc, 0, none⟩)] | 15 => fun s w => s 26 = .int .i64 q | 16 => fun s w => s 27 = .pointer (some ⟨b, 0, none⟩) | 17 => fun s w => s 28 = .pointer (some ⟨d, 0, none⟩) | 18 => fun s w => s 29 = .int .i64 (n : Int) | 19 => fun s w => s 30 = .pointer (some ⟨b, 0, none⟩) | 20 => fun s w => s 31 = .pointer (some ⟨b, 2, none⟩) | 21 => fun s w => s 32 = .pointer (some ⟨b, 2 + n * 2, none⟩) | 22 => fun s w => s 33 = .pointer (some ⟨b, 2 + n * 2 + 1, none⟩) | 23 => fun s w => s 34 = .int .i64 t | 24 => fun s w => s 35 = .int .i64 (q - t) | 25 => fun s w => s 36 = .bool (decide (q - t < 5)) | 26 => fun s w => s 37 = .bool (decide (q - t < 5)) | 27 => fun s w => s 4 = .bool (decide (q - t < 5)) | _ => fun _ _ => True) ?phc ?phh ?pstep ?pdone
  case phc =>
    intro i s s' w hx h
    match i, hx, h with
    | 0, hx, h =>
      have e11 := hx 11 (by simp)
      first | exact (show _ from by simp only [← e11] at *; exact h) | (simp only [e11] at h; exact h)
    | 1, hx, h =>
      have e12 := hx 12 (by simp)
      first | exact (show _ from by simp only [← e12] at *; exact h) | (simp only [e12] at h; exact h)
    | 2, hx, h =>
      have e13 := hx 13 (by simp)
      first | exact (show _ from by simp only [← e13] at *; exact h) | (simp only [e13] at h; exact h)
    | 3, hx, h =>
      have e14 := hx 14 (by simp)
      first | exact (show _ from by simp only [← e14] at *; exact h) | (simp only [e14] at h; exact h)
    | 4, hx, h =>
      have e15 := hx 15 (by simp)
      first | exact (show _ from by simp only [← e15] at *; exact h) | (simp only [e15] at h; exact h)
    | 5, hx, h =>
      have e16 := hx 16 (by simp)
      first | exact (show _ from by simp only [← e16] at *; exact h) | (simp only [e16] at h; exact h)
    | 6, hx, h =>
      have e17 := hx 17 (by simp)
      first | exact (show _ from by simp only [← e17] at *; exact h) | (simp only [e17] at h; exact h)
    | 7, hx, h =>
      have e18 := hx 18 (by simp)
      first | exact (show _ from by simp only [← e18] at *; exact h) | (simp only [e18] at h; exact h)
    | 8, hx, h =>
      have e19 := hx 19 (by simp)
      first | exact (show _ from by simp only [← e19] at *; exact h) | (simp only [e19] at h; exact h)
    | 9, hx, h =>
      have e20 := hx 20 (by simp)
      first | exact (show _ from by simp only [← e20] at *; exact h) | (simp only [e20] at h; exact h)
    | 10, hx, h =>
      have e21 := hx 21 (by simp)
      first | exact (show _ from by simp only [← e21] at *; exact h) | (simp only [e21] at h; exact h)
    | 11, hx, h =>
      have e22 := hx 22 (by simp)
      first | exact (show _ from by simp only [← e22] at *; exact h) | (simp only [e22] at h; exact h)
    | 12, hx, h =>
      have e23 := hx 23 (by simp)
      first | exact (show _ from by simp only [← e23] at *; exact h) | (simp only [e23] at h; exact h)
    | 13, hx, h =>
      have e24 := hx 24 (by simp)
      first | exact (show _ from by simp only [← e24] at *; exact h) | (simp only [e24] at h; exact h)
    | 14, hx, h =>
      have e25 := hx 25 (by simp)
      first | exact (show _ from by simp only [← e25] at *; exact h) | (simp only [e25] at h; exact h)
    | 15, hx, h =>
      have e26 := hx 26 (by simp)
      first | exact (show _ from by simp only [← e26] at *; exact h) | (simp only [e26] at h; exact h)
    | 16, hx, h =>
      have e27 := hx 27 (by simp)
      first | exact (show _ from by simp only [← e27] at *; exact h) | (simp only [e27] at h; exact h)
    | 17, hx, h =>
      have e28 := hx 28 (by simp)
      first | exact (show _ from by simp only [← e28] at *; exact h) | (simp only [e28] at h; exact h)
    | 18, hx, h =>
      have e29 := hx 29 (by simp)
      first | exact (show _ from by simp only [← e29] at *; exact h) | (simp only [e29] at h; exact h)
    | 19, hx, h =>
      have e30 := hx 30 (by simp)
      first | exact (show _ from by simp only [← e30] at *; exact h) | (simp only [e30] at h; exact h)
    | 20, hx, h =>
      have e31 := hx 31 (by simp)
      first | exact (show _ from by simp only [← e31] at *; exact h) | (simp only [e31] at h; exact h)
    | 21, hx, h =>
      have e32 := hx 32 (by simp)
      first | exact (show _ from by simp only [← e32] at *; exact h) | (simp only [e32] at h; exact h)
    | 22, hx, h =>
      have e33 := hx 33 (by simp)
      first | exact (show _ from by simp only [← e33] at *; exact h) | (simp only [e33] at h; exact h)
    | 23, hx, h =>
      have e34 := hx 34 (by simp)
      first | exact (show _ from by simp only [← e34] at *; exact h) | (simp only [e34] at h; exact h)
    | 24, hx, h =>
      have e35 := hx 35 (by simp)
      first | exact (show _ from by simp only [← e35] at *; exact h) | (simp only [e35] at h; exact h)
    | 25, hx, h =>
      have e36 := hx 36 (by simp)
      first | exact (show _ from by simp only [← e36] at *; exact h) | (simp only [e36] at h; exact h)
    | 26, hx, h =>
      have e37 := hx 37 (by simp)
      first | exact (show _ from by simp only [← e37] at *; exact h) | (simp only [e37] at h; exact h)
    | 27, hx, h =>
      have e4 := hx 4 (by simp)
      first | exact (show _ from by simp only [← e4] at *; exact h) | (simp only [e4] at h; exact h)
    | (n + 28), _, h => exact h
  case phh =>
    intro i j s w w' hij h hb r
    match i, hij, h with
    | 0, hij, h =>
      exact h
    | 1, hij, h =>
      exact h
    | 2, hij, h =>
      exact h
    | 3, hij, h =>
      exact h
    | 4, hij, h =>
      exact h
    | 5, hij, h =>
      exact h
    | 6, hij, h =>
      exact h
    | 7, hij, h =>
      exact h
    | 8, hij, h =>
      exact h
    | 9, hij, h =>
      exact h
    | 10, hij, h =>
      exact h
    | 11, hij, h =>
      exact h
    | 12, hij, h =>
      exact h
    | 13, hij, h =>
      exact h
    | 14, hij, h =>
      exact h
    | 15, hij, h =>
      exact h
    | 16, hij, h =>
      exact h
    | 17, hij, h =>
      exact h
    | 18, hij, h =>
      exact h
    | 19, hij, h =>
      exact h
    | 20, hij, h =>
      exact h
    | 21, hij, h =>
      exact h
    | 22, hij, h =>
      exact h
    | 23, hij, h =>
      exact h
    | 24, hij, h =>
      exact h
    | 25, hij, h =>
      exact h
    | 26, hij, h =>
      exact h
    | 27, hij, h =>
      exact h
    | (n + 28), _, h => exact h
  case pstep =>
    intro i o ho a' w' hsa hb hd
    match i, ho with
    | 0, ho =>
      obtain rfl := Option.some.inj ho
      try dsimp only at hd
      have g3 : a'.tmps.getD 3 undef = .pointer (some ⟨d, 0, none⟩) := hsa.rest 3 (by rfl)
      have c0x := (hb.cell (p := ⟨d, _, none⟩) hdl).trans c0
      have c1x := (hb.cell (p := ⟨d, _, none⟩) hdl).trans c1
      refine wpOp_of rfl rfl ?_
      refine op_run (v := .agg #[.int .i64 m.node, .int .i64 m.life]) (w' := w') ?_ ⟨_, rfl, ?_, ?_⟩
      · simp only [execOp, Act.eval, List.map_toArray, List.map_cons, List.map_nil, g3, c0x, c1x]; first | (go_simp; done) | rfl
      · try dsimp only
        exact (slots_put (ns := 38) (hsa.size.trans rfl) (by decide))
      · exact Below.refl _ _
    | 1, ho =>
      obtain rfl := Option.some.inj ho
      try dsimp only at hd
      have d0 : a'.tmps.getD 11 undef = .agg #[.int .i64 m.node, .int .i64 m.life] := hd 0 (by rfl)
      refine wpOp_of rfl rfl ?_
      refine op_call 18 _ _ rfl (enters_of Try.func18 (by kernel_rfl) rfl) [.agg #[.int .i64 m.node, .int .i64 m.life]] (by simp only [List.map, Act.eval, d0]) (hE w' hb) ?_
      rintro e w'' ⟨rfl, b2⟩
      refine ⟨_, rfl, _, rfl, ?_, ?_⟩
      · try dsimp only
        exact (slots_put (ns := 38) (hsa.size.trans rfl) (by decide))
      · exact b2
    | 2, ho =>
      obtain rfl := Option.some.inj ho
      try dsimp only at hd
      have d1 : a'.tmps.getD 12 undef = .bool true := hd 1 (by rfl)
      refine wpOp_of rfl rfl ?_
      refine op_run (v := .bool true) (w' := w') ?_ ⟨_, rfl, ?_, ?_⟩
      · simp only [execOp, Act.eval, List.map_toArray, List.map_cons, List.map_nil, d1]; first | (go_simp; done) | rfl
      · try dsimp only
        exact (slots_put (ns := 38) (hsa.size.trans rfl) (by decide))
      · exact Below.refl _ _
    | 3, ho =>
      obtain rfl := Option.some.inj ho
      try dsimp only at hd
      have d2 : a'.tmps.getD 13 undef = .bool true := hd 2 (by rfl)
      have g3 : a'.tmps.getD 3 undef = .pointer (some ⟨d, 0, none⟩) := hsa.rest 3 (by rfl)
      have c0x := (hb.cell (p := ⟨d, _, none⟩) hdl).trans c0
      have c1x := (hb.cell (p := ⟨d, _, none⟩) hdl).trans c1
      refine wpOp_on (j := 2) (dj := 13) rfl rfl rfl d2 ?_
      refine op_run (v := .agg #[.int .i64 m.node, .int .i64 m.life]) (w' := w') ?_ ⟨_, rfl, ?_, ?_⟩
      · simp only [execOp, Act.eval, List.map_toArray, List.map_cons, List.map_nil, d2, g3, c0x, c1x]; first | (go_simp; done) | rfl
      · try dsimp only
        exact (slots_put (ns := 38) (hsa.size.trans rfl) (by decide))
      · exact Below.refl _ _
    | 4, ho =>
      obtain rfl := Option.some.inj ho
      try dsimp only at hd
      have d2 : a'.tmps.getD 13 undef = .bool true := hd 2 (by rfl)
      have g0 : a'.tmps.getD 0 undef = .pointer (some ⟨b, 0, none⟩) := hsa.rest 0 (by rfl)
      refine wpOp_on (j := 2) (dj := 13) rfl rfl rfl d2 ?_
      refine op_run (v := .pointer (some ⟨b, 0, none⟩)) (w' := w') ?_ ⟨_, rfl, ?_, ?_⟩
      · simp only [execOp, Act.eval, List.map_toArray, List.map_cons, List.map_nil, d2, g0]; first | (go_simp; done) | rfl
      · try dsimp only
        exact (slots_put (ns := 38) (hsa.size.trans rfl) (by decide))
      · exact Below.refl _ _
    | 5, ho =>
      obtain rfl := Option.some.inj ho
      try dsimp only at hd
      have d2 : a'.tmps.getD 13 undef = .bool true := hd 2 (by rfl)
      have g3 : a'.tmps.getD 3 undef = .pointer (some ⟨d, 0, none⟩) := hsa.rest 3 (by rfl)
      refine wpOp_on (j := 2) (dj := 13) rfl rfl rfl d2 ?_
      refine op_run (v := .pointer (some ⟨d, 0, none⟩)) (w' := w') ?_ ⟨_, rfl, ?_, ?_⟩
      · simp only [execOp, Act.eval, List.map_toArray, List.map_cons, List.map_nil, d2, g3]; first | (go_simp; done) | rfl
      · try dsimp only
        exact (slots_put (ns := 38) (hsa.size.trans rfl) (by decide))
      · exact Below.refl _ _
    | 6, ho =>
      obtain rfl := Option.some.inj ho
      try dsimp only at hd
      have d2 : a'.tmps.getD 13 undef = .bool true := hd 2 (by rfl)
      have d5 : a'.tmps.getD 16 undef = .pointer (some ⟨d, 0, none⟩) := hd 5 (by rfl)
      have c0x := (hb.cell (p := ⟨d, _, none⟩) hdl).trans c0
      rw [hnm] at c0x
      refine wpOp_on (j := 2) (dj := 13) rfl rfl rfl d2 ?_
      refine op_run (v := .int .i64 (n : Int)) (w' := w') ?_ ⟨_, rfl, ?_, ?_⟩
      · simp only [execOp, Act.eval, List.map_toArray, List.map_cons, List.map_nil, d2, d5, c0x]; first | (go_simp; done) | rfl
      · try dsimp only
        exact (slots_put (ns := 38) (hsa.size.trans rfl) (by decide))
      · exact Below.refl _ _
    | 7, ho =>
      obtain rfl := Option.some.inj ho
      try dsimp only at hd
      have d2 : a'.tmps.getD 13 undef = .bool true := hd 2 (by rfl)
      have d4 : a'.tmps.getD 15 undef = .pointer (some ⟨b, 0, none⟩) := hd 4 (by rfl)
      have d6 : a'.tmps.getD 17 undef = .int .i64 (n : Int) := hd 6 (by rfl)
      refine wpOp_on (j := 2) (dj := 13) rfl rfl rfl d2 ?_
      refine op_call 21 _ _ rfl (enters_of Try.func21 (by kernel_rfl) rfl) [.pointer (some ⟨b, 0, none⟩), .int .i64 (n : Int)] (by simp only [List.map, Act.eval, d2, d4, d6]) (hL w' hb) ?_
      rintro e w'' ⟨rfl, b2⟩
      refine ⟨_, rfl, _, rfl, ?_, ?_⟩
      · try dsimp only
        exact (slots_put (ns := 38) (hsa.size.trans rfl) (by decide))
      · exact b2
    | 8, ho =>
      obtain rfl := Option.some.inj ho
      try dsimp only at hd
      have d2 : a'.tmps.getD 13 undef = .bool true := hd 2 (by rfl)
      have d3 : a'.tmps.getD 14 undef = .agg #[.int .i64 m.node, .int .i64 m.life] := hd 3 (by rfl)
      have d7 : a'.tmps.getD 18 undef = .agg #[.int .i64 p.node, .int .i64 p.life] := hd 7 (by rfl)
      refine wpOp_on (j := 2) (dj := 13) rfl rfl rfl d2 ?_
      refine op_run (v := .bool true) (w' := w') ?_ ⟨_, rfl, ?_, ?_⟩
      · exact (ex_mem _ m.node p.node m.life p.life _ _ _ (by simp only [Act.eval, d3]) (by simp only [Act.eval, d7]) _ rfl).trans (by rw [hg])
      · try dsimp only
        exact (slots_put (ns := 38) (hsa.size.trans rfl) (by decide))
      · exact Below.refl _ _
    | 9, ho =>
      obtain rfl := Option.some.inj ho
      try dsimp only at hd
      have d2 : a'.tmps.getD 13 undef = .bool true := hd 2 (by rfl)
      have d8 : a'.tmps.getD 19 undef = .bool true := hd 8 (by rfl)
      refine wpOp_of rfl rfl ?_
      refine op_run (v := .bool true) (w' := w') ?_ ⟨_, rfl, ?_, ?_⟩
      · simp only [execOp, Act.eval, List.map_toArray, List.map_cons, List.map_nil, d2, d8]; first | (go_simp; done) | rfl
      · try dsimp only
        exact (slots_put (ns := 38) (hsa.size.trans rfl) (by decide))
      · exact Below.refl _ _
    | 10, ho =>
      obtain rfl := Option.some.inj ho
      try dsimp only at hd
      have d9 : a'.tmps.getD 20 undef = .bool true := hd 9 (by rfl)
      refine wpOp_of rfl rfl ?_
      refine op_run (v := .bool true) (w' := w') ?_ ⟨_, rfl, ?_, ?_⟩
      · simp only [execOp, Act.eval, List.map_toArray, List.map_cons, List.map_nil, d9]; first | (go_simp; done) | rfl
      · try dsimp only
        exact (slots_put (ns := 38) (hsa.size.trans rfl) (by decide))
      · exact Below.refl _ _
    | 11, ho =>
      obtain rfl := Option.some.inj ho
      try dsimp only at hd
      have d10 : a'.tmps.getD 21 undef = .bool true := hd 10 (by rfl)
      have g0 : a'.tmps.getD 0 undef = .pointer (some ⟨b, 0, none⟩) := hsa.rest 0 (by rfl)
      refine wpOp_on (j := 10) (dj := 21) rfl rfl rfl d10 ?_
      refine op_run (v := .pointer (some ⟨b, 0, none⟩)) (w' := w') ?_ ⟨_, rfl, ?_, ?_⟩
      · simp only [execOp, Act.eval, List.map_toArray, List.map_cons, List.map_nil, d10, g0]; first | (go_simp; done) | rfl
      · try dsimp only
        exact (slots_put (ns := 38) (hsa.size.trans rfl) (by decide))
      · exact Below.refl _ _
    | 12, ho =>
      obtain rfl := Option.some.inj ho
      try dsimp only at hd
      have d10 : a'.tmps.getD 21 undef = .bool true := hd 10 (by rfl)
      have d11 : a'.tmps.getD 22 undef = .pointer (some ⟨b, 0, none⟩) := hd 11 (by rfl)
      refine wpOp_on (j := 10) (dj := 21) rfl rfl rfl d10 ?_
      refine op_run (v := .pointer (some ⟨b, 0, none⟩)) (w' := w') ?_ ⟨_, rfl, ?_, ?_⟩
      · simp only [execOp, Act.eval, List.map_toArray, List.map_cons, List.map_nil, d10, d11]; first | (go_simp; done) | rfl
      · try dsimp only
        exact (slots_put (ns := 38) (hsa.size.trans rfl) (by decide))
      · exact Below.refl _ _
    | 13, ho =>
      obtain rfl := Option.some.inj ho
      try dsimp only at hd
      have d10 : a'.tmps.getD 21 undef = .bool true := hd 10 (by rfl)
      have d12 : a'.tmps.getD 23 undef = .pointer (some ⟨b, 0, none⟩) := hd 12 (by rfl)
      refine wpOp_on (j := 10) (dj := 21) rfl rfl rfl d10 ?_
      refine op_run (v := .pointer (some ⟨b, 16, none⟩)) (w' := w') ?_ ⟨_, rfl, ?_, ?_⟩
      · simp only [execOp, Act.eval, List.map_toArray, List.map_cons, List.map_nil, d10, d12]; first | (go_simp; done) | rfl
      · try dsimp only
        exact (slots_put (ns := 38) (hsa.size.trans rfl) (by decide))
      · exact Below.refl _ _
    | 14, ho =>
      obtain rfl := Option.some.inj ho
      try dsimp only at hd
      have d10 : a'.tmps.getD 21 undef = .bool true := hd 10 (by rfl)
      have d13 : a'.tmps.getD 24 undef = .pointer (some ⟨b, 16, none⟩) := hd 13 (by rfl)
      have z16x := (hb.cell (p := ⟨b, _, none⟩) hbl).trans z16
      refine wpOp_on (j := 10) (dj := 21) rfl rfl rfl d10 ?_
      refine op_run (v := .func (.func 22) #[] #[.pointer (some ⟨cc, 0, none⟩)]) (w' := w') ?_ ⟨_, rfl, ?_, ?_⟩
      · simp only [execOp, Act.eval, List.map_toArray, List.map_cons, List.map_nil, d10, d13, z16x]; first | (go_simp; done) | rfl
      · try dsimp only
        exact (slots_put (ns := 38) (hsa.size.trans rfl) (by decide))
      · exact Below.refl _ _
    | 15, ho =>
      obtain rfl := Option.some.inj ho
      try dsimp only at hd
      have d10 : a'.tmps.getD 21 undef = .bool true := hd 10 (by rfl)
      have d14 : a'.tmps.getD 25 undef = .func (.func 22) #[] #[.pointer (some ⟨cc, 0, none⟩)] := hd 14 (by rfl)
      refine wpOp_on (j := 10) (dj := 21) rfl rfl rfl d10 ?_
      refine op_callv (.tmp 25) _ _ rfl 22 [.pointer (some ⟨cc, 0, none⟩)] (by simp only [Act.eval, d10, d14] <;> rfl) (enters_of Try.func22 (by kernel_rfl) rfl) [.int .i64 0] (by simp only [List.map, Act.eval, d10, d14]) (hC w' hb) ?_
      rintro e w'' ⟨rfl, b2⟩
      refine ⟨_, rfl, _, rfl, ?_, ?_⟩
      · try dsimp only
        exact (slots_put (ns := 38) (hsa.size.trans rfl) (by decide))
      · exact b2
    | 16, ho =>
      obtain rfl := Option.some.inj ho
      try dsimp only at hd
      have d10 : a'.tmps.getD 21 undef = .bool true := hd 10 (by rfl)
      have g0 : a'.tmps.getD 0 undef = .pointer (some ⟨b, 0, none⟩) := hsa.rest 0 (by rfl)
      refine wpOp_on (j := 10) (dj := 21) rfl rfl rfl d10 ?_
      refine op_run (v := .pointer (some ⟨b, 0, none⟩)) (w' := w') ?_ ⟨_, rfl, ?_, ?_⟩
      · simp only [execOp, Act.eval, List.map_toArray, List.map_cons, List.map_nil, d10, g0]; first | (go_simp; done) | rfl
      · try dsimp only
        exact (slots_put (ns := 38) (hsa.size.trans rfl) (by decide))
      · exact Below.refl _ _
    | 17, ho =>
      obtain rfl := Option.some.inj ho
      try dsimp only at hd
      have d10 : a'.tmps.getD 21 undef = .bool true := hd 10 (by rfl)
      have g3 : a'.tmps.getD 3 undef = .pointer (some ⟨d, 0, none⟩) := hsa.rest 3 (by rfl)
      refine wpOp_on (j := 10) (dj := 21) rfl rfl rfl d10 ?_
      refine op_run (v := .pointer (some ⟨d, 0, none⟩)) (w' := w') ?_ ⟨_, rfl, ?_, ?_⟩
      · simp only [execOp, Act.eval, List.map_toArray, List.map_cons, List.map_nil, d10, g3]; first | (go_simp; done) | rfl
      · try dsimp only
        exact (slots_put (ns := 38) (hsa.size.trans rfl) (by decide))
      · exact Below.refl _ _
    | 18, ho =>
      obtain rfl := Option.some.inj ho
      try dsimp only at hd
      have d10 : a'.tmps.getD 21 undef = .bool true := hd 10 (by rfl)
      have d17 : a'.tmps.getD 28 undef = .pointer (some ⟨d, 0, none⟩) := hd 17 (by rfl)
      have c0x := (hb.cell (p := ⟨d, _, none⟩) hdl).trans c0
      rw [hnm] at c0x
      refine wpOp_on (j := 10) (dj := 21) rfl rfl rfl d10 ?_
      refine op_run (v := .int .i64 (n : Int)) (w' := w') ?_ ⟨_, rfl, ?_, ?_⟩
      · simp only [execOp, Act.eval, List.map_toArray, List.map_cons, List.map_nil, d10, d17, c0x]; first | (go_simp; done) | rfl
      · try dsimp only
        exact (slots_put (ns := 38) (hsa.size.trans rfl) (by decide))
      · exact Below.refl _ _
    | 19, ho =>
      obtain rfl := Option.some.inj ho
      try dsimp only at hd
      have d10 : a'.tmps.getD 21 undef = .bool true := hd 10 (by rfl)
      have d16 : a'.tmps.getD 27 undef = .pointer (some ⟨b, 0, none⟩) := hd 16 (by rfl)
      refine wpOp_on (j := 10) (dj := 21) rfl rfl rfl d10 ?_
      refine op_run (v := .pointer (some ⟨b, 0, none⟩)) (w' := w') ?_ ⟨_, rfl, ?_, ?_⟩
      · simp only [execOp, Act.eval, List.map_toArray, List.map_cons, List.map_nil, d10, d16]; first | (go_simp; done) | rfl
      · try dsimp only
        exact (slots_put (ns := 38) (hsa.size.trans rfl) (by decide))
      · exact Below.refl _ _
    | 20, ho =>
      obtain rfl := Option.some.inj ho
      try dsimp only at hd
      have d10 : a'.tmps.getD 21 undef = .bool true := hd 10 (by rfl)
      have d19 : a'.tmps.getD 30 undef = .pointer (some ⟨b, 0, none⟩) := hd 19 (by rfl)
      refine wpOp_on (j := 10) (dj := 21) rfl rfl rfl d10 ?_
      refine op_run (v := .pointer (some ⟨b, 2, none⟩)) (w' := w') ?_ ⟨_, rfl, ?_, ?_⟩
      · simp only [execOp, Act.eval, List.map_toArray, List.map_cons, List.map_nil, d10, d19]; first | (go_simp; done) | rfl
      · try dsimp only
        exact (slots_put (ns := 38) (hsa.size.trans rfl) (by decide))
      · exact Below.refl _ _
    | 21, ho =>
      obtain rfl := Option.some.inj ho
      try dsimp only at hd
      have d10 : a'.tmps.getD 21 undef = .bool true := hd 10 (by rfl)
      have d18 : a'.tmps.getD 29 undef = .int .i64 (n : Int) := hd 18 (by rfl)
      have d20 : a'.tmps.getD 31 undef = .pointer (some ⟨b, 2, none⟩) := hd 20 (by rfl)
      refine wpOp_on (j := 10) (dj := 21) rfl rfl rfl d10 ?_
      refine op_run (v := .pointer (some ⟨b, 2 + n * 2, none⟩)) (w' := w') ?_ ⟨_, rfl, ?_, ?_⟩
      · simp only [execOp, Act.eval, List.map_toArray, List.map_cons, List.map_nil, d10, d18, d20, hi0, hi1]; first | (go_simp; done) | rfl
      · try dsimp only
        exact (slots_put (ns := 38) (hsa.size.trans rfl) (by decide))
      · exact Below.refl _ _
    | 22, ho =>
      obtain rfl := Option.some.inj ho
      try dsimp only at hd
      have d10 : a'.tmps.getD 21 undef = .bool true := hd 10 (by rfl)
      have d21 : a'.tmps.getD 32 undef = .pointer (some ⟨b, 2 + n * 2, none⟩) := hd 21 (by rfl)
      refine wpOp_on (j := 10) (dj := 21) rfl rfl rfl d10 ?_
      refine op_run (v := .pointer (some ⟨b, 2 + n * 2 + 1, none⟩)) (w' := w') ?_ ⟨_, rfl, ?_, ?_⟩
      · simp only [execOp, Act.eval, List.map_toArray, List.map_cons, List.map_nil, d10, d21]; first | (go_simp; done) | rfl
      · try dsimp only
        exact (slots_put (ns := 38) (hsa.size.trans rfl) (by decide))
      · exact Below.refl _ _
    | 23, ho =>
      obtain rfl := Option.some.inj ho
      try dsimp only at hd
      have d10 : a'.tmps.getD 21 undef = .bool true := hd 10 (by rfl)
      have d22 : a'.tmps.getD 33 undef = .pointer (some ⟨b, 2 + n * 2 + 1, none⟩) := hd 22 (by rfl)
      have t2x := (hb.cell (p := ⟨b, _, none⟩) hbl).trans t2
      refine wpOp_on (j := 10) (dj := 21) rfl rfl rfl d10 ?_
      refine op_run (v := .int .i64 t) (w' := w') ?_ ⟨_, rfl, ?_, ?_⟩
      · simp only [execOp, Act.eval, List.map_toArray, List.map_cons, List.map_nil, d10, d22, t2x]; first | (go_simp; done) | rfl
      · try dsimp only
        exact (slots_put (ns := 38) (hsa.size.trans rfl) (by decide))
      · exact Below.refl _ _
    | 24, ho =>
      obtain rfl := Option.some.inj ho
      try dsimp only at hd
      have d10 : a'.tmps.getD 21 undef = .bool true := hd 10 (by rfl)
      have d15 : a'.tmps.getD 26 undef = .int .i64 q := hd 15 (by rfl)
      have d23 : a'.tmps.getD 34 undef = .int .i64 t := hd 23 (by rfl)
      refine wpOp_on (j := 10) (dj := 21) rfl rfl rfl d10 ?_
      refine op_run (v := .int .i64 (q - t)) (w' := w') ?_ ⟨_, rfl, ?_, ?_⟩
      · simp only [execOp, Act.eval, List.map_toArray, List.map_cons, List.map_nil, d10, d15, d23, hw]; first | (go_simp; done) | rfl
      · try dsimp only
        exact (slots_put (ns := 38) (hsa.size.trans rfl) (by decide))
      · exact Below.refl _ _
    | 25, ho =>
      obtain rfl := Option.some.inj ho
      try dsimp only at hd
      have d10 : a'.tmps.getD 21 undef = .bool true := hd 10 (by rfl)
      have d24 : a'.tmps.getD 35 undef = .int .i64 (q - t) := hd 24 (by rfl)
      refine wpOp_on (j := 10) (dj := 21) rfl rfl rfl d10 ?_
      refine op_run (v := .bool (decide (q - t < 5))) (w' := w') ?_ ⟨_, rfl, ?_, ?_⟩
      · simp only [execOp, Act.eval, List.map_toArray, List.map_cons, List.map_nil, d10, d24]; first | (go_simp; done) | rfl
      · try dsimp only
        exact (slots_put (ns := 38) (hsa.size.trans rfl) (by decide))
      · exact Below.refl _ _
    | 26, ho =>
      obtain rfl := Option.some.inj ho
      try dsimp only at hd
      have d10 : a'.tmps.getD 21 undef = .bool true := hd 10 (by rfl)
      have d25 : a'.tmps.getD 36 undef = .bool (decide (q - t < 5)) := hd 25 (by rfl)
      refine wpOp_of rfl rfl ?_
      refine op_run (v := .bool (decide (q - t < 5))) (w' := w') ?_ ⟨_, rfl, ?_, ?_⟩
      · simp only [execOp, Act.eval, List.map_toArray, List.map_cons, List.map_nil, d10, d25]; first | (go_simp; done) | rfl
      · try dsimp only
        exact (slots_put (ns := 38) (hsa.size.trans rfl) (by decide))
      · exact Below.refl _ _
    | 27, ho =>
      obtain rfl := Option.some.inj ho
      try dsimp only at hd
      have d26 : a'.tmps.getD 37 undef = .bool (decide (q - t < 5)) := hd 26 (by rfl)
      refine wpOp_of rfl rfl ?_
      refine op_run (v := .bool (decide (q - t < 5))) (w' := w') ?_ ⟨_, rfl, ?_, ?_⟩
      · simp only [execOp, Act.eval, List.map_toArray, List.map_cons, List.map_nil, d26]; first | (go_simp; done) | rfl
      · try dsimp only
        exact (slots_put (ns := 38) (hsa.size.trans rfl) (by decide))
      · exact Below.refl _ _
    | (n + 28), ho => exact absurd ho (by simp)
  case pdone =>
    intro a' w' hsa hb hd
    have d0 : a'.tmps.getD 11 undef = .agg #[.int .i64 m.node, .int .i64 m.life] := hd 0 (by decide)
    have d1 : a'.tmps.getD 12 undef = .bool true := hd 1 (by decide)
    have d2 : a'.tmps.getD 13 undef = .bool true := hd 2 (by decide)
    have d3 : a'.tmps.getD 14 undef = .agg #[.int .i64 m.node, .int .i64 m.life] := hd 3 (by decide)
    have d4 : a'.tmps.getD 15 undef = .pointer (some ⟨b, 0, none⟩) := hd 4 (by decide)
    have d5 : a'.tmps.getD 16 undef = .pointer (some ⟨d, 0, none⟩) := hd 5 (by decide)
    have d6 : a'.tmps.getD 17 undef = .int .i64 (n : Int) := hd 6 (by decide)
    have d7 : a'.tmps.getD 18 undef = .agg #[.int .i64 p.node, .int .i64 p.life] := hd 7 (by decide)
    have d8 : a'.tmps.getD 19 undef = .bool true := hd 8 (by decide)
    have d9 : a'.tmps.getD 20 undef = .bool true := hd 9 (by decide)
    have d10 : a'.tmps.getD 21 undef = .bool true := hd 10 (by decide)
    have d11 : a'.tmps.getD 22 undef = .pointer (some ⟨b, 0, none⟩) := hd 11 (by decide)
    have d12 : a'.tmps.getD 23 undef = .pointer (some ⟨b, 0, none⟩) := hd 12 (by decide)
    have d13 : a'.tmps.getD 24 undef = .pointer (some ⟨b, 16, none⟩) := hd 13 (by decide)
    have d14 : a'.tmps.getD 25 undef = .func (.func 22) #[] #[.pointer (some ⟨cc, 0, none⟩)] := hd 14 (by decide)
    have d15 : a'.tmps.getD 26 undef = .int .i64 q := hd 15 (by decide)
    have d16 : a'.tmps.getD 27 undef = .pointer (some ⟨b, 0, none⟩) := hd 16 (by decide)
    have d17 : a'.tmps.getD 28 undef = .pointer (some ⟨d, 0, none⟩) := hd 17 (by decide)
    have d18 : a'.tmps.getD 29 undef = .int .i64 (n : Int) := hd 18 (by decide)
    have d19 : a'.tmps.getD 30 undef = .pointer (some ⟨b, 0, none⟩) := hd 19 (by decide)
    have d20 : a'.tmps.getD 31 undef = .pointer (some ⟨b, 2, none⟩) := hd 20 (by decide)
    have d21 : a'.tmps.getD 32 undef = .pointer (some ⟨b, 2 + n * 2, none⟩) := hd 21 (by decide)
    have d22 : a'.tmps.getD 33 undef = .pointer (some ⟨b, 2 + n * 2 + 1, none⟩) := hd 22 (by decide)
    have d23 : a'.tmps.getD 34 undef = .int .i64 t := hd 23 (by decide)
    have d24 : a'.tmps.getD 35 undef = .int .i64 (q - t) := hd 24 (by decide)
    have d25 : a'.tmps.getD 36 undef = .bool (decide (q - t < 5)) := hd 25 (by decide)
    have d26 : a'.tmps.getD 37 undef = .bool (decide (q - t < 5)) := hd 26 (by decide)
    have d27 : a'.tmps.getD 4 undef = .bool (decide (q - t < 5)) := hd 27 (by decide)
    exact HQ.out _ _ ⟨hsa.size.trans rfl, hsa.defers, (hsa.rest 0 (by rfl)).trans rfl, (hsa.rest 3 (by rfl)).trans rfl, d27⟩ hb
end Go.Proofs.Ytafjngmdandgmaa
