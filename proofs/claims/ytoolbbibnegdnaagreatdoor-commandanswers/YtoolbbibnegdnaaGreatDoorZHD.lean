/-
  replyOf: its regions (mkch.py)
-/
import Derived.Test.YtoolbbibnegdnaaGreatDoorZCG
import Derived.Test.YtoolbbibnegdnaaGreatDoorZCK
import Derived.Test.YtoolbbibnegdnaaGreatDoorZHA
import Derived.Test.YtoolbbibnegdnaaGreatDoorZLast
namespace Go.Proofs.YtoolbbibnegdnaaGreatDoor
open Go.RowKit

attribute [local go_sem ↓] Go.wp_at_zero Go.wp_at_succ
set_option linter.unusedSimpArgs false
set_option linter.unusedVariables false
abbrev tRp : TypeId := 37
abbrev tRc : TypeId := 46
set_option maxRecDepth 100000 in
theorem frame_rp (t : Array Value) (h : t.size = 34) : ∃ u : Nat → Value, t = List.toArray (u 0 :: u 1 :: u 2 :: u 3 :: u 4 :: u 5 :: u 6 :: u 7 :: u 8 :: u 9 :: u 10 :: u 11 :: u 12 :: u 13 :: u 14 :: u 15 :: u 16 :: u 17 :: u 18 :: u 19 :: u 20 :: u 21 :: u 22 :: u 23 :: u 24 :: u 25 :: u 26 :: u 27 :: u 28 :: u 29 :: u 30 :: u 31 :: u 32 :: u 33 :: []) := by
  refine ⟨fun i => t.getD i undef, ?_⟩
  have e : (List.toArray ((fun i => t.getD i undef) 0 :: (fun i => t.getD i undef) 1 :: (fun i => t.getD i undef) 2 :: (fun i => t.getD i undef) 3 :: (fun i => t.getD i undef) 4 :: (fun i => t.getD i undef) 5 :: (fun i => t.getD i undef) 6 :: (fun i => t.getD i undef) 7 :: (fun i => t.getD i undef) 8 :: (fun i => t.getD i undef) 9 :: (fun i => t.getD i undef) 10 :: (fun i => t.getD i undef) 11 :: (fun i => t.getD i undef) 12 :: (fun i => t.getD i undef) 13 :: (fun i => t.getD i undef) 14 :: (fun i => t.getD i undef) 15 :: (fun i => t.getD i undef) 16 :: (fun i => t.getD i undef) 17 :: (fun i => t.getD i undef) 18 :: (fun i => t.getD i undef) 19 :: (fun i => t.getD i undef) 20 :: (fun i => t.getD i undef) 21 :: (fun i => t.getD i undef) 22 :: (fun i => t.getD i undef) 23 :: (fun i => t.getD i undef) 24 :: (fun i => t.getD i undef) 25 :: (fun i => t.getD i undef) 26 :: (fun i => t.getD i undef) 27 :: (fun i => t.getD i undef) 28 :: (fun i => t.getD i undef) 29 :: (fun i => t.getD i undef) 30 :: (fun i => t.getD i undef) 31 :: (fun i => t.getD i undef) 32 :: (fun i => t.getD i undef) 33 :: []) : Array Value) = ((List.range 34).map fun i => t.getD i undef).toArray := rfl
  refine Eq.trans ?_ e.symm
  apply Array.ext
  · simp [h]
  · intro k h1 h2
    simp [Array.getD, h1]
/-- The slots that matter. -/
structure Vrp where
  v0 : Value
  v2 : Value
  v3 : Value
  v4 : Value
  v19 : Value
structure Frp (a : Act) (v : Vrp) : Prop where
  size : a.tmps.size = 34
  defers : a.defers = []
  s0 : a.tmps.getD 0 undef = v.v0
  s2 : a.tmps.getD 2 undef = v.v2
  s3 : a.tmps.getD 3 undef = v.v3
  s4 : a.tmps.getD 4 undef = v.v4
  s19 : a.tmps.getD 19 undef = v.v19
set_option maxHeartbeats 8000000 in
set_option maxRecDepth 100000 in
theorem rp_r1 {K : Act → World → Prop} {c : Code} (hc : regOf (Tryz.f35.body.getD .skip) 1 = some c) (a : Act) {v : Vrp} {wq : World} {g n cp : Nat} {xb xc : Int} (hF : Frp a v) (h0v : v.v0 = .slice (some ⟨g, 0, none⟩) n cp) (hn : 3 ≤ n) (hg : g < wq.heap.size) (y1 : wq.cell? ⟨g, 4, none⟩ = some (.int .u64 xb)) (y2 : wq.cell? ⟨g, 7, none⟩ = some (.int .u64 xc))
    (hQ : ∀ a' w' b4, Frp a' { v with v4 := .pointer (some ⟨b4, 0, none⟩) } → wq.heap.size ≤ b4 → w'.heap[b4]? = some (.cells #[.int .i64 (IntKind.i64.wrap xb), .int .i64 (backN xc), .slice none 0 0] tRp (0, 0)) → Below wq.heap.size wq w' → K a' w') :
    Code.wp Tryz.prog c (Exit.then K fun _ _ _ => False) a wq := by
  have HQ := hide hQ
  clear hQ
  obtain ⟨t', d'⟩ := a
  obtain ⟨v0, v2, v3, v4, v19⟩ := v
  simp only at h0v HQ
  subst h0v
  obtain ⟨hs1, hd1, q0, q2, q3, q4, q19⟩ := hF
  obtain ⟨u, hu⟩ := frame_rp t' hs1
  simp only at hd1 q0 q2 q3 q4 q19
  subst hu hd1
  have e0 : u 0 = .slice (some ⟨g, 0, none⟩) n cp := q0
  have e2 : u 2 = v2 := q2
  have e3 : u 3 = v3 := q3
  have e4 : u 4 = v4 := q4
  have e19 : u 19 = v19 := q19
  rw [e0, e2, e3, e4, e19]
  clear q0 e0 q2 e2 q3 e3 q4 e4 q19 e19 hs1
  simp only [Tryz.f35, Option.getD_some, regOf] at hc
  injection hc with hc
  subst hc
  generalize u 1 = u1
  generalize u 5 = u5
  generalize u 6 = u6
  generalize u 7 = u7
  generalize u 8 = u8
  generalize u 9 = u9
  generalize u 10 = u10
  generalize u 11 = u11
  generalize u 12 = u12
  generalize u 13 = u13
  generalize u 14 = u14
  generalize u 15 = u15
  generalize u 16 = u16
  generalize u 17 = u17
  generalize u 18 = u18
  generalize u 20 = u20
  generalize u 21 = u21
  generalize u 22 = u22
  generalize u 23 = u23
  generalize u 24 = u24
  generalize u 25 = u25
  generalize u 26 = u26
  generalize u 27 = u27
  generalize u 28 = u28
  generalize u 29 = u29
  generalize u 30 = u30
  generalize u 31 = u31
  generalize u 32 = u32
  generalize u 33 = u33
  clear u
  have e1 : (1 : Int) < (n : Int) := by omega
  have e2 : (2 : Int) < (n : Int) := by omega
  have e3 : 1 < n := by omega
  have e4 : 2 < n := by omega
  refine wp_region_last 12 rfl (by kernel_rfl) rfl rfl (by kernel_rfl) ?_
  intro ops' hops'
  simp only [idle, List.setIfInBounds_toArray, List.set_cons_succ, List.set_cons_zero] at hops'
  subst hops'
  refine wpAny_phi (ns := 34) (uses := (fun i => match i with | 0 => [6] | 1 => [7] | 2 => [8] | 3 => [9] | 4 => [10] | 5 => [11] | 6 => [12] | 7 => [13] | 8 => [14] | 9 => [15] | 10 => [16] | 11 => [4] | 12 => [] | _ => [])) (by kernel_rfl) (by kernel_rfl) (fun _ w w' => Below w.heap.size w w') (fun w => Below wq.heap.size wq w) (fun _ _ _ h r => h.trans (r.mono h.size)) ((Below.refl _ _).drew) (fun i => match i with | 0 => fun s w => s 6 = .slice (some ⟨g, 0, none⟩) n cp | 1 => fun s w => s 7 = .pointer (some ⟨g, 3, none⟩) | 2 => fun s w => s 8 = .pointer (some ⟨g, 4, none⟩) | 3 => fun s w => s 9 = .int .u64 xb | 4 => fun s w => s 10 = .int .i64 (IntKind.i64.wrap xb) | 5 => fun s w => s 11 = .slice (some ⟨g, 0, none⟩) n cp | 6 => fun s w => s 12 = .pointer (some ⟨g, 6, none⟩) | 7 => fun s w => s 13 = .pointer (some ⟨g, 7, none⟩) | 8 => fun s w => s 14 = .int .u64 xc | 9 => fun s w => s 15 = .int .i64 (backN xc) | 10 => fun s w => s 16 = .agg #[.int .i64 (IntKind.i64.wrap xb), .int .i64 (backN xc), .slice none 0 0] | 11 => fun s w => ∃ b4, s 4 = .pointer (some ⟨b4, 0, none⟩) ∧ wq.heap.size ≤ b4 ∧ w.heap[b4]? = some (.cells #[.int .i64 0, .int .i64 0, .slice none 0 0] tRp (0, 0)) | 12 => fun s w => True | _ => fun _ _ => True) ?phc ?phh ?pstep ?pdone
  case phc =>
    intro i s s' w hx h
    match i, hx, h with
    | 0, hx, h =>
      have e6 := hx 6 (by simp)
      first | exact (show _ from by simp only [← e6] at *; exact h) | (simp only [e6] at h; exact h)
    | 1, hx, h =>
      have e7 := hx 7 (by simp)
      first | exact (show _ from by simp only [← e7] at *; exact h) | (simp only [e7] at h; exact h)
    | 2, hx, h =>
      have e8 := hx 8 (by simp)
      first | exact (show _ from by simp only [← e8] at *; exact h) | (simp only [e8] at h; exact h)
    | 3, hx, h =>
      have e9 := hx 9 (by simp)
      first | exact (show _ from by simp only [← e9] at *; exact h) | (simp only [e9] at h; exact h)
    | 4, hx, h =>
      have e10 := hx 10 (by simp)
      first | exact (show _ from by simp only [← e10] at *; exact h) | (simp only [e10] at h; exact h)
    | 5, hx, h =>
      have e11 := hx 11 (by simp)
      first | exact (show _ from by simp only [← e11] at *; exact h) | (simp only [e11] at h; exact h)
    | 6, hx, h =>
      have e12 := hx 12 (by simp)
      first | exact (show _ from by simp only [← e12] at *; exact h) | (simp only [e12] at h; exact h)
    | 7, hx, h =>
      have e13 := hx 13 (by simp)
      first | exact (show _ from by simp only [← e13] at *; exact h) | (simp only [e13] at h; exact h)
    | 8, hx, h =>
      have e14 := hx 14 (by simp)
      first | exact (show _ from by simp only [← e14] at *; exact h) | (simp only [e14] at h; exact h)
    | 9, hx, h =>
      have e15 := hx 15 (by simp)
      first | exact (show _ from by simp only [← e15] at *; exact h) | (simp only [e15] at h; exact h)
    | 10, hx, h =>
      have e16 := hx 16 (by simp)
      first | exact (show _ from by simp only [← e16] at *; exact h) | (simp only [e16] at h; exact h)
    | 11, hx, h =>
      have e4 := hx 4 (by simp)
      first | exact (show _ from by simp only [← e4] at *; exact h) | (simp only [e4] at h; exact h)
    | 12, hx, h =>
      exact h
    | (n + 13), _, h => exact h
  case phh =>
    intro i j s w w' hij h hb r
    match i, hij, h with
    | 0, hij, h =>
      exact h
    | 1, hij, h =>
      exact h
    | 2, hij, h =>
      exact h
    | 3, hij, h =>
      exact h
    | 4, hij, h =>
      exact h
    | 5, hij, h =>
      exact h
    | 6, hij, h =>
      exact h
    | 7, hij, h =>
      exact h
    | 8, hij, h =>
      exact h
    | 9, hij, h =>
      exact h
    | 10, hij, h =>
      exact h
    | 11, hij, h =>
      obtain ⟨b4, h1, h2, h3⟩ := h
      exact ⟨b4, h1, h2, (r.block _ (heap_lt h3)).trans h3⟩
    | 12, hij, h =>
      exact h
    | (n + 13), _, h => exact h
  case pstep =>
    intro i o ho a' w' hsa hb hd
    match i, ho with
    | 0, ho =>
      obtain rfl := Option.some.inj ho
      try dsimp only at hd
      have g0 : a'.tmps.getD 0 undef = .slice (some ⟨g, 0, none⟩) n cp := hsa.rest 0 (by rfl)
      refine wpOp_of rfl rfl ?_
      refine op_run (v := .slice (some ⟨g, 0, none⟩) n cp) (w' := w') ?_ ⟨_, rfl, ?_, ?_⟩
      · simp only [execOp, Act.eval, List.map_toArray, List.map_cons, List.map_nil, g0]; first | (go_simp; done) | rfl
      · try dsimp only
        exact (slots_put (ns := 34) (hsa.size.trans rfl) (by decide))
      · exact Below.refl _ _
    | 1, ho =>
      obtain rfl := Option.some.inj ho
      try dsimp only at hd
      have d0 : a'.tmps.getD 6 undef = .slice (some ⟨g, 0, none⟩) n cp := hd 0 (by rfl)
      refine wpOp_of rfl rfl ?_
      refine op_run (v := .pointer (some ⟨g, 3, none⟩)) (w' := w') ?_ ⟨_, rfl, ?_, ?_⟩
      · simp only [execOp, Act.eval, List.map_toArray, List.map_cons, List.map_nil, d0]; first | (go_simp; done) | rfl
      · try dsimp only
        exact (slots_put (ns := 34) (hsa.size.trans rfl) (by decide))
      · exact Below.refl _ _
    | 2, ho =>
      obtain rfl := Option.some.inj ho
      try dsimp only at hd
      have d1 : a'.tmps.getD 7 undef = .pointer (some ⟨g, 3, none⟩) := hd 1 (by rfl)
      refine wpOp_of rfl rfl ?_
      refine op_run (v := .pointer (some ⟨g, 4, none⟩)) (w' := w') ?_ ⟨_, rfl, ?_, ?_⟩
      · simp only [execOp, Act.eval, List.map_toArray, List.map_cons, List.map_nil, d1]; first | (go_simp; done) | rfl
      · try dsimp only
        exact (slots_put (ns := 34) (hsa.size.trans rfl) (by decide))
      · exact Below.refl _ _
    | 3, ho =>
      obtain rfl := Option.some.inj ho
      try dsimp only at hd
      have d2 : a'.tmps.getD 8 undef = .pointer (some ⟨g, 4, none⟩) := hd 2 (by rfl)
      have y1 : w'.cell? ⟨g, 4, none⟩ = some (.int .u64 xb) := (hb.cell (p := ⟨g, 4, none⟩) hg).trans y1
      refine wpOp_of rfl rfl ?_
      refine op_run (v := .int .u64 xb) (w' := w') ?_ ⟨_, rfl, ?_, ?_⟩
      · simp only [execOp, Act.eval, List.map_toArray, List.map_cons, List.map_nil, d2, y1]; first | (go_simp; done) | rfl
      · try dsimp only
        exact (slots_put (ns := 34) (hsa.size.trans rfl) (by decide))
      · exact Below.refl _ _
    | 4, ho =>
      obtain rfl := Option.some.inj ho
      try dsimp only at hd
      have d3 : a'.tmps.getD 9 undef = .int .u64 xb := hd 3 (by rfl)
      refine wpOp_of rfl rfl ?_
      refine op_run (v := .int .i64 (IntKind.i64.wrap xb)) (w' := w') ?_ ⟨_, rfl, ?_, ?_⟩
      · simp only [execOp, Act.eval, List.map_toArray, List.map_cons, List.map_nil, d3]; first | (go_simp; done) | rfl
      · try dsimp only
        exact (slots_put (ns := 34) (hsa.size.trans rfl) (by decide))
      · exact Below.refl _ _
    | 5, ho =>
      obtain rfl := Option.some.inj ho
      try dsimp only at hd
      have g0 : a'.tmps.getD 0 undef = .slice (some ⟨g, 0, none⟩) n cp := hsa.rest 0 (by rfl)
      refine wpOp_of rfl rfl ?_
      refine op_run (v := .slice (some ⟨g, 0, none⟩) n cp) (w' := w') ?_ ⟨_, rfl, ?_, ?_⟩
      · simp only [execOp, Act.eval, List.map_toArray, List.map_cons, List.map_nil, g0]; first | (go_simp; done) | rfl
      · try dsimp only
        exact (slots_put (ns := 34) (hsa.size.trans rfl) (by decide))
      · exact Below.refl _ _
    | 6, ho =>
      obtain rfl := Option.some.inj ho
      try dsimp only at hd
      have d5 : a'.tmps.getD 11 undef = .slice (some ⟨g, 0, none⟩) n cp := hd 5 (by rfl)
      refine wpOp_of rfl rfl ?_
      refine op_run (v := .pointer (some ⟨g, 6, none⟩)) (w' := w') ?_ ⟨_, rfl, ?_, ?_⟩
      · simp only [execOp, Act.eval, List.map_toArray, List.map_cons, List.map_nil, d5]; first | (go_simp; done) | rfl
      · try dsimp only
        exact (slots_put (ns := 34) (hsa.size.trans rfl) (by decide))
      · exact Below.refl _ _
    | 7, ho =>
      obtain rfl := Option.some.inj ho
      try dsimp only at hd
      have d6 : a'.tmps.getD 12 undef = .pointer (some ⟨g, 6, none⟩) := hd 6 (by rfl)
      refine wpOp_of rfl rfl ?_
      refine op_run (v := .pointer (some ⟨g, 7, none⟩)) (w' := w') ?_ ⟨_, rfl, ?_, ?_⟩
      · simp only [execOp, Act.eval, List.map_toArray, List.map_cons, List.map_nil, d6]; first | (go_simp; done) | rfl
      · try dsimp only
        exact (slots_put (ns := 34) (hsa.size.trans rfl) (by decide))
      · exact Below.refl _ _
    | 8, ho =>
      obtain rfl := Option.some.inj ho
      try dsimp only at hd
      have d7 : a'.tmps.getD 13 undef = .pointer (some ⟨g, 7, none⟩) := hd 7 (by rfl)
      have y2 : w'.cell? ⟨g, 7, none⟩ = some (.int .u64 xc) := (hb.cell (p := ⟨g, 7, none⟩) hg).trans y2
      refine wpOp_of rfl rfl ?_
      refine op_run (v := .int .u64 xc) (w' := w') ?_ ⟨_, rfl, ?_, ?_⟩
      · simp only [execOp, Act.eval, List.map_toArray, List.map_cons, List.map_nil, d7, y2]; first | (go_simp; done) | rfl
      · try dsimp only
        exact (slots_put (ns := 34) (hsa.size.trans rfl) (by decide))
      · exact Below.refl _ _
    | 9, ho =>
      obtain rfl := Option.some.inj ho
      try dsimp only at hd
      have d8 : a'.tmps.getD 14 undef = .int .u64 xc := hd 8 (by rfl)
      refine wpOp_of rfl rfl ?_
      refine op_call 57 _ _ rfl (enters_of Tryz.func57 (by kernel_rfl) rfl) [.int .u64 xc] (by simp only [List.map, Act.eval, d8]) (pback xc w') ?_
      rintro e w'' ⟨rfl, rfl⟩
      refine ⟨_, rfl, _, rfl, ?_, ?_⟩
      · try dsimp only
        exact (slots_put (ns := 34) (hsa.size.trans rfl) (by decide))
      · exact Below.refl _ _
    | 10, ho =>
      obtain rfl := Option.some.inj ho
      try dsimp only at hd
      have d4 : a'.tmps.getD 10 undef = .int .i64 (IntKind.i64.wrap xb) := hd 4 (by rfl)
      have d9 : a'.tmps.getD 15 undef = .int .i64 (backN xc) := hd 9 (by rfl)
      refine wpOp_of rfl rfl ?_
      refine op_run (v := .agg #[.int .i64 (IntKind.i64.wrap xb), .int .i64 (backN xc), .slice none 0 0]) (w' := w') ?_ ⟨_, rfl, ?_, ?_⟩
      · simp only [execOp, Act.eval, List.map_toArray, List.map_cons, List.map_nil, d4, d9]; first | (go_simp; done) | rfl
      · try dsimp only
        exact (slots_put (ns := 34) (hsa.size.trans rfl) (by decide))
      · exact Below.refl _ _
    | 11, ho =>
      obtain rfl := Option.some.inj ho
      try dsimp only at hd
      refine wpOp_of rfl rfl ?_
      refine op_run (v := Value.pointer (some ⟨w'.heap.size, 0, none⟩)) (w' := w'.alloc (.cells #[.int .i64 0, .int .i64 0, .slice none 0 0] tRp)) ?_ ⟨_, rfl, ?_, ?_⟩
      · simp only [execOp, Act.eval, List.map_toArray, List.map_cons, List.map_nil]; first | (go_simp; done) | rfl
      · try dsimp only
        exact ⟨_, (slots_put (ns := 34) (hsa.size.trans rfl) (by decide)), hb.size, heap_alloc_new _ _⟩
      · exact (Below.refl _ _).alloc (Nat.le_refl _) _
    | 12, ho =>
      obtain rfl := Option.some.inj ho
      try dsimp only at hd
      refine wpOp_of rfl rfl ?_
      refine op_run (v := undef) (w' := w') ?_ ⟨_, rfl, ?_, ?_⟩
      · rfl
      · try dsimp only
        trivial
      · exact Below.refl _ _
    | (n + 13), ho => exact absurd ho (by simp)
  case pdone =>
    intro a' w' hsa hb hd
    have d0 : a'.tmps.getD 6 undef = .slice (some ⟨g, 0, none⟩) n cp := hd 0 (by decide)
    have d1 : a'.tmps.getD 7 undef = .pointer (some ⟨g, 3, none⟩) := hd 1 (by decide)
    have d2 : a'.tmps.getD 8 undef = .pointer (some ⟨g, 4, none⟩) := hd 2 (by decide)
    have d3 : a'.tmps.getD 9 undef = .int .u64 xb := hd 3 (by decide)
    have d4 : a'.tmps.getD 10 undef = .int .i64 (IntKind.i64.wrap xb) := hd 4 (by decide)
    have d5 : a'.tmps.getD 11 undef = .slice (some ⟨g, 0, none⟩) n cp := hd 5 (by decide)
    have d6 : a'.tmps.getD 12 undef = .pointer (some ⟨g, 6, none⟩) := hd 6 (by decide)
    have d7 : a'.tmps.getD 13 undef = .pointer (some ⟨g, 7, none⟩) := hd 7 (by decide)
    have d8 : a'.tmps.getD 14 undef = .int .u64 xc := hd 8 (by decide)
    have d9 : a'.tmps.getD 15 undef = .int .i64 (backN xc) := hd 9 (by decide)
    have d10 : a'.tmps.getD 16 undef = .agg #[.int .i64 (IntKind.i64.wrap xb), .int .i64 (backN xc), .slice none 0 0] := hd 10 (by decide)
    have d11 : ∃ b4, a'.tmps.getD 4 undef = .pointer (some ⟨b4, 0, none⟩) ∧ wq.heap.size ≤ b4 ∧ w'.heap[b4]? = some (.cells #[.int .i64 0, .int .i64 0, .slice none 0 0] tRp (0, 0)) := hd 11 (by decide)
    have d12 : True := hd 12 (by decide)
    obtain ⟨b4, d11, h2, h3⟩ := d11
    intro K2 hK2
    have q0 := box_cell h3 0 rfl
    have z0 := box_free h3 0
    have q1 := box_cell h3 1 rfl
    have z1 := box_free h3 1
    have q2 := box_cell h3 2 rfl
    have z2 := box_free h3 2
    refine op_skip (w' := ((w'.setCell ⟨b4, 0, none⟩ (.int .i64 (IntKind.i64.wrap xb))).setCell ⟨b4, 1, none⟩ (.int .i64 (backN xc))).setCell ⟨b4, 2, none⟩ (.slice none 0 0)) ?_ (hK2 _ _ ?_)
    · simp only [execOp, Act.eval, d10, d11]
      first | (go_simp; done) | (go_simp; rfl)
    refine HQ.out _ _ b4 ⟨hsa.size.trans rfl, hsa.defers.trans rfl, hsa.rest 0 (by rfl), hsa.rest 2 (by rfl), hsa.rest 3 (by rfl), d11, hsa.rest 19 (by rfl)⟩ h2 ?_ ?_
    · have h9 := box_set (box_set (box_set (h3) 0 (.int .i64 (IntKind.i64.wrap xb))) 1 (.int .i64 (backN xc))) 2 (.slice none 0 0)
      simpa using h9
    · exact (((hb).setCell (p := ⟨b4, 0, none⟩) h2 _).setCell (p := ⟨b4, 1, none⟩) h2 _).setCell (p := ⟨b4, 2, none⟩) h2 _
set_option maxHeartbeats 8000000 in
set_option maxRecDepth 100000 in
theorem rp_r2 {K : Act → World → Prop} {c : Code} (hc : regOf (Tryz.f35.body.getD .skip) 2 = some c) (a : Act) {v : Vrp} {wq : World} {g n cp : Nat} {ao3 : Option Addr} (hF : Frp a v) (h0v : v.v0 = .slice (some ⟨g, 0, none⟩) n cp) (hao : ao3 = if cp = 3 then some ⟨g, 0, none⟩ else some ⟨g, 9, none⟩) (hn : 3 ≤ n) (hnc : n ≤ cp)
    (hQ : ∀ a', Frp a' { v with v19 := .func (.func 81) #[] #[.pointer (some ⟨wq.heap.size, 0, none⟩), .pointer (some ⟨wq.heap.size + 1, 0, none⟩)] } → K a' ((wq.alloc (.cells #[.slice ao3 (n - 3) (cp - 3)] 50)).alloc (.cells #[.int .i64 5] 3))) :
    Code.wp Tryz.prog c (Exit.then K fun _ _ _ => False) a wq := by
  have HQ := hide hQ
  clear hQ
  obtain ⟨t', d'⟩ := a
  obtain ⟨v0, v2, v3, v4, v19⟩ := v
  simp only at h0v HQ
  subst h0v
  obtain ⟨hs1, hd1, q0, q2, q3, q4, q19⟩ := hF
  obtain ⟨u, hu⟩ := frame_rp t' hs1
  simp only at hd1 q0 q2 q3 q4 q19
  subst hu hd1
  have e0 : u 0 = .slice (some ⟨g, 0, none⟩) n cp := q0
  have e2 : u 2 = v2 := q2
  have e3 : u 3 = v3 := q3
  have e4 : u 4 = v4 := q4
  have e19 : u 19 = v19 := q19
  rw [e0, e2, e3, e4, e19]
  clear q0 e0 q2 e2 q3 e3 q4 e4 q19 e19 hs1
  simp only [Tryz.f35, Option.getD_some, regOf] at hc
  injection hc with hc
  subst hc
  generalize u 1 = u1
  generalize u 5 = u5
  generalize u 6 = u6
  generalize u 7 = u7
  generalize u 8 = u8
  generalize u 9 = u9
  generalize u 10 = u10
  generalize u 11 = u11
  generalize u 12 = u12
  generalize u 13 = u13
  generalize u 14 = u14
  generalize u 15 = u15
  generalize u 16 = u16
  generalize u 17 = u17
  generalize u 18 = u18
  generalize u 20 = u20
  generalize u 21 = u21
  generalize u 22 = u22
  generalize u 23 = u23
  generalize u 24 = u24
  generalize u 25 = u25
  generalize u 26 = u26
  generalize u 27 = u27
  generalize u 28 = u28
  generalize u 29 = u29
  generalize u 30 = u30
  generalize u 31 = u31
  generalize u 32 = u32
  generalize u 33 = u33
  clear u
  have e1 : (3 : Int) ≤ (n : Int) := by omega
  have e2 : (n : Int) ≤ (cp : Int) := by omega
  have e3 : (0 : Int) ≤ (3 : Int) := by omega
  have HC := hide (fun a len cap (w : World) => (callsIn_wide (n := 9)).1 (chunk_in 9 a len cap w))
  by_cases h1 : cp = 3
  · rw [if_pos h1] at hao
    subst hao
    subst h1
    have hn3 : n = 3 := by omega
    subst hn3
    simp only [Nat.sub_self] at HQ
    go_wp2_with (go_at_call 58; refine (HC.out _ _ _ _).mono ?_; rintro e w' ⟨rfl, rfl⟩)
    exact HQ.out _ ⟨rfl, rfl, rfl, rfl, rfl, rfl, rfl⟩
  · rw [if_neg h1] at hao
    subst hao
    go_wp2_with (go_at_call 58; refine (HC.out _ _ _ _).mono ?_; rintro e w' ⟨rfl, rfl⟩)
    exact HQ.out _ ⟨rfl, rfl, rfl, rfl, rfl, rfl, rfl⟩
end Go.Proofs.YtoolbbibnegdnaaGreatDoor
/-
  replyOf: the body of its range (mkch.py)
-/
namespace Go.Proofs.YtoolbbibnegdnaaGreatDoor
open Go.RowKit

attribute [local go_sem ↓] Go.wp_at_zero Go.wp_at_succ
set_option linter.unusedSimpArgs false
set_option linter.unusedVariables false
/-- The body of the first range over a function. -/
def rangeBody : Code → Option Code
  | .seq a b => match rangeBody a with
    | some c => some c
    | none => rangeBody b
  | .block _ c => rangeBody c
  | .rangeFunc _ _ _ b => some b
  | _ => none
/-- A row's block has the row's type. -/
theorem row_type {w : World} {base e size n b : Nat} {v : Value} {xs : List Value} {c : Array Value} {t : TypeId} (h : w.ownsRow base e size v n xs) (hb : v.ownBlock = some b) (hw : w.heap[b]? = some (.cells c t (0, 0))) (hne : t ≠ e) : False := by
  rcases h.2 with ⟨rfl, _⟩ | ⟨g, cap, cur, rfl, _, hg, _⟩
  · cases hb
  · obtain rfl : g = b := by simpa [Value.ownBlock] using hb
    rw [hg] at hw
    injection hw with hw
    injection hw with _ h2 _
    exact hne h2.symm
theorem infoRc : (Tryz.prog.info? tRc).map (fun i => (i.zero, i.size, i.bytes)) = some (some (.agg #[.int .i64 0, .string ⟨#[]⟩, .int .i64 0, .string ⟨#[]⟩, .string ⟨#[]⟩]), 5, 64) := by kernel_rfl
set_option maxHeartbeats 8000000 in
set_option maxRecDepth 100000 in
/-- The body of the range: a record is read and appended. -/
theorem rp_body {c : Code} (hc : rangeBody (Tryz.f35.body.getD .skip) = some c) {n l : Nat} {Q : Exit → Act → World → Prop} (hQl : ¬ LetsOut (Exit.inBlock 1 Q)) (a : Act) (W : World) (hsz : a.tmps.size = 34) {b4 g off k n0 rc : Nat} {ro : Option Addr} {r : Rec} {c1 c2 : Int} {xs : List Value} (h4 : a.tmps.getD 4 undef = .pointer (some ⟨b4, 0, none⟩)) (h5 : a.tmps.getD 5 undef = .slice (some ⟨g, off, none⟩) 5 5)
    (hBox : W.heap[b4]? = some (.cells #[.int .i64 c1, .int .i64 c2, Value.slice ro k rc] tRp (0, 0))) (hrow : W.ownsRow n0 tRc 5 (Value.slice ro k rc) k xs) (hn0 : n0 ≤ W.heap.size) (hk : k ≤ 1000) (hg : g < W.heap.size) (hng : ¬ (Value.slice ro k rc).ownBlock = some g)
    (y0 : W.cell? ⟨g, off + 1, none⟩ = some (.int .u64 r.off)) (y1 : W.cell? ⟨g, off + 5, none⟩ = some (.string r.prod)) (y2 : W.cell? ⟨g, off + 7, none⟩ = some (.int .u64 r.seq)) (y3 : W.cell? ⟨g, off + 11, none⟩ = some (.string r.key)) (y4 : W.cell? ⟨g, off + 14, none⟩ = some (.string r.val))
    (hQ : ∀ a' w' ro2 rc2, w'.heap[b4]? = some (.cells #[.int .i64 c1, .int .i64 c2, .slice ro2 (k + 1) rc2] tRp (0, 0)) → w'.ownsRow n0 tRc 5 (.slice ro2 (k + 1) rc2) (k + 1) (xs ++ [.int .i64 (recW r).off, .string (recW r).prod, .int .i64 (recW r).seq, .string (recW r).key, .string (recW r).val]) → Touch (fun i => i = b4 ∨ (Value.slice ro k rc).ownBlock = some i) W w' → Q .normal a' w') :
    c.wpIn (Fence.wide.inRound l) n Tryz.prog Q a W := by
  obtain ⟨i0, hi, hz0, hz1, hz2⟩ := info_parts infoRc
  have HQ := hide hQ
  have hn4 : ¬ (Value.slice ro k rc).ownBlock = some b4 := fun e => row_type hrow e hBox (by decide)
  have hrl : ∀ i, (Value.slice ro k rc).ownBlock = some i → i < W.heap.size := fun i e => row_lt hrow e
  clear hQ
  simp only [Tryz.f35, Option.getD_some, rangeBody] at hc
  injection hc with hc
  subst hc
  refine wpIn_block ?_
  refine wpIn_region_last 7 rfl (by kernel_rfl) rfl rfl (by kernel_rfl) (by kernel_rfl) hQl ?_
  intro ops' hops'
  simp only [idle, List.setIfInBounds_toArray, List.set_cons_succ, List.set_cons_zero] at hops'
  subst hops'
  refine wpAny_pivot (ns := 34) (uses := (fun i => match i with | 0 => [21] | 1 => [22] | 2 => [23] | 3 => [24] | 4 => [25] | 5 => [26] | 6 => [27] | 7 => [] | _ => [])) (by kernel_rfl) (by kernel_rfl) (fun j w w' => (j ≠ 5 → Below w.heap.size w w') ∧ (j = 5 → w.grownBy w' (Value.slice ro k rc).ownBlock)) 5 (by decide) (fun bb w => (bb = false → Below W.heap.size W w) ∧ Touch (fun i => (Value.slice ro k rc).ownBlock = some i) W w) (fun j b w w' hj h r => ⟨fun e => (h.1 e).trans ((r.1 hj).mono (h.1 e).size), h.2.below (r.1 hj)⟩) (fun w w' h r => ⟨fun e => (by cases e), h.2.grown (r.2 rfl) (fun i e _ => e)⟩) ⟨fun _ => (Below.refl _ _).drew, (Touch.refl _ _).drew⟩ (fun i => match i with | 0 => fun s w => s 21 = .pointer (some ⟨b4, 2, none⟩) | 1 => fun s w => s 22 = Value.slice ro k rc | 2 => fun s w => s 23 = .slice (some ⟨g, off, none⟩) 5 5 | 3 => fun s w => s 24 = .agg #[.int .i64 (recW r).off, .string (recW r).prod, .int .i64 (recW r).seq, .string (recW r).key, .string (recW r).val] | 4 => fun s w => ∃ gb, s 25 = .slice (some ⟨gb, 0, none⟩) 1 1 ∧ W.heap.size ≤ gb ∧ w.heap[gb]? = some (.cells #[.int .i64 (recW r).off, .string (recW r).prod, .int .i64 (recW r).seq, .string (recW r).key, .string (recW r).val] tRc (0, 0)) | 5 => fun s w => ∃ ro2 rc2, s 26 = .slice ro2 (k + 1) rc2 ∧ w.ownsRow n0 tRc 5 (.slice ro2 (k + 1) rc2) (k + 1) (xs ++ [.int .i64 (recW r).off, .string (recW r).prod, .int .i64 (recW r).seq, .string (recW r).key, .string (recW r).val]) | 6 => fun s w => s 27 = .pointer (some ⟨b4, 2, none⟩) | 7 => fun s w => True | _ => fun _ _ => True) ?phc ?phh ?pstep ?pdone
  case phc =>
    intro i s s' w hx h
    match i, hx, h with
    | 0, hx, h =>
      have e21 := hx 21 (by simp)
      first | exact (show _ from by simp only [← e21] at *; exact h) | (simp only [e21] at h; exact h)
    | 1, hx, h =>
      have e22 := hx 22 (by simp)
      first | exact (show _ from by simp only [← e22] at *; exact h) | (simp only [e22] at h; exact h)
    | 2, hx, h =>
      have e23 := hx 23 (by simp)
      first | exact (show _ from by simp only [← e23] at *; exact h) | (simp only [e23] at h; exact h)
    | 3, hx, h =>
      have e24 := hx 24 (by simp)
      first | exact (show _ from by simp only [← e24] at *; exact h) | (simp only [e24] at h; exact h)
    | 4, hx, h =>
      have e25 := hx 25 (by simp)
      first | exact (show _ from by simp only [← e25] at *; exact h) | (simp only [e25] at h; exact h)
    | 5, hx, h =>
      have e26 := hx 26 (by simp)
      first | exact (show _ from by simp only [← e26] at *; exact h) | (simp only [e26] at h; exact h)
    | 6, hx, h =>
      have e27 := hx 27 (by simp)
      first | exact (show _ from by simp only [← e27] at *; exact h) | (simp only [e27] at h; exact h)
    | 7, hx, h =>
      exact h
    | (n + 8), _, h => exact h
  case phh =>
    intro i j s w w' hij h r
    match i, hij, h with
    | 0, hij, h =>
      exact h
    | 1, hij, h =>
      exact h
    | 2, hij, h =>
      exact h
    | 3, hij, h =>
      exact h
    | 4, hij, h =>
      obtain ⟨gb, h1, h2, h3⟩ := h
      by_cases e : j = 5
      · exact ⟨gb, h1, h2, ((r.2 e).block gb (heap_lt h3) (fun e2 => by have := hrl gb e2.symm; omega)).trans h3⟩
      · exact ⟨gb, h1, h2, ((r.1 e).block _ (heap_lt h3)).trans h3⟩
    | 5, hij, h =>
      obtain ⟨ro2, rc2, h1, h2⟩ := h
      exact ⟨ro2, rc2, h1, below_row (r.1 (fun e => hij e.symm)) h2⟩
    | 6, hij, h =>
      exact h
    | 7, hij, h =>
      exact h
    | (n + 8), _, h => exact h
  case pstep =>
    intro i o ho a' w' bb hbb hsa hb hd
    match i, ho with
    | 0, ho =>
      obtain rfl := Option.some.inj ho
      try dsimp only at hd
      have g4 := (hsa.rest 4 (by rfl)).trans h4
      refine wpOp_of rfl rfl ?_
      refine op_run (v := .pointer (some ⟨b4, 2, none⟩)) (w' := w') ?_ ⟨_, rfl, ?_, ?_⟩
      · simp only [execOp, Act.eval, List.map_toArray, List.map_cons, List.map_nil, g4]; first | (go_simp; done) | rfl
      · try dsimp only
        exact (slots_put (ns := 34) (hsa.size.trans hsz) (by decide))
      · exact ⟨fun _ => Below.refl _ _, fun e => by cases e⟩
    | 1, ho =>
      obtain rfl := Option.some.inj ho
      try dsimp only at hd
      have d0 : a'.tmps.getD 21 undef = .pointer (some ⟨b4, 2, none⟩) := hd 0 (by rfl)
      have y := box_cell (hb.2.at hBox hn4) 2 rfl
      refine wpOp_of rfl rfl ?_
      refine op_run (v := Value.slice ro k rc) (w' := w') ?_ ⟨_, rfl, ?_, ?_⟩
      · simp only [execOp, Act.eval, List.map_toArray, List.map_cons, List.map_nil, d0, y]; first | (go_simp; done) | rfl
      · try dsimp only
        exact (slots_put (ns := 34) (hsa.size.trans hsz) (by decide))
      · exact ⟨fun _ => Below.refl _ _, fun e => by cases e⟩
    | 2, ho =>
      obtain rfl := Option.some.inj ho
      try dsimp only at hd
      have g5 := (hsa.rest 5 (by rfl)).trans h5
      refine wpOp_of rfl rfl ?_
      refine op_run (v := .slice (some ⟨g, off, none⟩) 5 5) (w' := w') ?_ ⟨_, rfl, ?_, ?_⟩
      · simp only [execOp, Act.eval, List.map_toArray, List.map_cons, List.map_nil, g5]; first | (go_simp; done) | rfl
      · try dsimp only
        exact (slots_put (ns := 34) (hsa.size.trans hsz) (by decide))
      · exact ⟨fun _ => Below.refl _ _, fun e => by cases e⟩
    | 3, ho =>
      obtain rfl := Option.some.inj ho
      try dsimp only at hd
      have d2 : a'.tmps.getD 23 undef = .slice (some ⟨g, off, none⟩) 5 5 := hd 2 (by rfl)
      refine wpOp_of rfl rfl ?_
      refine op_call 59 _ _ rfl (enters_of Tryz.func59 (by kernel_rfl) rfl) [.slice (some ⟨g, off, none⟩) 5 5] (by simp only [List.map, Act.eval, d2]) (precof g off r w' (Nat.lt_of_lt_of_le hg hb.2.size) (hb.2.cell _ y0 hng) (hb.2.cell _ y1 hng) (hb.2.cell _ y2 hng) (hb.2.cell _ y3 hng) (hb.2.cell _ y4 hng)) ?_
      rintro e w'' ⟨rfl, b2⟩
      refine ⟨_, rfl, _, rfl, ?_, ?_⟩
      · try dsimp only
        exact (slots_put (ns := 34) (hsa.size.trans hsz) (by decide))
      · exact ⟨fun _ => b2, fun e => by cases e⟩
    | 4, ho =>
      obtain rfl := Option.some.inj ho
      try dsimp only at hd
      have d3 : a'.tmps.getD 24 undef = .agg #[.int .i64 (recW r).off, .string (recW r).prod, .int .i64 (recW r).seq, .string (recW r).key, .string (recW r).val] := hd 3 (by rfl)
      refine wpOp_of rfl rfl ?_
      refine op_run (v := Value.slice (some ⟨w'.heap.size, 0, none⟩) 1 1) (w' := w'.alloc (.cells #[.int .i64 (recW r).off, .string (recW r).prod, .int .i64 (recW r).seq, .string (recW r).key, .string (recW r).val] tRc)) ?_ ⟨_, rfl, ?_, ?_⟩
      · simp only [execOp, Act.eval, List.map_toArray, List.map_cons, List.map_nil, d3]; first | (go_simp; done) | rfl
      · try dsimp only
        exact ⟨_, (slots_put (ns := 34) (hsa.size.trans hsz) (by decide)), hb.2.size, heap_alloc_new _ _⟩
      · exact ⟨fun _ => (Below.refl _ _).alloc (Nat.le_refl _) _, fun e => by cases e⟩
    | 5, ho =>
      obtain rfl := Option.some.inj ho
      try dsimp only at hd
      have d1 : a'.tmps.getD 22 undef = Value.slice ro k rc := hd 1 (by rfl)
      have d4 : ∃ gb, a'.tmps.getD 25 undef = .slice (some ⟨gb, 0, none⟩) 1 1 ∧ W.heap.size ≤ gb ∧ w'.heap[gb]? = some (.cells #[.int .i64 (recW r).off, .string (recW r).prod, .int .i64 (recW r).seq, .string (recW r).key, .string (recW r).val] tRc (0, 0)) := hd 4 (by rfl)
      refine wpOp_of rfl rfl ?_
      obtain ⟨gb, d4, _, h6⟩ := d4
      have hbl := hb.1 (hbb rfl)
      refine wp_append_own w' _ _ 35 rfl n0 tRc i0 (.agg #[.int .i64 0, .string ⟨#[]⟩, .int .i64 0, .string ⟨#[]⟩, .string ⟨#[]⟩]) 5 64 Tryz.underlying35 hi hz0 hz1 hz2 rfl (by decide) (Value.slice ro k rc) k xs (by simp only [Act.eval, d1]) (below_row hbl hrow) ⟨gb, 0, none⟩ 1 1 [.int .i64 (recW r).off, .string (recW r).prod, .int .i64 (recW r).seq, .string (recW r).key, .string (recW r).val] (by simp only [Act.eval, d4]) rfl (fun j u hj => by
        rw [Addr.add_lit]
        simp only [Nat.zero_add]
        exact box_cell h6 j (by simpa using hj)) (by simp [Value.oneCell']) (by have : maxLen = 9223372036854775807 := rfl; omega) (by omega) (Nat.le_trans hn0 hbl.size) ?_
      intro v' w'' h7 h8 _
      obtain ⟨ro2, rc2, rfl⟩ := row_slice h7
      refine ⟨_, rfl, ⟨ro2, rc2, (slots_put (ns := 34) (hsa.size.trans hsz) (by decide)), h7⟩, fun e => absurd rfl e, fun _ => h8⟩
    | 6, ho =>
      obtain rfl := Option.some.inj ho
      try dsimp only at hd
      have g4 := (hsa.rest 4 (by rfl)).trans h4
      refine wpOp_of rfl rfl ?_
      refine op_run (v := .pointer (some ⟨b4, 2, none⟩)) (w' := w') ?_ ⟨_, rfl, ?_, ?_⟩
      · simp only [execOp, Act.eval, List.map_toArray, List.map_cons, List.map_nil, g4]; first | (go_simp; done) | rfl
      · try dsimp only
        exact (slots_put (ns := 34) (hsa.size.trans hsz) (by decide))
      · exact ⟨fun _ => Below.refl _ _, fun e => by cases e⟩
    | 7, ho =>
      obtain rfl := Option.some.inj ho
      try dsimp only at hd
      refine wpOp_of rfl rfl ?_
      refine op_run (v := undef) (w' := w') ?_ ⟨_, rfl, ?_, ?_⟩
      · rfl
      · try dsimp only
        trivial
      · exact ⟨fun _ => Below.refl _ _, fun e => by cases e⟩
    | (n + 8), ho => exact absurd ho (by simp)
  case pdone =>
    intro a' w' hsa hb hd
    have d0 : a'.tmps.getD 21 undef = .pointer (some ⟨b4, 2, none⟩) := hd 0 (by decide)
    have d1 : a'.tmps.getD 22 undef = Value.slice ro k rc := hd 1 (by decide)
    have d2 : a'.tmps.getD 23 undef = .slice (some ⟨g, off, none⟩) 5 5 := hd 2 (by decide)
    have d3 : a'.tmps.getD 24 undef = .agg #[.int .i64 (recW r).off, .string (recW r).prod, .int .i64 (recW r).seq, .string (recW r).key, .string (recW r).val] := hd 3 (by decide)
    have d4 : ∃ gb, a'.tmps.getD 25 undef = .slice (some ⟨gb, 0, none⟩) 1 1 ∧ W.heap.size ≤ gb ∧ w'.heap[gb]? = some (.cells #[.int .i64 (recW r).off, .string (recW r).prod, .int .i64 (recW r).seq, .string (recW r).key, .string (recW r).val] tRc (0, 0)) := hd 4 (by decide)
    have d5 : ∃ ro2 rc2, a'.tmps.getD 26 undef = .slice ro2 (k + 1) rc2 ∧ w'.ownsRow n0 tRc 5 (.slice ro2 (k + 1) rc2) (k + 1) (xs ++ [.int .i64 (recW r).off, .string (recW r).prod, .int .i64 (recW r).seq, .string (recW r).key, .string (recW r).val]) := hd 5 (by decide)
    have d6 : a'.tmps.getD 27 undef = .pointer (some ⟨b4, 2, none⟩) := hd 6 (by decide)
    have d7 : True := hd 7 (by decide)
    obtain ⟨ro2, rc2, d5, h7⟩ := d5
    intro K2 hK2
    have h3 := hb.2.at hBox hn4
    have q2 := box_cell h3 2 rfl
    have z2 := box_free h3 2
    refine op_skip (w' := w'.setCell ⟨b4, 2, none⟩ (.slice ro2 (k + 1) rc2)) ?_ (hK2 _ _ ?_)
    · simp only [execOp, Act.eval, d5, d6]
      first | (go_simp; done) | (go_simp; rfl)
    have h9 : (w'.setCell ⟨b4, 2, none⟩ (.slice ro2 (k + 1) rc2)).heap[b4]? = some (.cells #[.int .i64 c1, .int .i64 c2, .slice ro2 (k + 1) rc2] tRp (0, 0)) := by simpa using box_set h3 2 (.slice ro2 (k + 1) rc2)
    have h10 : (w'.setCell ⟨b4, 2, none⟩ (.slice ro2 (k + 1) rc2)).ownsRow n0 tRc 5 (.slice ro2 (k + 1) rc2) (k + 1) (xs ++ [.int .i64 (recW r).off, .string (recW r).prod, .int .i64 (recW r).seq, .string (recW r).key, .string (recW r).val]) := set_row h7 b4 2 _ (fun e => row_type h7 e h3 (by decide))
    exact HQ.out _ _ ro2 rc2 h9 h10 ((hb.2.mono (own' := fun i => i = b4 ∨ (Value.slice ro k rc).ownBlock = some i) (fun i _ e => .inr e)).setCell ⟨b4, 2, none⟩ _ (fun _ => .inl rfl))
end Go.Proofs.YtoolbbibnegdnaaGreatDoor
/-
  replyOf, whole (mkch.py)
-/
namespace Go.Proofs.YtoolbbibnegdnaaGreatDoor
open Go.RowKit

attribute [local go_sem ↓] Go.wp_at_zero Go.wp_at_succ
set_option linter.unusedSimpArgs false
set_option linter.unusedVariables false
attribute [local go_sem] Oper.semAt_some
open Go.Shelf
def rcCells (l : List Rec) : List Value := l.flatMap Rec.cells
theorem rcCells_append (a b : List Rec) : rcCells (a ++ b) = rcCells a ++ rcCells b := List.flatMap_append
theorem rcCells_one (r : Rec) : rcCells [r] = [.int .i64 r.off, .string r.prod, .int .i64 r.seq, .string r.key, .string r.val] := rfl
theorem fin_map (L : List Rec) : (List.finRange L.length).map (fun i => recW L[i.val]) = L.map recW := by
  apply List.ext_getElem
  · simp
  · intro i h1 h2
    simp
set_option maxHeartbeats 8000000 in
set_option maxRecDepth 100000 in
/-- The last region: the number, and the reply into its result. -/
theorem rp_r5 {Q : Exit → Act → World → Prop} {c : Code} (hc : regOf (Tryz.f35.body.getD .skip) 5 = some c) (a : Act) {wq : World} (hsz : a.tmps.size = 34) {g n cp b4 rb q rc : Nat} {ro : Option Addr} {xa c1 c2 : Int} (s0 : a.tmps.getD 0 undef = .slice (some ⟨g, 0, none⟩) n cp) (s3 : a.tmps.getD 3 undef = .pointer (some ⟨rb, 0, none⟩)) (s4 : a.tmps.getD 4 undef = .pointer (some ⟨b4, 0, none⟩)) (hn : 3 ≤ n) (hg : g < wq.heap.size) (ya : wq.cell? ⟨g, 1, none⟩ = some (.int .u64 xa))
    (hR : wq.heap[b4]? = some (.cells #[.int .i64 c1, .int .i64 c2, .slice ro q rc] tRp (0, 0))) (hX : wq.heap[rb]? = some (.cells #[.int .i64 0, .int .i64 0, .slice none 0 0] tRp (0, 0))) (hgb : g ≠ rb) (hbb : b4 ≠ rb)
    (hQ : ∀ a' w', a'.tmps.size = 34 → a'.defers = a.defers → a'.tmps.getD 2 undef = .int .i64 (IntKind.i64.wrap xa) → a'.tmps.getD 3 undef = .pointer (some ⟨rb, 0, none⟩) → w'.heap[rb]? = some (.cells #[.int .i64 c1, .int .i64 c2, .slice ro q rc] tRp (0, 0)) → Touch (fun i => i = rb) wq w' → Q .normal a' w') :
    c.wp Tryz.prog Q a wq := by
  simp only [Tryz.f35, Option.getD_some, regOf] at hc
  injection hc with hc
  subst hc
  have e1 : (0 : Int) < (n : Int) := by omega
  have e2 : 0 < n := by omega
  have hgr : ¬ g = rb := fun e => hgb e
  have hbr : ¬ b4 = rb := fun e => hbb e
  have hbw5 : ∀ j w w', (Touch (fun i => i = rb) wq w ∧ ∃ p0 p1 p2, w.heap[rb]? = some (.cells #[p0, p1, p2] tRp (0, 0))) → (fun j w w' => (j ≠ 7 → w' = w) ∧ (j = 7 → w' = ((w.setCell ⟨rb, 0, none⟩ (.int .i64 c1)).setCell ⟨rb, 1, none⟩ (.int .i64 c2)).setCell ⟨rb, 2, none⟩ (.slice ro q rc))) j w w' → (Touch (fun i => i = rb) wq w' ∧ ∃ p0 p1 p2, w'.heap[rb]? = some (.cells #[p0, p1, p2] tRp (0, 0))) := fun j w w' h r => by
    by_cases e : j = 7
    · rw [r.2 e]
      obtain ⟨h1, p0, p1, p2, h3⟩ := h
      refine ⟨((h1.setCell ⟨rb, 0, none⟩ _ (fun _ => rfl)).setCell ⟨rb, 1, none⟩ _ (fun _ => rfl)).setCell ⟨rb, 2, none⟩ _ (fun _ => rfl), _, _, _, by simpa using box_set (box_set (box_set h3 0 (.int .i64 c1)) 1 (.int .i64 c2)) 2 (.slice ro q rc)⟩
    · rw [r.1 e]
      exact h
  refine wp_region_phi (by kernel_rfl) (ns := 34) (uses := (fun i => match i with | 0 => [28] | 1 => [29] | 2 => [30] | 3 => [31] | 4 => [32] | 5 => [33] | 6 => [2] | 7 => [] | _ => [])) (by kernel_rfl) (by kernel_rfl) (fun j w w' => (j ≠ 7 → w' = w) ∧ (j = 7 → w' = ((w.setCell ⟨rb, 0, none⟩ (.int .i64 c1)).setCell ⟨rb, 1, none⟩ (.int .i64 c2)).setCell ⟨rb, 2, none⟩ (.slice ro q rc))) (fun w => Touch (fun i => i = rb) wq w ∧ ∃ p0 p1 p2, w.heap[rb]? = some (.cells #[p0, p1, p2] tRp (0, 0))) (hbw5) (⟨(Touch.refl _ _).drew, _, _, _, hX⟩) (fun i => match i with | 0 => fun s w => s 28 = .slice (some ⟨g, 0, none⟩) n cp | 1 => fun s w => s 29 = .pointer (some ⟨g, 0, none⟩) | 2 => fun s w => s 30 = .pointer (some ⟨g, 1, none⟩) | 3 => fun s w => s 31 = .int .u64 xa | 4 => fun s w => s 32 = .int .i64 (IntKind.i64.wrap xa) | 5 => fun s w => s 33 = .agg #[.int .i64 c1, .int .i64 c2, .slice ro q rc] | 6 => fun s w => s 2 = .int .i64 (IntKind.i64.wrap xa) | 7 => fun s w => w.heap[rb]? = some (.cells #[.int .i64 c1, .int .i64 c2, .slice ro q rc] tRp (0, 0)) | _ => fun _ _ => True) ?phc ?phh ?pstep ?pdone
  case phc =>
    intro i s s' w hx h
    match i, hx, h with
    | 0, hx, h =>
      have e28 := hx 28 (by simp)
      first | exact (show _ from by simp only [← e28] at *; exact h) | (simp only [e28] at h; exact h)
    | 1, hx, h =>
      have e29 := hx 29 (by simp)
      first | exact (show _ from by simp only [← e29] at *; exact h) | (simp only [e29] at h; exact h)
    | 2, hx, h =>
      have e30 := hx 30 (by simp)
      first | exact (show _ from by simp only [← e30] at *; exact h) | (simp only [e30] at h; exact h)
    | 3, hx, h =>
      have e31 := hx 31 (by simp)
      first | exact (show _ from by simp only [← e31] at *; exact h) | (simp only [e31] at h; exact h)
    | 4, hx, h =>
      have e32 := hx 32 (by simp)
      first | exact (show _ from by simp only [← e32] at *; exact h) | (simp only [e32] at h; exact h)
    | 5, hx, h =>
      have e33 := hx 33 (by simp)
      first | exact (show _ from by simp only [← e33] at *; exact h) | (simp only [e33] at h; exact h)
    | 6, hx, h =>
      have e2 := hx 2 (by simp)
      first | exact (show _ from by simp only [← e2] at *; exact h) | (simp only [e2] at h; exact h)
    | 7, hx, h =>
      exact h
    | (n + 8), _, h => exact h
  case phh =>
    intro i j s w w' hij h hb r
    match i, hij, h with
    | 0, hij, h =>
      exact h
    | 1, hij, h =>
      exact h
    | 2, hij, h =>
      exact h
    | 3, hij, h =>
      exact h
    | 4, hij, h =>
      exact h
    | 5, hij, h =>
      exact h
    | 6, hij, h =>
      exact h
    | 7, hij, h =>
      rw [r.1 (fun e => hij e.symm)]
      exact h
    | (n + 8), _, h => exact h
  case pstep =>
    intro i o ho a' w' hsa hb hd
    match i, ho with
    | 0, ho =>
      obtain rfl := Option.some.inj ho
      try dsimp only at hd
      have g0 := (hsa.rest 0 (by rfl)).trans s0
      refine wpOp_of rfl rfl ?_
      refine op_run (v := .slice (some ⟨g, 0, none⟩) n cp) (w' := w') ?_ ⟨_, rfl, ?_, ?_⟩
      · simp only [execOp, Act.eval, List.map_toArray, List.map_cons, List.map_nil, g0]; first | (go_simp; done) | rfl
      · try dsimp only
        exact (slots_put (ns := 34) (hsa.size.trans hsz) (by decide))
      · exact ⟨fun _ => rfl, fun e => by cases e⟩
    | 1, ho =>
      obtain rfl := Option.some.inj ho
      try dsimp only at hd
      have d0 : a'.tmps.getD 28 undef = .slice (some ⟨g, 0, none⟩) n cp := hd 0 (by rfl)
      refine wpOp_of rfl rfl ?_
      refine op_run (v := .pointer (some ⟨g, 0, none⟩)) (w' := w') ?_ ⟨_, rfl, ?_, ?_⟩
      · simp only [execOp, Act.eval, List.map_toArray, List.map_cons, List.map_nil, d0]; first | (go_simp; done) | rfl
      · try dsimp only
        exact (slots_put (ns := 34) (hsa.size.trans hsz) (by decide))
      · exact ⟨fun _ => rfl, fun e => by cases e⟩
    | 2, ho =>
      obtain rfl := Option.some.inj ho
      try dsimp only at hd
      have d1 : a'.tmps.getD 29 undef = .pointer (some ⟨g, 0, none⟩) := hd 1 (by rfl)
      refine wpOp_of rfl rfl ?_
      refine op_run (v := .pointer (some ⟨g, 1, none⟩)) (w' := w') ?_ ⟨_, rfl, ?_, ?_⟩
      · simp only [execOp, Act.eval, List.map_toArray, List.map_cons, List.map_nil, d1]; first | (go_simp; done) | rfl
      · try dsimp only
        exact (slots_put (ns := 34) (hsa.size.trans hsz) (by decide))
      · exact ⟨fun _ => rfl, fun e => by cases e⟩
    | 3, ho =>
      obtain rfl := Option.some.inj ho
      try dsimp only at hd
      have d2 : a'.tmps.getD 30 undef = .pointer (some ⟨g, 1, none⟩) := hd 2 (by rfl)
      have y : w'.cell? ⟨g, 1, none⟩ = some (.int .u64 xa) := hb.1.cell _ ya hgr
      refine wpOp_of rfl rfl ?_
      refine op_run (v := .int .u64 xa) (w' := w') ?_ ⟨_, rfl, ?_, ?_⟩
      · simp only [execOp, Act.eval, List.map_toArray, List.map_cons, List.map_nil, d2, y]; first | (go_simp; done) | rfl
      · try dsimp only
        exact (slots_put (ns := 34) (hsa.size.trans hsz) (by decide))
      · exact ⟨fun _ => rfl, fun e => by cases e⟩
    | 4, ho =>
      obtain rfl := Option.some.inj ho
      try dsimp only at hd
      have d3 : a'.tmps.getD 31 undef = .int .u64 xa := hd 3 (by rfl)
      refine wpOp_of rfl rfl ?_
      refine op_run (v := .int .i64 (IntKind.i64.wrap xa)) (w' := w') ?_ ⟨_, rfl, ?_, ?_⟩
      · simp only [execOp, Act.eval, List.map_toArray, List.map_cons, List.map_nil, d3]; first | (go_simp; done) | rfl
      · try dsimp only
        exact (slots_put (ns := 34) (hsa.size.trans hsz) (by decide))
      · exact ⟨fun _ => rfl, fun e => by cases e⟩
    | 5, ho =>
      obtain rfl := Option.some.inj ho
      try dsimp only at hd
      have h9 := hb.1.at hR hbr
      have y0 := box_cell h9 0 rfl
      have y1 := box_cell h9 1 rfl
      have y2 := box_cell h9 2 rfl
      have g4 := (hsa.rest 4 (by rfl)).trans s4
      refine wpOp_of rfl rfl ?_
      refine op_run (v := .agg #[.int .i64 c1, .int .i64 c2, .slice ro q rc]) (w' := w') ?_ ⟨_, rfl, ?_, ?_⟩
      · simp only [execOp, Act.eval, List.map_toArray, List.map_cons, List.map_nil, g4, y0, y1, y2]; first | (go_simp; done) | rfl
      · try dsimp only
        exact (slots_put (ns := 34) (hsa.size.trans hsz) (by decide))
      · exact ⟨fun _ => rfl, fun e => by cases e⟩
    | 6, ho =>
      obtain rfl := Option.some.inj ho
      try dsimp only at hd
      have d4 : a'.tmps.getD 32 undef = .int .i64 (IntKind.i64.wrap xa) := hd 4 (by rfl)
      refine wpOp_of rfl rfl ?_
      refine op_run (v := .int .i64 (IntKind.i64.wrap xa)) (w' := w') ?_ ⟨_, rfl, ?_, ?_⟩
      · simp only [execOp, Act.eval, List.map_toArray, List.map_cons, List.map_nil, d4]; first | (go_simp; done) | rfl
      · try dsimp only
        exact (slots_put (ns := 34) (hsa.size.trans hsz) (by decide))
      · exact ⟨fun _ => rfl, fun e => by cases e⟩
    | 7, ho =>
      obtain rfl := Option.some.inj ho
      try dsimp only at hd
      have d5 : a'.tmps.getD 33 undef = .agg #[.int .i64 c1, .int .i64 c2, .slice ro q rc] := hd 5 (by rfl)
      have g3 := (hsa.rest 3 (by rfl)).trans s3
      obtain ⟨p0, p1, p2, h3⟩ := hb.2
      have q0 := box_cell h3 0 rfl
      have q1 := box_cell h3 1 rfl
      have q2 := box_cell h3 2 rfl
      have z0 := box_free h3 0
      have z1 := box_free h3 1
      have z2 := box_free h3 2
      have h9 := box_set (box_set (box_set h3 0 (.int .i64 c1)) 1 (.int .i64 c2)) 2 (.slice ro q rc)
      refine wpOp_of rfl rfl ?_
      refine op_skip (w' := ((w'.setCell ⟨rb, 0, none⟩ (.int .i64 c1)).setCell ⟨rb, 1, none⟩ (.int .i64 c2)).setCell ⟨rb, 2, none⟩ (.slice ro q rc)) ?_ ⟨undef, rfl, ?_, ?_⟩
      · simp only [execOp, Act.eval, d5, g3]; first | (go_simp; done) | (go_simp; rfl)
      · try dsimp only
        simpa using h9
      · exact ⟨fun e => absurd rfl e, fun _ => rfl⟩
    | (n + 8), ho => exact absurd ho (by simp)
  case pdone =>
    intro a' w' hsa hb hd
    have d0 : a'.tmps.getD 28 undef = .slice (some ⟨g, 0, none⟩) n cp := hd 0 (by decide)
    have d1 : a'.tmps.getD 29 undef = .pointer (some ⟨g, 0, none⟩) := hd 1 (by decide)
    have d2 : a'.tmps.getD 30 undef = .pointer (some ⟨g, 1, none⟩) := hd 2 (by decide)
    have d3 : a'.tmps.getD 31 undef = .int .u64 xa := hd 3 (by decide)
    have d4 : a'.tmps.getD 32 undef = .int .i64 (IntKind.i64.wrap xa) := hd 4 (by decide)
    have d5 : a'.tmps.getD 33 undef = .agg #[.int .i64 c1, .int .i64 c2, .slice ro q rc] := hd 5 (by decide)
    have d6 : a'.tmps.getD 2 undef = .int .i64 (IntKind.i64.wrap xa) := hd 6 (by decide)
    have d7 : w'.heap[rb]? = some (.cells #[.int .i64 c1, .int .i64 c2, .slice ro q rc] tRp (0, 0)) := hd 7 (by decide)
    refine hQ _ _ (hsa.size.trans hsz) hsa.defers d6 ((hsa.rest 3 (by rfl)).trans s3) d7 hb.1

theorem grown_cells {X Y : World} {row : Option Nat} {B : Nat} (hg : X.grownBy Y row) (hr : ∀ r, row = some r → B ≤ r ∧ ∃ o : Obj, X.heap[r]? = some o ∧ o.isCells = false) {k : Nat} {o : Obj} (h : X.heap[k]? = some o) (hc : o.isCells = true) : Y.heap[k]? = some o :=
  (hg.block k (heap_lt h) (fun e => by
    obtain ⟨_, o2, h2, h3⟩ := hr k e.symm
    rw [h] at h2
    cases h2
    rw [hc] at h3
    cases h3)).trans h
theorem grown_rowC {X Y : World} {row : Option Nat} {B base e size n : Nat} {v : Value} {xs : List Value} (hg : X.grownBy Y row) (hr : ∀ r, row = some r → B ≤ r ∧ ∃ o : Obj, X.heap[r]? = some o ∧ o.isCells = false) (h : X.ownsRow base e size v n xs) : Y.ownsRow base e size v n xs := by
  refine h.kept hg ?_
  rcases h.2 with ⟨rfl, _⟩ | ⟨g, cap, cur, rfl, _, hgb, _⟩
  · exact .inl rfl
  · refine .inr fun e' => ?_
    obtain ⟨_, o, ho, hc⟩ := hr g (by simpa [Value.ownBlock] using e'.symm)
    rw [hgb] at ho; cases ho; cases hc
/-- What holds of the reply as it grows. -/
def Grows (w : World) (b4 : Nat) (c1 c2 : Int) {q : Nat} (f : Fin q → Rec) (pre : List (Fin q)) (V : World) : Prop :=
  ∃ ro rc, V.heap[b4]? = some (.cells #[.int .i64 c1, .int .i64 c2, .slice ro pre.length rc] tRp (0, 0)) ∧ V.ownsRow w.heap.size tRc 5 (.slice ro pre.length rc) pre.length (rcCells (pre.map f)) ∧ V.heap[w.heap.size]? = some (.cells #[.int .i64 0, .int .i64 0, .slice none 0 0] tRp (0, 0)) ∧ Below w.heap.size w V
theorem grows_own (w : World) (b4 : Nat) (c1 c2 : Int) {q : Nat} (f : Fin q → Rec) {B : Nat} (hB : w.heap.size ≤ B) : OwnFrom B (Grows w b4 c1 c2 f) := fun s X Y row hs hg hr => by
  obtain ⟨ro, rc, h1, h2, h3, h4⟩ := hs
  exact ⟨ro, rc, grown_cells hg hr h1 rfl, grown_rowC hg hr h2, grown_cells hg hr h3 rfl, ownFrom_below (β := Unit) (Nat.le_refl _) hB () X Y row h4 hg hr⟩
set_option maxHeartbeats 16000000 in
set_option maxRecDepth 100000 in
theorem preplyof (xa xb xc : Int) (L : List Rec) (g cp : Nat) (w : World) (hq : L.length ≤ 200) (hcp : 3 + 5 * L.length ≤ cp) (ct : Array Value) (hgt : w.heap[g]? = some (.cells ct 61 (0, 0))) (ya : w.cell? ⟨g, 1, none⟩ = some (.int .u64 xa)) (yb : w.cell? ⟨g, 4, none⟩ = some (.int .u64 xb)) (yc : w.cell? ⟨g, 7, none⟩ = some (.int .u64 xc))
    (hM : ∀ i (hi : i < L.length), w.cell? ⟨g, 9 + i * 15 + 1, none⟩ = some (.int .u64 L[i].off) ∧ w.cell? ⟨g, 9 + i * 15 + 5, none⟩ = some (.string L[i].prod) ∧ w.cell? ⟨g, 9 + i * 15 + 7, none⟩ = some (.int .u64 L[i].seq) ∧ w.cell? ⟨g, 9 + i * 15 + 11, none⟩ = some (.string L[i].key) ∧ w.cell? ⟨g, 9 + i * 15 + 14, none⟩ = some (.string L[i].val)) :
    Calls Tryz.prog 35 #[.slice (some ⟨g, 0, none⟩) (3 + 5 * L.length) cp] w fun e w' => ∃ ro rc, e = .returned (.tuple #[.int .i64 (IntKind.i64.wrap xa), .agg #[.int .i64 (IntKind.i64.wrap xb), .int .i64 (backN xc), .slice ro L.length rc]]) ∧ w'.ownsRow w.heap.size tRc 5 (.slice ro L.length rc) L.length (rcCells (L.map recW)) ∧ Below w.heap.size w w' := by
  have hg := heap_lt hgt
  have HM := hide hM
  have HY := hide (And.intro ya (And.intro yb yc))
  have HG := hide hgt
  have HX := hide (heap_alloc_new w (.cells #[.int .i64 0, .int .i64 0, .slice none 0 0] tRp))
  have HB := hide ((Below.refl w.heap.size w).alloc (Nat.le_refl _) (.cells #[.int .i64 0, .int .i64 0, .slice none 0 0] tRp))
  have HS : Hid ((w.alloc (.cells #[.int .i64 0, .int .i64 0, .slice none 0 0] tRp)).heap.size = w.heap.size + 1) := by show _ = _; simp
  clear hM ya yb yc hgt
  generalize hn : 3 + 5 * L.length = n at *
  refine (callsIn_wide (n := 9)).1 ?_
  refine callsIn_of_wp_marks Tryz.func35 rfl trivial ?_ rfl
  simp only [Tryz.ntmps35, List.size_toArray, List.length_cons, List.length_nil, Nat.reduceAdd, Nat.reduceSub, Array.replicate_succ, Array.replicate_zero, List.push_toArray, List.append_toArray, List.nil_append, List.cons_append]
  gi_wp2
  rename_i Ko hKo
  generalize w.alloc (.cells #[.int .i64 0, .int .i64 0, .slice none 0 0] tRp) = w1 at *
  have hc1 := fun k => HB.out.cell (p := ⟨g, k, none⟩) hg
  refine wpIn_wide.2 ?_
  refine reg_mono (rp_r1 (xb := xb) (xc := xc) (by kernel_rfl) _ (v := ⟨_, _, _, _, _⟩) ⟨rfl, rfl, rfl, rfl, rfl, rfl, rfl⟩ rfl (by omega) (Nat.lt_of_lt_of_le hg HB.out.size) ((hc1 _).trans HY.out.2.1) ((hc1 _).trans HY.out.2.2) fun a' w2 b4 hF hb4 hB4 hW => hKo _ _ ?_)
  clear hKo hc1
  obtain ⟨ao3, hao⟩ : ∃ ao3 : Option Addr, ao3 = if cp = 3 then some ⟨g, 0, none⟩ else some ⟨g, 9, none⟩ := ⟨_, rfl⟩
  refine wpIn_seq (wpIn_seq (wpIn_wide.2 (reg_mono (rp_r2 (ao3 := ao3) (by kernel_rfl) _ hF rfl hao (by omega) hcp fun a3 hF3 => ?_))))
  refine wpIn_block ?_
  have hB2 : Below w.heap.size w w2 := HB.out.trans (hW.mono HB.out.size)
  have hX2 := (hW.block _ (heap_lt HX.out)).trans HX.out
  have s2 : w.heap.size + 1 ≤ w2.heap.size := by have := hW.size; have := HS.out; omega
  have hb4' : w.heap.size + 1 ≤ b4 := by have := HS.out; omega
  obtain ⟨wz, ewz⟩ : ∃ wz : World, ((w2.alloc (.cells #[.slice ao3 (n - 3) (cp - 3)] 50)).alloc (.cells #[.int .i64 5] 3)) = wz := ⟨_, rfl⟩
  have sz : wz.heap.size = w2.heap.size + 2 := by rw [← ewz]; simp
  have bz : Below w2.heap.size w2 wz := by rw [← ewz]; exact ((Below.refl _ w2).alloc (Nat.le_refl _) _).alloc (by simp) _
  have C1 : ChunkAt w2.heap.size (w2.heap.size + 1) ao3 L.length (cp - 3) wz := by
    rw [← ewz]
    refine ⟨?_, ?_⟩
    · rw [show n - 3 = 5 * L.length by omega]
      exact heap_up (heap_alloc_new _ _)
    · have e := heap_alloc_new (w2.alloc (.cells #[.slice ao3 (n - 3) (cp - 3)] 50)) (.cells #[.int .i64 5] 3)
      rw [show (w2.alloc (.cells #[.slice ao3 (n - 3) (cp - 3)] 50)).heap.size = w2.heap.size + 1 by simp] at e
      exact e
  rw [ewz]
  clear ewz
  have hBz : Below w.heap.size w wz := hB2.trans (bz.mono hB2.size)
  have hXz := (bz.block _ (heap_lt hX2)).trans hX2
  have hRz := (bz.block _ (heap_lt hB4)).trans hB4
  have hao2 : 0 < L.length → ao3 = some ⟨g, 9, none⟩ := fun h => by rw [hao, if_neg (by omega)]
  obtain ⟨t', d'⟩ := a3
  obtain ⟨hs1, hd1, q0, q2, q3, q4, q19⟩ := hF3
  obtain ⟨u, hu⟩ := frame_rp t' hs1
  simp only at hd1 q0 q2 q3 q4 q19
  subst hu hd1
  have e0 : u 0 = .slice (some ⟨g, 0, none⟩) n cp := q0
  have e3 : u 3 = .pointer (some ⟨w.heap.size, 0, none⟩) := q3
  have e4 : u 4 = .pointer (some ⟨b4, 0, none⟩) := q4
  have e19 : u 19 = .func (.func 81) #[] #[.pointer (some ⟨w2.heap.size, 0, none⟩), .pointer (some ⟨w2.heap.size + 1, 0, none⟩)] := q19
  rw [e0, e3, e4, e19]
  clear q0 q2 q3 q4 q19 e0 e3 e4 e19 hs1 hF hB2 hX2 hB4 hW
  generalize u 1 = u1
  generalize u 2 = u2
  generalize u 5 = u5
  generalize u 6 = u6
  generalize u 7 = u7
  generalize u 8 = u8
  generalize u 9 = u9
  generalize u 10 = u10
  generalize u 11 = u11
  generalize u 12 = u12
  generalize u 13 = u13
  generalize u 14 = u14
  generalize u 15 = u15
  generalize u 16 = u16
  generalize u 17 = u17
  generalize u 18 = u18
  generalize u 20 = u20
  generalize u 21 = u21
  generalize u 22 = u22
  generalize u 23 = u23
  generalize u 24 = u24
  generalize u 25 = u25
  generalize u 26 = u26
  generalize u 27 = u27
  generalize u 28 = u28
  generalize u 29 = u29
  generalize u 30 = u30
  generalize u 31 = u31
  generalize u 32 = u32
  generalize u 33 = u33
  clear u
  refine wpIn_rangeFunc_ownH rfl (by omega) (gf := 81) (lb := #[.pointer (some ⟨w2.heap.size, 0, none⟩), .pointer (some ⟨w2.heap.size + 1, 0, none⟩)]) rfl trivial (enters_of Tryz.func81 (by kernel_rfl) rfl)
    (chunk_stops L.length _ w2.heap.size (w2.heap.size + 1) g 9 (cp - 3) (by omega) (by omega) ao3 hao2 wz C1) (fun h k x => k (h x)) (fun V k o o' _ h hc _ => chunk_put V k o o' h hc) (Below.refl _ _) (fun _ => rfl)
    (Grows w b4 (IntKind.i64.wrap xb) (backN xc) (fun i : Fin L.length => recW L[i.val])) (fun c pre V => False) (grows_own w b4 (IntKind.i64.wrap xb) (backN xc) _ (by omega)) (fun _ _ _ _ _ hs _ _ => hs)
    ⟨none, 0, hRz, World.ownsRow_nil _ _ _ _, hXz, hBz⟩
    (fun x a' V => a'.tmps.size = 34 ∧ a'.tmps.getD 4 undef = .pointer (some ⟨b4, 0, none⟩) ∧ a'.tmps.getD 5 undef = .slice (some ⟨g, 9 + x.val * 15, none⟩) 5 5)
    (fun x a' s X Y row hs hg hr => hs) ?assign ?body ?done ?stop
  case assign =>
    rintro l pre x V K hi hK
    gi_wp2
    exact hK _ _ (KeepsFrom.refl _ _) (fun h => h) hi ⟨rfl, rfl, rfl⟩
  case body =>
    rintro l pre x a' V _ _ ⟨ro, rc, h1, h2, h3, hB⟩ ⟨hsz, h4, h5⟩ hlt
    have hgv := (hB.block _ hg).trans HG.out
    have hc9 := fun k => hB.cell (p := ⟨g, k, none⟩) hg
    obtain ⟨y0, y1, y2, y3, y4⟩ := HM.out x.val x.isLt
    refine rp_body (r := L[x.val]) (by kernel_rfl) ?lets a' V hsz h4 h5 h1 h2 hB.size (by omega) (Nat.lt_of_lt_of_le hg hB.size) (fun e => row_type h2 e hgv (by decide)) ((hc9 _).trans y0) ((hc9 _).trans y1) ((hc9 _).trans y2) ((hc9 _).trans y3) ((hc9 _).trans y4) ?_
    case lets => exact fun h => h.elim fun _ h => h.elim fun _ h => h
    intro a9 w9 ro2 rc2 g1 g2 g3
    have hne : ∀ (i : Nat) (o : Obj), V.heap[i]? = some o → (o.isCells = false ∨ ∃ c t, o = .cells c t (0, 0) ∧ t ≠ tRc ∧ i ≠ b4) → ¬ (i = b4 ∨ (Value.slice ro pre.length rc).ownBlock = some i) := by
      rintro i o ho h (rfl | e)
      · rcases h with h | ⟨c, t, rfl, _, h⟩
        · rw [h1] at ho
          cases ho
          cases h
        · exact h rfl
      · rcases h with h | ⟨c, t, rfl, h, _⟩
        · rcases h2.2 with ⟨h5, _⟩ | ⟨g5, cap, cur, h5, _, h6, _⟩
          · rw [h5] at e; cases e
          · rw [h5] at e
            obtain rfl : g5 = i := by simpa [Value.ownBlock] using e
            rw [h6] at ho
            cases ho
            cases h
        · exact row_type h2 e ho h
    have typ : ∀ {i : Nat} {c : Array Value} {t : TypeId}, V.heap[i]? = some (.cells c t (0, 0)) → t ≠ tRp → i ≠ b4 := by
      intro i c t hi ht e
      subst e
      rw [h1] at hi
      injection hi with hi
      injection hi with _ h8 _
      exact ht h8.symm
    show KeepsFrom _ _ _ ∧ _ ∧ Grows _ _ _ _ _ _ _
    refine ⟨⟨g3.size, fun i o _ hi ho => g3.at hi (hne i o hi (.inl ho))⟩, fun hC => ⟨g3.at hC.1 (hne _ _ hC.1 (.inr ⟨_, _, rfl, by decide, typ hC.1 (by decide)⟩)), g3.at hC.2 (hne _ _ hC.2 (.inr ⟨_, _, rfl, by decide, typ hC.2 (by decide)⟩))⟩, ro2, rc2, ?_, ?_, ?_, ?_⟩
    · rw [List.length_append]
      exact g1
    · rw [List.length_append, List.map_append, rcCells_append]
      exact g2
    · exact g3.at h3 (hne _ _ h3 (.inr ⟨_, _, rfl, by decide, by omega⟩))
    · refine hB.trans (g3.toBelow hB.size fun i hi h => ?_)
      rcases h with rfl | e
      · omega
      · have := (h2.lt i e).1
        omega
  case done =>
    rintro D ys V hD rfl ⟨ro, rc, h1, h2, h3, hB⟩ hK
    rw [fin_map] at h2
    rw [List.length_finRange] at h1 h2
    have hc9 := fun k => hB.cell (p := ⟨g, k, none⟩) hg
    gi_wp2
    rename_i Kp hKp
    refine wpIn_wide.2 ?_
    refine rp_r5 (by kernel_rfl) _ rfl rfl rfl rfl (by omega) (Nat.lt_of_lt_of_le hg hB.size) ((hc9 _).trans HY.out.1) h1 h3 (by omega) (by omega) fun a9 w9 hs9 hd9 p2 p3 hR9 hT9 => hKp _ _ ?_
    clear hKp
    have hK9 := hT9.at hK (fun e => by subst e; rw [h3] at hK; cases hK)
    have hB9 : Below w.heap.size w w9 := hB.trans (hT9.toBelow hB.size fun i hi e => by omega)
    have h29 := hT9.row h2 (fun i e e2 => row_type h2 (e2 ▸ e) h3 (by decide))
    obtain ⟨t9, d9⟩ := a9
    obtain ⟨u, hu⟩ := frame_rp t9 hs9
    simp only at hd9 p2 p3
    subst hu hd9
    have e2 : u 2 = .int .i64 (IntKind.i64.wrap xa) := p2
    have e3 : u 3 = .pointer (some ⟨w.heap.size, 0, none⟩) := p3
    rw [e2, e3]
    clear p2 p3 e2 e3 hs9
    generalize u 0 = k0
    generalize u 1 = k1
    generalize u 4 = k4
    generalize u 5 = k5
    generalize u 6 = k6
    generalize u 7 = k7
    generalize u 8 = k8
    generalize u 9 = k9
    generalize u 10 = k10
    generalize u 11 = k11
    generalize u 12 = k12
    generalize u 13 = k13
    generalize u 14 = k14
    generalize u 15 = k15
    generalize u 16 = k16
    generalize u 17 = k17
    generalize u 18 = k18
    generalize u 19 = k19
    generalize u 20 = k20
    generalize u 21 = k21
    generalize u 22 = k22
    generalize u 23 = k23
    generalize u 24 = k24
    generalize u 25 = k25
    generalize u 26 = k26
    generalize u 27 = k27
    generalize u 28 = k28
    generalize u 29 = k29
    generalize u 30 = k30
    generalize u 31 = k31
    generalize u 32 = k32
    generalize u 33 = k33
    clear u
    gi_wp2
    refine ⟨by simp, .inl ⟨_, _, rfl, run_takeDeferred hK9, ?_⟩⟩
    have hR8 := put_keeps (o2 := .deferred none) hK9 hR9 rfl
    have z0 := box_cell hR8 0 rfl
    have z1 := box_cell hR8 1 rfl
    have z2 := box_cell hR8 2 rfl
    refine ⟨.tuple #[.int .i64 (IntKind.i64.wrap xa), .agg #[.int .i64 (IntKind.i64.wrap xb), .int .i64 (backN xc), .slice ro L.length rc]], ?res, ro, rc, rfl, ownsRow_putObj h29 _ hK9 rfl, below_put hB9 (by omega) hK9⟩
    case res => simp [results, Tryz.results35, go_sem, z0, z1, z2]
  case stop =>
    rintro D c pre V hD hpre h hK
    exact h.elim
end Go.Proofs.YtoolbbibnegdnaaGreatDoor
