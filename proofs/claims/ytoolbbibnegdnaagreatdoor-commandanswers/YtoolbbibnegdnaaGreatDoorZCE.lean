/-
  recordItems, replyItems (mkcc.py)
-/
import Derived.Test.YtoolbbibnegdnaaGreatDoorZHC
import Derived.Test.YtoolbbibnegdnaaGreatDoorZKAppI
import Derived.Test.YtoolbbibnegdnaaGreatDoorZGF
import Derived.Test.YtoolbbibnegdnaaGreatDoorZHA
import Derived.OwnWalk
namespace Go.Proofs.YtoolbbibnegdnaaGreatDoor
open Go.RowKit

attribute [local go_sem ↓] Go.wp_at_zero Go.wp_at_succ
set_option linter.unusedSimpArgs false
set_option linter.unusedVariables false
set_option maxRecDepth 100000 in
theorem frame_ri (t : Array Value) (h : t.size = 33) : ∃ u : Nat → Value, t = List.toArray (u 0 :: u 1 :: u 2 :: u 3 :: u 4 :: u 5 :: u 6 :: u 7 :: u 8 :: u 9 :: u 10 :: u 11 :: u 12 :: u 13 :: u 14 :: u 15 :: u 16 :: u 17 :: u 18 :: u 19 :: u 20 :: u 21 :: u 22 :: u 23 :: u 24 :: u 25 :: u 26 :: u 27 :: u 28 :: u 29 :: u 30 :: u 31 :: u 32 :: []) := by
  refine ⟨fun i => t.getD i undef, ?_⟩
  have e : (List.toArray ((fun i => t.getD i undef) 0 :: (fun i => t.getD i undef) 1 :: (fun i => t.getD i undef) 2 :: (fun i => t.getD i undef) 3 :: (fun i => t.getD i undef) 4 :: (fun i => t.getD i undef) 5 :: (fun i => t.getD i undef) 6 :: (fun i => t.getD i undef) 7 :: (fun i => t.getD i undef) 8 :: (fun i => t.getD i undef) 9 :: (fun i => t.getD i undef) 10 :: (fun i => t.getD i undef) 11 :: (fun i => t.getD i undef) 12 :: (fun i => t.getD i undef) 13 :: (fun i => t.getD i undef) 14 :: (fun i => t.getD i undef) 15 :: (fun i => t.getD i undef) 16 :: (fun i => t.getD i undef) 17 :: (fun i => t.getD i undef) 18 :: (fun i => t.getD i undef) 19 :: (fun i => t.getD i undef) 20 :: (fun i => t.getD i undef) 21 :: (fun i => t.getD i undef) 22 :: (fun i => t.getD i undef) 23 :: (fun i => t.getD i undef) 24 :: (fun i => t.getD i undef) 25 :: (fun i => t.getD i undef) 26 :: (fun i => t.getD i undef) 27 :: (fun i => t.getD i undef) 28 :: (fun i => t.getD i undef) 29 :: (fun i => t.getD i undef) 30 :: (fun i => t.getD i undef) 31 :: (fun i => t.getD i undef) 32 :: []) : Array Value) = ((List.range 33).map fun i => t.getD i undef).toArray := rfl
  refine Eq.trans ?_ e.symm
  apply Array.ext
  · simp [h]
  · intro k h1 h2
    simp [Array.getD, h1]
/-- The slots that matter. -/
structure Vri where
  v0 : Value
  v3 : Value
  v5 : Value
structure Fri (a : Act) (v : Vri) : Prop where
  size : a.tmps.size = 33
  defers : a.defers = []
  s0 : a.tmps.getD 0 undef = v.v0
  s3 : a.tmps.getD 3 undef = v.v3
  s5 : a.tmps.getD 5 undef = v.v5
set_option maxHeartbeats 8000000 in
set_option maxRecDepth 100000 in
theorem ri_r1 {K : Act → World → Prop} {c : Code} (hc : regOf (Tryz.f27.body.getD .skip) 1 = some c) (a : Act) {v : Vri} {wq : World} {ask code n : Int} {rb : Nat} {sv : Value} (hF : Fri a v) (h0v : v.v0 = .int .i64 ask) (h3v : v.v3 = .pointer (some ⟨rb, 0, none⟩)) (hR : wq.heap[rb]? = some (.cells #[.int .i64 code, .int .i64 n, sv] 37 (0, 0))) (a1 : 0 ≤ ask) (a2 : ask ≤ 9007199254740991) (c1 : 0 ≤ code) (c2 : code ≤ 255) (n1 : -1 ≤ n) (n2 : n ≤ 9007199254740991)
    (hQ : ∀ a' w' g, Fri a' { v with v5 := .slice (some ⟨g, 0, none⟩) 3 3 } → wq.heap.size ≤ g → w'.heap[g]? = some (.cells #[.int .i64 3, .int .u64 ask, .string ⟨#[]⟩, .int .i64 1, .int .u64 code, .string ⟨#[]⟩, .int .i64 3, .int .u64 (n + 1), .string ⟨#[]⟩] 61 (0, 0)) → Below wq.heap.size wq w' → K a' w') :
    Code.wp Tryz.prog c (Exit.then K fun _ _ _ => False) a wq := by
  have HQ := hide hQ
  clear hQ
  obtain ⟨t', d'⟩ := a
  obtain ⟨v0, v3, v5⟩ := v
  simp only at h0v h3v HQ
  subst h0v h3v
  obtain ⟨hs1, hd1, q0, q3, q5⟩ := hF
  obtain ⟨u, hu⟩ := frame_ri t' hs1
  simp only at hd1 q0 q3 q5
  subst hu hd1
  have e0 : u 0 = .int .i64 ask := q0
  have e3 : u 3 = .pointer (some ⟨rb, 0, none⟩) := q3
  have e5 : u 5 = v5 := q5
  rw [e0, e3, e5]
  clear q0 e0 q3 e3 q5 e5 hs1
  simp only [Tryz.f27, Option.getD_some, regOf] at hc
  injection hc with hc
  subst hc
  generalize u 1 = u1
  generalize u 2 = u2
  generalize u 4 = u4
  generalize u 6 = u6
  generalize u 7 = u7
  generalize u 8 = u8
  generalize u 9 = u9
  generalize u 10 = u10
  generalize u 11 = u11
  generalize u 12 = u12
  generalize u 13 = u13
  generalize u 14 = u14
  generalize u 15 = u15
  generalize u 16 = u16
  generalize u 17 = u17
  generalize u 18 = u18
  generalize u 19 = u19
  generalize u 20 = u20
  generalize u 21 = u21
  generalize u 22 = u22
  generalize u 23 = u23
  generalize u 24 = u24
  generalize u 25 = u25
  generalize u 26 = u26
  generalize u 27 = u27
  generalize u 28 = u28
  generalize u 29 = u29
  generalize u 30 = u30
  generalize u 31 = u31
  generalize u 32 = u32
  clear u
  have WK : Hid (IntKind.u64.wrap ask = ask ∧ IntKind.u64.wrap code = code) := ⟨by rw [IntKind.wrap_u64]; omega, by rw [IntKind.wrap_u64]; omega⟩
  refine wp_region_phi (by kernel_rfl) (ns := 33) (uses := (fun i => match i with | 0 => [8] | 1 => [9] | 2 => [10] | 3 => [11] | 4 => [12] | 5 => [13] | 6 => [14] | 7 => [15] | 8 => [16] | 9 => [17] | 10 => [18] | 11 => [19] | 12 => [5] | _ => [])) (by kernel_rfl) (by kernel_rfl) (fun _ w w' => Below w.heap.size w w') (fun w => Below wq.heap.size wq w) (fun _ _ _ h r => h.trans (r.mono h.size)) ((Below.refl _ _).drew) (fun i => match i with | 0 => fun s w => s 8 = .int .i64 ask | 1 => fun s w => s 9 = .int .u64 (IntKind.u64.wrap ask) | 2 => fun s w => s 10 = .agg #[.int .i64 3, .int .u64 (IntKind.u64.wrap ask), .string ⟨#[]⟩] | 3 => fun s w => s 11 = .pointer (some ⟨rb, 0, none⟩) | 4 => fun s w => s 12 = .int .i64 code | 5 => fun s w => s 13 = .int .u64 (IntKind.u64.wrap code) | 6 => fun s w => s 14 = .agg #[.int .i64 1, .int .u64 (IntKind.u64.wrap code), .string ⟨#[]⟩] | 7 => fun s w => s 15 = .pointer (some ⟨rb, 1, none⟩) | 8 => fun s w => s 16 = .int .i64 n | 9 => fun s w => s 17 = .int .u64 (n + 1) | 10 => fun s w => s 18 = .agg #[.int .i64 3, .int .u64 (n + 1), .string ⟨#[]⟩] | 11 => fun s w => ∃ g, s 19 = .slice (some ⟨g, 0, none⟩) 3 3 ∧ wq.heap.size ≤ g ∧ w.heap[g]? = some (.cells #[.int .i64 3, .int .u64 (IntKind.u64.wrap ask), .string ⟨#[]⟩, .int .i64 1, .int .u64 (IntKind.u64.wrap code), .string ⟨#[]⟩, .int .i64 3, .int .u64 (n + 1), .string ⟨#[]⟩] 61 (0, 0)) | 12 => fun s w => ∃ g, s 5 = .slice (some ⟨g, 0, none⟩) 3 3 ∧ wq.heap.size ≤ g ∧ w.heap[g]? = some (.cells #[.int .i64 3, .int .u64 (IntKind.u64.wrap ask), .string ⟨#[]⟩, .int .i64 1, .int .u64 (IntKind.u64.wrap code), .string ⟨#[]⟩, .int .i64 3, .int .u64 (n + 1), .string ⟨#[]⟩] 61 (0, 0)) | _ => fun _ _ => True) ?phc ?phh ?pstep ?pdone
  case phc =>
    intro i s s' w hx h
    match i, hx, h with
    | 0, hx, h =>
      have e8 := hx 8 (by simp)
      first | exact (show _ from by simp only [← e8] at *; exact h) | (simp only [e8] at h; exact h)
    | 1, hx, h =>
      have e9 := hx 9 (by simp)
      first | exact (show _ from by simp only [← e9] at *; exact h) | (simp only [e9] at h; exact h)
    | 2, hx, h =>
      have e10 := hx 10 (by simp)
      first | exact (show _ from by simp only [← e10] at *; exact h) | (simp only [e10] at h; exact h)
    | 3, hx, h =>
      have e11 := hx 11 (by simp)
      first | exact (show _ from by simp only [← e11] at *; exact h) | (simp only [e11] at h; exact h)
    | 4, hx, h =>
      have e12 := hx 12 (by simp)
      first | exact (show _ from by simp only [← e12] at *; exact h) | (simp only [e12] at h; exact h)
    | 5, hx, h =>
      have e13 := hx 13 (by simp)
      first | exact (show _ from by simp only [← e13] at *; exact h) | (simp only [e13] at h; exact h)
    | 6, hx, h =>
      have e14 := hx 14 (by simp)
      first | exact (show _ from by simp only [← e14] at *; exact h) | (simp only [e14] at h; exact h)
    | 7, hx, h =>
      have e15 := hx 15 (by simp)
      first | exact (show _ from by simp only [← e15] at *; exact h) | (simp only [e15] at h; exact h)
    | 8, hx, h =>
      have e16 := hx 16 (by simp)
      first | exact (show _ from by simp only [← e16] at *; exact h) | (simp only [e16] at h; exact h)
    | 9, hx, h =>
      have e17 := hx 17 (by simp)
      first | exact (show _ from by simp only [← e17] at *; exact h) | (simp only [e17] at h; exact h)
    | 10, hx, h =>
      have e18 := hx 18 (by simp)
      first | exact (show _ from by simp only [← e18] at *; exact h) | (simp only [e18] at h; exact h)
    | 11, hx, h =>
      have e19 := hx 19 (by simp)
      first | exact (show _ from by simp only [← e19] at *; exact h) | (simp only [e19] at h; exact h)
    | 12, hx, h =>
      have e5 := hx 5 (by simp)
      first | exact (show _ from by simp only [← e5] at *; exact h) | (simp only [e5] at h; exact h)
    | (n + 13), _, h => exact h
  case phh =>
    intro i j s w w' hij h hb r
    match i, hij, h with
    | 0, hij, h =>
      exact h
    | 1, hij, h =>
      exact h
    | 2, hij, h =>
      exact h
    | 3, hij, h =>
      exact h
    | 4, hij, h =>
      exact h
    | 5, hij, h =>
      exact h
    | 6, hij, h =>
      exact h
    | 7, hij, h =>
      exact h
    | 8, hij, h =>
      exact h
    | 9, hij, h =>
      exact h
    | 10, hij, h =>
      exact h
    | 11, hij, h =>
      obtain ⟨g, h1, h0, h2⟩ := h
      exact ⟨g, h1, h0, (r.block _ (heap_lt h2)).trans h2⟩
    | 12, hij, h =>
      obtain ⟨g, h1, h0, h2⟩ := h
      exact ⟨g, h1, h0, (r.block _ (heap_lt h2)).trans h2⟩
    | (n + 13), _, h => exact h
  case pstep =>
    intro i o ho a' w' hsa hb hd
    match i, ho with
    | 0, ho =>
      obtain rfl := Option.some.inj ho
      try dsimp only at hd
      have g0 : a'.tmps.getD 0 undef = .int .i64 ask := hsa.rest 0 (by rfl)
      refine wpOp_of rfl rfl ?_
      refine op_run (v := .int .i64 ask) (w' := w') ?_ ⟨_, rfl, ?_, ?_⟩
      · simp only [execOp, Act.eval, List.map_toArray, List.map_cons, List.map_nil, g0]; first | (go_simp; done) | rfl
      · try dsimp only
        exact (slots_put (ns := 33) (hsa.size.trans rfl) (by decide))
      · exact Below.refl _ _
    | 1, ho =>
      obtain rfl := Option.some.inj ho
      try dsimp only at hd
      have d0 : a'.tmps.getD 8 undef = .int .i64 ask := hd 0 (by rfl)
      refine wpOp_of rfl rfl ?_
      refine op_run (v := .int .u64 (IntKind.u64.wrap ask)) (w' := w') ?_ ⟨_, rfl, ?_, ?_⟩
      · simp only [execOp, Act.eval, List.map_toArray, List.map_cons, List.map_nil, d0]; first | (go_simp; done) | rfl
      · try dsimp only
        exact (slots_put (ns := 33) (hsa.size.trans rfl) (by decide))
      · exact Below.refl _ _
    | 2, ho =>
      obtain rfl := Option.some.inj ho
      try dsimp only at hd
      have d1 : a'.tmps.getD 9 undef = .int .u64 (IntKind.u64.wrap ask) := hd 1 (by rfl)
      refine wpOp_of rfl rfl ?_
      refine op_run (v := .agg #[.int .i64 3, .int .u64 (IntKind.u64.wrap ask), .string ⟨#[]⟩]) (w' := w') ?_ ⟨_, rfl, ?_, ?_⟩
      · simp only [execOp, Act.eval, List.map_toArray, List.map_cons, List.map_nil, d1]; first | (go_simp; done) | rfl
      · try dsimp only
        exact (slots_put (ns := 33) (hsa.size.trans rfl) (by decide))
      · exact Below.refl _ _
    | 3, ho =>
      obtain rfl := Option.some.inj ho
      try dsimp only at hd
      have g3 : a'.tmps.getD 3 undef = .pointer (some ⟨rb, 0, none⟩) := hsa.rest 3 (by rfl)
      refine wpOp_of rfl rfl ?_
      refine op_run (v := .pointer (some ⟨rb, 0, none⟩)) (w' := w') ?_ ⟨_, rfl, ?_, ?_⟩
      · simp only [execOp, Act.eval, List.map_toArray, List.map_cons, List.map_nil, g3]; first | (go_simp; done) | rfl
      · try dsimp only
        exact (slots_put (ns := 33) (hsa.size.trans rfl) (by decide))
      · exact Below.refl _ _
    | 4, ho =>
      obtain rfl := Option.some.inj ho
      try dsimp only at hd
      have d3 : a'.tmps.getD 11 undef = .pointer (some ⟨rb, 0, none⟩) := hd 3 (by rfl)
      have y0 : w'.cell? ⟨rb, 0, none⟩ = some (.int .i64 code) := (hb.cell (p := ⟨rb, 0, none⟩) (heap_lt hR)).trans (box_cell hR 0 rfl)
      refine wpOp_of rfl rfl ?_
      refine op_run (v := .int .i64 code) (w' := w') ?_ ⟨_, rfl, ?_, ?_⟩
      · simp only [execOp, Act.eval, List.map_toArray, List.map_cons, List.map_nil, d3, y0]; first | (go_simp; done) | rfl
      · try dsimp only
        exact (slots_put (ns := 33) (hsa.size.trans rfl) (by decide))
      · exact Below.refl _ _
    | 5, ho =>
      obtain rfl := Option.some.inj ho
      try dsimp only at hd
      have d4 : a'.tmps.getD 12 undef = .int .i64 code := hd 4 (by rfl)
      refine wpOp_of rfl rfl ?_
      refine op_run (v := .int .u64 (IntKind.u64.wrap code)) (w' := w') ?_ ⟨_, rfl, ?_, ?_⟩
      · simp only [execOp, Act.eval, List.map_toArray, List.map_cons, List.map_nil, d4]; first | (go_simp; done) | rfl
      · try dsimp only
        exact (slots_put (ns := 33) (hsa.size.trans rfl) (by decide))
      · exact Below.refl _ _
    | 6, ho =>
      obtain rfl := Option.some.inj ho
      try dsimp only at hd
      have d5 : a'.tmps.getD 13 undef = .int .u64 (IntKind.u64.wrap code) := hd 5 (by rfl)
      refine wpOp_of rfl rfl ?_
      refine op_run (v := .agg #[.int .i64 1, .int .u64 (IntKind.u64.wrap code), .string ⟨#[]⟩]) (w' := w') ?_ ⟨_, rfl, ?_, ?_⟩
      · simp only [execOp, Act.eval, List.map_toArray, List.map_cons, List.map_nil, d5]; first | (go_simp; done) | rfl
      · try dsimp only
        exact (slots_put (ns := 33) (hsa.size.trans rfl) (by decide))
      · exact Below.refl _ _
    | 7, ho =>
      obtain rfl := Option.some.inj ho
      try dsimp only at hd
      have g3 : a'.tmps.getD 3 undef = .pointer (some ⟨rb, 0, none⟩) := hsa.rest 3 (by rfl)
      refine wpOp_of rfl rfl ?_
      refine op_run (v := .pointer (some ⟨rb, 1, none⟩)) (w' := w') ?_ ⟨_, rfl, ?_, ?_⟩
      · simp only [execOp, Act.eval, List.map_toArray, List.map_cons, List.map_nil, g3]; first | (go_simp; done) | rfl
      · try dsimp only
        exact (slots_put (ns := 33) (hsa.size.trans rfl) (by decide))
      · exact Below.refl _ _
    | 8, ho =>
      obtain rfl := Option.some.inj ho
      try dsimp only at hd
      have d7 : a'.tmps.getD 15 undef = .pointer (some ⟨rb, 1, none⟩) := hd 7 (by rfl)
      have y1 : w'.cell? ⟨rb, 1, none⟩ = some (.int .i64 n) := (hb.cell (p := ⟨rb, 1, none⟩) (heap_lt hR)).trans (box_cell hR 1 rfl)
      refine wpOp_of rfl rfl ?_
      refine op_run (v := .int .i64 n) (w' := w') ?_ ⟨_, rfl, ?_, ?_⟩
      · simp only [execOp, Act.eval, List.map_toArray, List.map_cons, List.map_nil, d7, y1]; first | (go_simp; done) | rfl
      · try dsimp only
        exact (slots_put (ns := 33) (hsa.size.trans rfl) (by decide))
      · exact Below.refl _ _
    | 9, ho =>
      obtain rfl := Option.some.inj ho
      try dsimp only at hd
      have d8 : a'.tmps.getD 16 undef = .int .i64 n := hd 8 (by rfl)
      refine wpOp_of rfl rfl ?_
      refine op_call 41 _ _ rfl (enters_of Tryz.func41 (by kernel_rfl) rfl) [.int .i64 n] (by simp only [List.map, Act.eval, d8]) (pmoved n n1 n2 w') ?_
      rintro e w'' ⟨rfl, rfl⟩
      refine ⟨_, rfl, _, rfl, ?_, ?_⟩
      · try dsimp only
        exact (slots_put (ns := 33) (hsa.size.trans rfl) (by decide))
      · exact Below.refl _ _
    | 10, ho =>
      obtain rfl := Option.some.inj ho
      try dsimp only at hd
      have d9 : a'.tmps.getD 17 undef = .int .u64 (n + 1) := hd 9 (by rfl)
      refine wpOp_of rfl rfl ?_
      refine op_run (v := .agg #[.int .i64 3, .int .u64 (n + 1), .string ⟨#[]⟩]) (w' := w') ?_ ⟨_, rfl, ?_, ?_⟩
      · simp only [execOp, Act.eval, List.map_toArray, List.map_cons, List.map_nil, d9]; first | (go_simp; done) | rfl
      · try dsimp only
        exact (slots_put (ns := 33) (hsa.size.trans rfl) (by decide))
      · exact Below.refl _ _
    | 11, ho =>
      obtain rfl := Option.some.inj ho
      try dsimp only at hd
      have d2 : a'.tmps.getD 10 undef = .agg #[.int .i64 3, .int .u64 (IntKind.u64.wrap ask), .string ⟨#[]⟩] := hd 2 (by rfl)
      have d6 : a'.tmps.getD 14 undef = .agg #[.int .i64 1, .int .u64 (IntKind.u64.wrap code), .string ⟨#[]⟩] := hd 6 (by rfl)
      have d10 : a'.tmps.getD 18 undef = .agg #[.int .i64 3, .int .u64 (n + 1), .string ⟨#[]⟩] := hd 10 (by rfl)
      refine wpOp_of rfl rfl ?_
      refine op_run (v := Value.slice (some ⟨w'.heap.size, 0, none⟩) 3 3) (w' := w'.alloc (.cells #[.int .i64 3, .int .u64 (IntKind.u64.wrap ask), .string ⟨#[]⟩, .int .i64 1, .int .u64 (IntKind.u64.wrap code), .string ⟨#[]⟩, .int .i64 3, .int .u64 (n + 1), .string ⟨#[]⟩] 61)) ?_ ⟨_, rfl, ?_, ?_⟩
      · simp only [execOp, Act.eval, List.map_toArray, List.map_cons, List.map_nil, d2, d6, d10]; first | (go_simp; done) | rfl
      · try dsimp only
        exact ⟨_, (slots_put (ns := 33) (hsa.size.trans rfl) (by decide)), hb.size, heap_alloc_new _ _⟩
      · exact (Below.refl _ _).alloc (Nat.le_refl _) _
    | 12, ho =>
      obtain rfl := Option.some.inj ho
      try dsimp only at hd
      have d11 : ∃ g, a'.tmps.getD 19 undef = .slice (some ⟨g, 0, none⟩) 3 3 ∧ wq.heap.size ≤ g ∧ w'.heap[g]? = some (.cells #[.int .i64 3, .int .u64 (IntKind.u64.wrap ask), .string ⟨#[]⟩, .int .i64 1, .int .u64 (IntKind.u64.wrap code), .string ⟨#[]⟩, .int .i64 3, .int .u64 (n + 1), .string ⟨#[]⟩] 61 (0, 0)) := hd 11 (by rfl)
      obtain ⟨g, d11, h0, h2⟩ := d11
      refine wpOp_of rfl rfl ?_
      refine op_run (v := .slice (some ⟨g, 0, none⟩) 3 3) (w' := w') ?_ ⟨_, rfl, ?_, ?_⟩
      · simp only [execOp, Act.eval, List.map_toArray, List.map_cons, List.map_nil, d11]; first | (go_simp; done) | rfl
      · try dsimp only
        exact ⟨g, (slots_put (ns := 33) (hsa.size.trans rfl) (by decide)), h0, h2⟩
      · exact Below.refl _ _
    | (n + 13), ho => exact absurd ho (by simp)
  case pdone =>
    intro a' w' hsa hb hd
    have d0 : a'.tmps.getD 8 undef = .int .i64 ask := hd 0 (by decide)
    have d1 : a'.tmps.getD 9 undef = .int .u64 (IntKind.u64.wrap ask) := hd 1 (by decide)
    have d2 : a'.tmps.getD 10 undef = .agg #[.int .i64 3, .int .u64 (IntKind.u64.wrap ask), .string ⟨#[]⟩] := hd 2 (by decide)
    have d3 : a'.tmps.getD 11 undef = .pointer (some ⟨rb, 0, none⟩) := hd 3 (by decide)
    have d4 : a'.tmps.getD 12 undef = .int .i64 code := hd 4 (by decide)
    have d5 : a'.tmps.getD 13 undef = .int .u64 (IntKind.u64.wrap code) := hd 5 (by decide)
    have d6 : a'.tmps.getD 14 undef = .agg #[.int .i64 1, .int .u64 (IntKind.u64.wrap code), .string ⟨#[]⟩] := hd 6 (by decide)
    have d7 : a'.tmps.getD 15 undef = .pointer (some ⟨rb, 1, none⟩) := hd 7 (by decide)
    have d8 : a'.tmps.getD 16 undef = .int .i64 n := hd 8 (by decide)
    have d9 : a'.tmps.getD 17 undef = .int .u64 (n + 1) := hd 9 (by decide)
    have d10 : a'.tmps.getD 18 undef = .agg #[.int .i64 3, .int .u64 (n + 1), .string ⟨#[]⟩] := hd 10 (by decide)
    have d11 : ∃ g, a'.tmps.getD 19 undef = .slice (some ⟨g, 0, none⟩) 3 3 ∧ wq.heap.size ≤ g ∧ w'.heap[g]? = some (.cells #[.int .i64 3, .int .u64 (IntKind.u64.wrap ask), .string ⟨#[]⟩, .int .i64 1, .int .u64 (IntKind.u64.wrap code), .string ⟨#[]⟩, .int .i64 3, .int .u64 (n + 1), .string ⟨#[]⟩] 61 (0, 0)) := hd 11 (by decide)
    have d12 : ∃ g, a'.tmps.getD 5 undef = .slice (some ⟨g, 0, none⟩) 3 3 ∧ wq.heap.size ≤ g ∧ w'.heap[g]? = some (.cells #[.int .i64 3, .int .u64 (IntKind.u64.wrap ask), .string ⟨#[]⟩, .int .i64 1, .int .u64 (IntKind.u64.wrap code), .string ⟨#[]⟩, .int .i64 3, .int .u64 (n + 1), .string ⟨#[]⟩] 61 (0, 0)) := hd 12 (by decide)
    obtain ⟨g, d12, h0, h2⟩ := d12
    obtain ⟨wk, ws⟩ := WK.out
    rw [wk, ws] at h2
    exact HQ.out _ _ g ⟨hsa.size.trans rfl, hsa.defers.trans rfl, hsa.rest 0 (by rfl), hsa.rest 3 (by rfl), d12⟩ h0 h2 hb
theorem itemsR_at (W : World) (r : Rec) (b : Nat) (t : TypeId) (hb : W.heap[b]? = some (.cells #[.int .i64 3, .int .u64 r.off, .string ⟨#[]⟩, .int .i64 4, .int .u64 0, .string r.prod, .int .i64 3, .int .u64 r.seq, .string ⟨#[]⟩, .int .i64 4, .int .u64 0, .string r.key, .int .i64 4, .int .u64 0, .string r.val] t (0, 0))) : K.ItemsAt W (some ⟨b, 0, none⟩) (itemsR r) := by
  intro i hi
  have hi5 : i < 5 := hi
  have hs := (Array.getElem?_eq_some_iff.1 hb).1
  refine ⟨b, 0, rfl, hs, ?_⟩
  have hc : ∀ k, W.cell? ⟨b, k, none⟩ = (#[Value.int .i64 3, .int .u64 r.off, .string ⟨#[]⟩, .int .i64 4, .int .u64 0, .string r.prod, .int .i64 3, .int .u64 r.seq, .string ⟨#[]⟩, .int .i64 4, .int .u64 0, .string r.key, .int .i64 4, .int .u64 0, .string r.val])[k]? := fun k => by rw [Lib.cell_of_heap hb]
  rw [hc, hc, hc]
  have h5 : i = 0 ∨ i = 1 ∨ i = 2 ∨ i = 3 ∨ i = 4 := by omega
  rcases h5 with rfl | rfl | rfl | rfl | rfl <;> exact ⟨rfl, rfl, rfl⟩
set_option maxHeartbeats 2000000 in
theorem precitems (r : Rec) (hr : RightP r) (w : World) :
    Calls Tryz.prog 49 #[r.v] w fun e w' => ∃ g, e = .returned (.slice (some ⟨g, 0, none⟩) 5 5) ∧ K.ItemsAt w' (some ⟨g, 0, none⟩) (itemsR r) ∧ Below w.heap.size w w' := by
  obtain ⟨off, prod, seq, key, val⟩ := r
  obtain ⟨h1, h2, h3, h4, _⟩ := hr.out
  have w1 : IntKind.u64.wrap off = off := by rw [IntKind.wrap_u64]; omega
  have w2 : IntKind.u64.wrap seq = seq := by rw [IntKind.wrap_u64]; omega
  simp only [Rec.v] at *
  go_enter Tryz.func49, Tryz.ntmps49
  go_wp2
  go_ret
  refine ⟨w.heap.size + 1, rfl, ?_, ((Below.refl _ _).alloc (Nat.le_refl _) _).alloc (by simp) _⟩
  apply itemsR_at
  have e := heap_alloc_new (w.alloc (Obj.cells #[.int .i64 off, .string prod, .int .i64 seq, .string key, .string val] 46)) (Obj.cells #[.int .i64 3, .int .u64 off, .string ⟨#[]⟩, .int .i64 4, .int .u64 0, .string prod, .int .i64 3, .int .u64 seq, .string ⟨#[]⟩, .int .i64 4, .int .u64 0, .string key, .int .i64 4, .int .u64 0, .string val] 61)
  rw [show (w.alloc (Obj.cells #[.int .i64 off, .string prod, .int .i64 seq, .string key, .string val] 46)).heap.size = w.heap.size + 1 by simp] at e
  exact e
def headI (ask code n : Int) : List K.It := [⟨3, ask, ⟨#[]⟩⟩, ⟨1, code, ⟨#[]⟩⟩, ⟨3, n + 1, ⟨#[]⟩⟩]
theorem upto_next (h : List K.It) (l : List Rec) (k : Nat) (hk : k < l.length) : (h ++ (l.take k).flatMap itemsR) ++ itemsR l[k] = h ++ (l.take (k + 1)).flatMap itemsR := by
  rw [List.take_add_one, List.getElem?_eq_getElem hk, List.append_assoc, List.flatMap_append]
  simp
/-- The row as it grows. -/
structure RowGo (w W : World) (v : Value) (L : List K.It) : Prop where
  below : Below w.heap.size w W
  row : W.ownsRow w.heap.size 61 3 v L.length (K.itemCells L)
theorem below_grown {w W W' : World} {v : Value} {L : List K.It} (h : RowGo w W v L) (hg : W.grownBy W' v.ownBlock) : Below w.heap.size w W' :=
  ⟨hg.os.trans h.below.os, hg.tape.trans h.below.tape, hg.output.trans h.below.output, Nat.le_trans h.below.size hg.size, fun k hk => (hg.block k (Nat.lt_of_lt_of_le hk h.below.size) fun e => by have := (h.row.lt k e.symm).1; omega).trans (h.below.block k hk)⟩
set_option maxHeartbeats 8000000 in
set_option maxRecDepth 100000 in
theorem preplyitems (ask : Int) (r : RP) (ha : askOk ask) (hr : r.right) (ao : Option Addr) (cap : Nat) (w : World) (hat : RecsC w ao r.recs) :
    Calls Tryz.prog 27 #[.int .i64 ask, r.v ao cap] w fun e w' => ∃ oo oc, e = .returned (.slice oo (itemsP ask r).length oc) ∧ K.ItemsAt w' oo (itemsP ask r) ∧ Below w.heap.size w w' := by
  obtain ⟨a1, a2⟩ := ha
  obtain ⟨code, n, l⟩ := r
  obtain ⟨c1, c2, n1, n2, hlen, hrr⟩ := hr
  simp only at c1 c2 n1 n2 hlen hrr hat
  have hP : itemsP ask ⟨code, n, l⟩ = headI ask code n ++ (l.take l.length).flatMap itemsR := by rw [List.take_length]; rfl
  obtain ⟨FL, hFL⟩ : ∃ FL, itemsP ask ⟨code, n, l⟩ = FL := ⟨_, rfl⟩
  have HFL : Hid (FL = headI ask code n ++ (l.take l.length).flatMap itemsR) := by rw [← hFL]; exact hP
  rw [hFL]
  have HX := hide (heap_alloc_new w (.cells #[.int .i64 code, .int .i64 n, .slice ao l.length cap] 37))
  have HB := hide ((Below.refl w.heap.size w).alloc (Nat.le_refl _) (.cells #[.int .i64 code, .int .i64 n, .slice ao l.length cap] 37))
  have HA := hide hat
  have HR := hide (fun (k : Nat) (hk : k < l.length) => precitems l[k] (hrr _ (List.getElem_mem _)))
  have HN := hide (fun k hk => upto_next (headI ask code n) l k hk)
  generalize hh : headI ask code n = hd at *
  have HH := hide hh
  clear hat hP hrr hh hFL
  simp only [RP.v] at *
  go_enter Tryz.func27, Tryz.ntmps27
  go_upto_region 1 with fail
  rename_i Ko hKo
  generalize w.alloc (.cells #[.int .i64 code, .int .i64 n, .slice ao l.length cap] 37) = w1 at *
  refine reg_mono (ri_r1 (by kernel_rfl) _ (v := ⟨_, _, _⟩) ⟨rfl, rfl, rfl, rfl, rfl⟩ rfl rfl HX.out a1 a2 c1 c2 n1 n2 fun a' w2 g hF h0 hG hW => hKo _ _ ?_)
  clear hKo
  obtain ⟨t', d'⟩ := a'
  obtain ⟨hs1, hd1, q0, q3, q5⟩ := hF
  obtain ⟨u, hu⟩ := frame_ri t' hs1
  simp only at hd1 q0 q3 q5
  subst hu hd1
  have e0 : u 0 = .int .i64 ask := q0
  have e3 : u 3 = .pointer (some ⟨w.heap.size, 0, none⟩) := q3
  have hd3 : hd.length = 3 := by rw [← HH.out]; rfl
  have e5 : u 5 = .slice (some ⟨g, 0, none⟩) hd.length 3 := by rw [hd3]; exact q5
  rw [e0, e3, e5]
  clear q0 q3 q5 e0 e3 e5 hs1
  generalize u 1 = u1
  generalize u 2 = u2
  generalize u 4 = u4
  generalize u 6 = u6
  generalize u 7 = u7
  generalize u 8 = u8
  generalize u 9 = u9
  generalize u 10 = u10
  generalize u 11 = u11
  generalize u 12 = u12
  generalize u 13 = u13
  generalize u 14 = u14
  generalize u 15 = u15
  generalize u 16 = u16
  generalize u 17 = u17
  generalize u 18 = u18
  generalize u 19 = u19
  generalize u 20 = u20
  generalize u 21 = u21
  generalize u 22 = u22
  generalize u 23 = u23
  generalize u 24 = u24
  generalize u 25 = u25
  generalize u 26 = u26
  generalize u 27 = u27
  generalize u 28 = u28
  generalize u 29 = u29
  generalize u 30 = u30
  generalize u 31 = u31
  generalize u 32 = u32
  clear u
  have hB2 : Below w.heap.size w w2 := HB.out.trans (hW.mono HB.out.size)
  have HG : Hid (RowGo w w2 (.slice (some ⟨g, 0, none⟩) hd.length 3) hd) := by
    rw [← HH.out]
    exact ⟨hB2, ⟨rfl, .inr ⟨g, 3, _, rfl, Nat.le_trans HB.out.size h0, hG, Nat.le_refl _, by unfold maxLen; omega, rfl, rfl⟩⟩⟩
  have hx2 := (hW.block _ (heap_lt HX.out)).trans HX.out
  have y2 : w2.cell? ⟨w.heap.size, 2, none⟩ = some (.slice ao l.length cap) := box_cell hx2 2 rfl
  have HD3 := hide hd3
  clear hx2 hG h0 hB2 HX HH hd3 hW
  go_wp2
  go_loopw [5, 23] (fun v5 iv wv => ∃ (k : Nat) (L : List K.It) (oo : Option Addr) (oc : Nat), k ≤ l.length ∧ iv = .int .i64 k ∧ v5 = .slice oo L.length oc ∧ Hid (L = hd ++ (l.take k).flatMap itemsR) ∧ Hid (L.length = 3 + 5 * k) ∧ Hid (RowGo w wv (.slice oo L.length oc) L)) (fun _ iv _ => l.length - (intOf iv).toNat)
  case atStart => exact ⟨0, hd, some ⟨g, 0, none⟩, 3, Nat.zero_le _, rfl, rfl, by show _ = _; simp, HD3.out, HG⟩
  case round =>
    obtain ⟨k, L, oo, oc, hk, rfl, rfl, HL, HLn, HJ⟩ := hrel
    by_cases hlt : k < l.length
    · have hlt2 : (k : Int) < (l.length : Int) := by omega
      obtain ⟨b, off, rfl, gl, y0, y1, y2', y3, y4⟩ := (HA.out.below HJ.out.below (Nat.le_refl _)) k hlt
      have HC := hide (HR.out k hlt)
      have HS := hide (HN.out k hlt)
      have HT5 : Hid ((itemsR (l[k]'hlt)).length = 5) := rfl
      generalize l[k] = x at *
      obtain ⟨L2, hL2⟩ : ∃ L2, L ++ itemsR x = L2 := ⟨_, rfl⟩
      have HL2 : Hid (L2 = hd ++ (l.take (k + 1)).flatMap itemsR ∧ L2.length = 3 + 5 * (k + 1)) := ⟨by rw [← hL2, HL.out]; exact HS.out, by rw [← hL2, List.length_append, HLn.out, HT5.out]; omega⟩
      have HLL := hide hL2
      generalize hix : itemsR x = ix at *
      have H5 : Hid (ix.length = 5) := HT5.out
      obtain ⟨xo, xp, xs, xk, xv⟩ := x
      simp only [Rec.v] at HC y0 y1 y2' y3 y4
      have HW := hide (HJ.out.below.alloc HJ.out.below.size (.cells #[.int .i64 xo, .string xp, .int .i64 xs, .string xk, .string xv] 46))
      have HRW := hide (below_row ((Below.refl _ wr).alloc (Nat.le_refl _) (.cells #[.int .i64 xo, .string xp, .int .i64 xs, .string xk, .string xv] 46)) HJ.out.row)
      clear HJ hL2 hix HL HS HT5
      go_wp2_with fail
      refine (HC.out _).mono ?_
      rintro e w4 ⟨g4, rfl, hat4, b4⟩
      have HJ4 : Hid (RowGo w w4 (.slice oo L.length oc) L) := ⟨HW.out.trans (b4.mono HW.out.size), below_row b4 HRW.out⟩
      have HA4 := hide hat4
      clear b4 hat4 HW HRW
      go_wp2_with (at_builtin; refine K.wpList_append_items rfl _ _ rfl w.heap.size (.slice oo L.length oc) L rfl HJ4.out.row (some ⟨g4, 0, none⟩) 5 ix (by rw [H5.out]; rfl) (fun h => by cases h) HA4.out (by rw [HLn.out, H5.out]; omega) HJ4.out.below.size ?_; rw [HLL.out]; intro v' w5 h1 h2; obtain ⟨o2, cp2, rfl⟩ := row_slice h1; have HJ5 : Hid (RowGo w w5 (.slice o2 L2.length cp2) L2) := ⟨below_grown HJ4.out h2, h1⟩; clear h1 h2)
      exact ⟨⟨k + 1, L2, o2, cp2, by omega, by go_num, rfl, HL2.out.1, HL2.out.2, HJ5⟩, by simp [intOf]; omega⟩
    · have hlt2 : ¬ (k : Int) < (l.length : Int) := by omega
      obtain rfl : k = l.length := by omega
      have HJ2 := hide HJ.out
      clear HJ
      obtain rfl : L = FL := HL.out.trans HFL.out.symm
      go_wp2
      go_ret
      obtain ⟨o3, cp3, e3, hat3⟩ := K.items_of_own HJ2.out.row
      injection e3 with e4 _ e5
      subst e4 e5
      exact ⟨oo, ⟨oc, rfl⟩, hat3, HJ2.out.below⟩
end Go.Proofs.YtoolbbibnegdnaaGreatDoor
