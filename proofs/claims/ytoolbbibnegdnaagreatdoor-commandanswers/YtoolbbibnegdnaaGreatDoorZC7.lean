/-
  commandItems (mkc7.py)
-/
import Derived.Test.YtoolbbibnegdnaaGreatDoorZHB
import Derived.Test.YtoolbbibnegdnaaGreatDoorZHE
import Derived.Test.YtoolbbibnegdnaaGreatDoorZKAppI
import Derived.Test.YtoolbbibnegdnaaGreatDoorZGF
import Derived.Test.YtoolbbibnegdnaaGreatDoorZHA
namespace Go.Proofs.YtoolbbibnegdnaaGreatDoor
open Go.RowKit

attribute [local go_sem ↓] Go.wp_at_zero Go.wp_at_succ
set_option linter.unusedSimpArgs false
set_option linter.unusedVariables false
set_option maxRecDepth 100000 in
theorem frame_ci (t : Array Value) (h : t.size = 36) : ∃ u : Nat → Value, t = List.toArray (u 0 :: u 1 :: u 2 :: u 3 :: u 4 :: u 5 :: u 6 :: u 7 :: u 8 :: u 9 :: u 10 :: u 11 :: u 12 :: u 13 :: u 14 :: u 15 :: u 16 :: u 17 :: u 18 :: u 19 :: u 20 :: u 21 :: u 22 :: u 23 :: u 24 :: u 25 :: u 26 :: u 27 :: u 28 :: u 29 :: u 30 :: u 31 :: u 32 :: u 33 :: u 34 :: u 35 :: []) := by
  refine ⟨fun i => t.getD i undef, ?_⟩
  have e : (List.toArray ((fun i => t.getD i undef) 0 :: (fun i => t.getD i undef) 1 :: (fun i => t.getD i undef) 2 :: (fun i => t.getD i undef) 3 :: (fun i => t.getD i undef) 4 :: (fun i => t.getD i undef) 5 :: (fun i => t.getD i undef) 6 :: (fun i => t.getD i undef) 7 :: (fun i => t.getD i undef) 8 :: (fun i => t.getD i undef) 9 :: (fun i => t.getD i undef) 10 :: (fun i => t.getD i undef) 11 :: (fun i => t.getD i undef) 12 :: (fun i => t.getD i undef) 13 :: (fun i => t.getD i undef) 14 :: (fun i => t.getD i undef) 15 :: (fun i => t.getD i undef) 16 :: (fun i => t.getD i undef) 17 :: (fun i => t.getD i undef) 18 :: (fun i => t.getD i undef) 19 :: (fun i => t.getD i undef) 20 :: (fun i => t.getD i undef) 21 :: (fun i => t.getD i undef) 22 :: (fun i => t.getD i undef) 23 :: (fun i => t.getD i undef) 24 :: (fun i => t.getD i undef) 25 :: (fun i => t.getD i undef) 26 :: (fun i => t.getD i undef) 27 :: (fun i => t.getD i undef) 28 :: (fun i => t.getD i undef) 29 :: (fun i => t.getD i undef) 30 :: (fun i => t.getD i undef) 31 :: (fun i => t.getD i undef) 32 :: (fun i => t.getD i undef) 33 :: (fun i => t.getD i undef) 34 :: (fun i => t.getD i undef) 35 :: []) : Array Value) = ((List.range 36).map fun i => t.getD i undef).toArray := rfl
  refine Eq.trans ?_ e.symm
  apply Array.ext
  · simp [h]
  · intro k h1 h2
    simp [Array.getD, h1]
/-- The slots that matter. -/
structure Vci where
  v1 : Value
  v2 : Value
structure Fci (a : Act) (v : Vci) : Prop where
  size : a.tmps.size = 36
  defers : a.defers = []
  s1 : a.tmps.getD 1 undef = v.v1
  s2 : a.tmps.getD 2 undef = v.v2
set_option maxHeartbeats 8000000 in
set_option maxRecDepth 100000 in
theorem ci_r1 {K : Act → World → Prop} {c : Code} (hc : regOf (Tryz.f19.body.getD .skip) 1 = some c) (a : Act) {v : Vci} {wq : World} {cm : CM} {cb : Nat} (hF : Fci a v) (h1v : v.v1 = .pointer (some ⟨cb, 0, none⟩)) (hC : wq.heap[cb]? = some (.cells cm.cells 23 (0, 0))) (hS : cm.Small)
    (hQ : ∀ a' w' g, Fci a' { v with v2 := .slice (some ⟨g, 0, none⟩) 9 9 } → w'.heap[g]? = some (.cells #[.int .i64 1, .int .u64 cm.kind, .string ⟨#[]⟩, .int .i64 4, .int .u64 0, .string cm.topic, .int .i64 4, .int .u64 0, .string cm.name, .int .i64 3, .int .u64 cm.seq, .string ⟨#[]⟩, .int .i64 4, .int .u64 0, .string cm.key, .int .i64 4, .int .u64 0, .string cm.val, .int .i64 3, .int .u64 (cm.n + 1), .string ⟨#[]⟩, .int .i64 1, .int .u64 cm.node, .string ⟨#[]⟩, .int .i64 3, .int .u64 cm.ask, .string ⟨#[]⟩] 61 (0, 0)) → Below wq.heap.size wq w' → K a' w') :
    Code.wp Tryz.prog c (Exit.then K fun _ _ _ => False) a wq := by
  have HQ := hide hQ
  clear hQ
  obtain ⟨t', d'⟩ := a
  obtain ⟨v1, v2⟩ := v
  simp only at h1v HQ
  subst h1v
  obtain ⟨hs1, hd1, q1, q2⟩ := hF
  obtain ⟨u, hu⟩ := frame_ci t' hs1
  simp only at hd1 q1 q2
  subst hu hd1
  have e1 : u 1 = .pointer (some ⟨cb, 0, none⟩) := q1
  have e2 : u 2 = v2 := q2
  rw [e1, e2]
  clear q1 e1 q2 e2 hs1
  simp only [Tryz.f19, Option.getD_some, regOf] at hc
  injection hc with hc
  subst hc
  generalize u 0 = u0
  generalize u 3 = u3
  generalize u 4 = u4
  generalize u 5 = u5
  generalize u 6 = u6
  generalize u 7 = u7
  generalize u 8 = u8
  generalize u 9 = u9
  generalize u 10 = u10
  generalize u 11 = u11
  generalize u 12 = u12
  generalize u 13 = u13
  generalize u 14 = u14
  generalize u 15 = u15
  generalize u 16 = u16
  generalize u 17 = u17
  generalize u 18 = u18
  generalize u 19 = u19
  generalize u 20 = u20
  generalize u 21 = u21
  generalize u 22 = u22
  generalize u 23 = u23
  generalize u 24 = u24
  generalize u 25 = u25
  generalize u 26 = u26
  generalize u 27 = u27
  generalize u 28 = u28
  generalize u 29 = u29
  generalize u 30 = u30
  generalize u 31 = u31
  generalize u 32 = u32
  generalize u 33 = u33
  generalize u 34 = u34
  generalize u 35 = u35
  clear u
  have wk : IntKind.u64.wrap cm.kind = cm.kind := by rw [IntKind.wrap_u64]; have := hS.k1; have := hS.k2; omega
  have ws : IntKind.u64.wrap cm.seq = cm.seq := by rw [IntKind.wrap_u64]; have := hS.s1; have := hS.s2; omega
  have wo : IntKind.u64.wrap cm.node = cm.node := by rw [IntKind.wrap_u64]; have := hS.o1; have := hS.o2; omega
  have wa : IntKind.u64.wrap cm.ask = cm.ask := by rw [IntKind.wrap_u64]; have := hS.a1; have := hS.a2; omega
  have n1 := hS.n1
  have n2 := hS.n2
  clear hS
  have WK := hide (And.intro wk (And.intro ws (And.intro wo wa)))
  clear wk ws wo wa
  refine wp_region_phi (by kernel_rfl) (ns := 36) (uses := (fun i => match i with | 0 => [3] | 1 => [4] | 2 => [5] | 3 => [6] | 4 => [7] | 5 => [8] | 6 => [9] | 7 => [10] | 8 => [11] | 9 => [12] | 10 => [13] | 11 => [14] | 12 => [15] | 13 => [16] | 14 => [17] | 15 => [18] | 16 => [19] | 17 => [20] | 18 => [21] | 19 => [22] | 20 => [23] | 21 => [24] | 22 => [25] | 23 => [26] | 24 => [27] | 25 => [28] | 26 => [29] | 27 => [30] | 28 => [31] | 29 => [32] | 30 => [33] | 31 => [34] | 32 => [35] | 33 => [2] | _ => [])) (by kernel_rfl) (by kernel_rfl) (fun _ w w' => Below w.heap.size w w') (fun w => Below wq.heap.size wq w) (fun _ _ _ h r => h.trans (r.mono h.size)) ((Below.refl _ _).drew) (fun i => match i with | 0 => fun s w => s 3 = .pointer (some ⟨cb, 0, none⟩) | 1 => fun s w => s 4 = .int .i64 cm.kind | 2 => fun s w => s 5 = .int .u64 (IntKind.u64.wrap cm.kind) | 3 => fun s w => s 6 = .agg #[.int .i64 1, .int .u64 (IntKind.u64.wrap cm.kind), .string ⟨#[]⟩] | 4 => fun s w => s 7 = .pointer (some ⟨cb, 1, none⟩) | 5 => fun s w => s 8 = .string cm.topic | 6 => fun s w => s 9 = .agg #[.int .i64 4, .int .u64 0, .string cm.topic] | 7 => fun s w => s 10 = .pointer (some ⟨cb, 2, none⟩) | 8 => fun s w => s 11 = .string cm.name | 9 => fun s w => s 12 = .agg #[.int .i64 4, .int .u64 0, .string cm.name] | 10 => fun s w => s 13 = .pointer (some ⟨cb, 3, none⟩) | 11 => fun s w => s 14 = .int .i64 cm.seq | 12 => fun s w => s 15 = .int .u64 (IntKind.u64.wrap cm.seq) | 13 => fun s w => s 16 = .agg #[.int .i64 3, .int .u64 (IntKind.u64.wrap cm.seq), .string ⟨#[]⟩] | 14 => fun s w => s 17 = .pointer (some ⟨cb, 4, none⟩) | 15 => fun s w => s 18 = .string cm.key | 16 => fun s w => s 19 = .agg #[.int .i64 4, .int .u64 0, .string cm.key] | 17 => fun s w => s 20 = .pointer (some ⟨cb, 5, none⟩) | 18 => fun s w => s 21 = .string cm.val | 19 => fun s w => s 22 = .agg #[.int .i64 4, .int .u64 0, .string cm.val] | 20 => fun s w => s 23 = .pointer (some ⟨cb, 6, none⟩) | 21 => fun s w => s 24 = .int .i64 cm.n | 22 => fun s w => s 25 = .int .u64 (cm.n + 1) | 23 => fun s w => s 26 = .agg #[.int .i64 3, .int .u64 (cm.n + 1), .string ⟨#[]⟩] | 24 => fun s w => s 27 = .pointer (some ⟨cb, 7, none⟩) | 25 => fun s w => s 28 = .int .i64 cm.node | 26 => fun s w => s 29 = .int .u64 (IntKind.u64.wrap cm.node) | 27 => fun s w => s 30 = .agg #[.int .i64 1, .int .u64 (IntKind.u64.wrap cm.node), .string ⟨#[]⟩] | 28 => fun s w => s 31 = .pointer (some ⟨cb, 8, none⟩) | 29 => fun s w => s 32 = .int .i64 cm.ask | 30 => fun s w => s 33 = .int .u64 (IntKind.u64.wrap cm.ask) | 31 => fun s w => s 34 = .agg #[.int .i64 3, .int .u64 (IntKind.u64.wrap cm.ask), .string ⟨#[]⟩] | 32 => fun s w => ∃ g, s 35 = .slice (some ⟨g, 0, none⟩) 9 9 ∧ w.heap[g]? = some (.cells #[.int .i64 1, .int .u64 (IntKind.u64.wrap cm.kind), .string ⟨#[]⟩, .int .i64 4, .int .u64 0, .string cm.topic, .int .i64 4, .int .u64 0, .string cm.name, .int .i64 3, .int .u64 (IntKind.u64.wrap cm.seq), .string ⟨#[]⟩, .int .i64 4, .int .u64 0, .string cm.key, .int .i64 4, .int .u64 0, .string cm.val, .int .i64 3, .int .u64 (cm.n + 1), .string ⟨#[]⟩, .int .i64 1, .int .u64 (IntKind.u64.wrap cm.node), .string ⟨#[]⟩, .int .i64 3, .int .u64 (IntKind.u64.wrap cm.ask), .string ⟨#[]⟩] 61 (0, 0)) | 33 => fun s w => ∃ g, s 2 = .slice (some ⟨g, 0, none⟩) 9 9 ∧ w.heap[g]? = some (.cells #[.int .i64 1, .int .u64 (IntKind.u64.wrap cm.kind), .string ⟨#[]⟩, .int .i64 4, .int .u64 0, .string cm.topic, .int .i64 4, .int .u64 0, .string cm.name, .int .i64 3, .int .u64 (IntKind.u64.wrap cm.seq), .string ⟨#[]⟩, .int .i64 4, .int .u64 0, .string cm.key, .int .i64 4, .int .u64 0, .string cm.val, .int .i64 3, .int .u64 (cm.n + 1), .string ⟨#[]⟩, .int .i64 1, .int .u64 (IntKind.u64.wrap cm.node), .string ⟨#[]⟩, .int .i64 3, .int .u64 (IntKind.u64.wrap cm.ask), .string ⟨#[]⟩] 61 (0, 0)) | _ => fun _ _ => True) ?phc ?phh ?pstep ?pdone
  case phc =>
    intro i s s' w hx h
    match i, hx, h with
    | 0, hx, h =>
      have e3 := hx 3 (by simp)
      first | exact (show _ from by simp only [← e3] at *; exact h) | (simp only [e3] at h; exact h)
    | 1, hx, h =>
      have e4 := hx 4 (by simp)
      first | exact (show _ from by simp only [← e4] at *; exact h) | (simp only [e4] at h; exact h)
    | 2, hx, h =>
      have e5 := hx 5 (by simp)
      first | exact (show _ from by simp only [← e5] at *; exact h) | (simp only [e5] at h; exact h)
    | 3, hx, h =>
      have e6 := hx 6 (by simp)
      first | exact (show _ from by simp only [← e6] at *; exact h) | (simp only [e6] at h; exact h)
    | 4, hx, h =>
      have e7 := hx 7 (by simp)
      first | exact (show _ from by simp only [← e7] at *; exact h) | (simp only [e7] at h; exact h)
    | 5, hx, h =>
      have e8 := hx 8 (by simp)
      first | exact (show _ from by simp only [← e8] at *; exact h) | (simp only [e8] at h; exact h)
    | 6, hx, h =>
      have e9 := hx 9 (by simp)
      first | exact (show _ from by simp only [← e9] at *; exact h) | (simp only [e9] at h; exact h)
    | 7, hx, h =>
      have e10 := hx 10 (by simp)
      first | exact (show _ from by simp only [← e10] at *; exact h) | (simp only [e10] at h; exact h)
    | 8, hx, h =>
      have e11 := hx 11 (by simp)
      first | exact (show _ from by simp only [← e11] at *; exact h) | (simp only [e11] at h; exact h)
    | 9, hx, h =>
      have e12 := hx 12 (by simp)
      first | exact (show _ from by simp only [← e12] at *; exact h) | (simp only [e12] at h; exact h)
    | 10, hx, h =>
      have e13 := hx 13 (by simp)
      first | exact (show _ from by simp only [← e13] at *; exact h) | (simp only [e13] at h; exact h)
    | 11, hx, h =>
      have e14 := hx 14 (by simp)
      first | exact (show _ from by simp only [← e14] at *; exact h) | (simp only [e14] at h; exact h)
    | 12, hx, h =>
      have e15 := hx 15 (by simp)
      first | exact (show _ from by simp only [← e15] at *; exact h) | (simp only [e15] at h; exact h)
    | 13, hx, h =>
      have e16 := hx 16 (by simp)
      first | exact (show _ from by simp only [← e16] at *; exact h) | (simp only [e16] at h; exact h)
    | 14, hx, h =>
      have e17 := hx 17 (by simp)
      first | exact (show _ from by simp only [← e17] at *; exact h) | (simp only [e17] at h; exact h)
    | 15, hx, h =>
      have e18 := hx 18 (by simp)
      first | exact (show _ from by simp only [← e18] at *; exact h) | (simp only [e18] at h; exact h)
    | 16, hx, h =>
      have e19 := hx 19 (by simp)
      first | exact (show _ from by simp only [← e19] at *; exact h) | (simp only [e19] at h; exact h)
    | 17, hx, h =>
      have e20 := hx 20 (by simp)
      first | exact (show _ from by simp only [← e20] at *; exact h) | (simp only [e20] at h; exact h)
    | 18, hx, h =>
      have e21 := hx 21 (by simp)
      first | exact (show _ from by simp only [← e21] at *; exact h) | (simp only [e21] at h; exact h)
    | 19, hx, h =>
      have e22 := hx 22 (by simp)
      first | exact (show _ from by simp only [← e22] at *; exact h) | (simp only [e22] at h; exact h)
    | 20, hx, h =>
      have e23 := hx 23 (by simp)
      first | exact (show _ from by simp only [← e23] at *; exact h) | (simp only [e23] at h; exact h)
    | 21, hx, h =>
      have e24 := hx 24 (by simp)
      first | exact (show _ from by simp only [← e24] at *; exact h) | (simp only [e24] at h; exact h)
    | 22, hx, h =>
      have e25 := hx 25 (by simp)
      first | exact (show _ from by simp only [← e25] at *; exact h) | (simp only [e25] at h; exact h)
    | 23, hx, h =>
      have e26 := hx 26 (by simp)
      first | exact (show _ from by simp only [← e26] at *; exact h) | (simp only [e26] at h; exact h)
    | 24, hx, h =>
      have e27 := hx 27 (by simp)
      first | exact (show _ from by simp only [← e27] at *; exact h) | (simp only [e27] at h; exact h)
    | 25, hx, h =>
      have e28 := hx 28 (by simp)
      first | exact (show _ from by simp only [← e28] at *; exact h) | (simp only [e28] at h; exact h)
    | 26, hx, h =>
      have e29 := hx 29 (by simp)
      first | exact (show _ from by simp only [← e29] at *; exact h) | (simp only [e29] at h; exact h)
    | 27, hx, h =>
      have e30 := hx 30 (by simp)
      first | exact (show _ from by simp only [← e30] at *; exact h) | (simp only [e30] at h; exact h)
    | 28, hx, h =>
      have e31 := hx 31 (by simp)
      first | exact (show _ from by simp only [← e31] at *; exact h) | (simp only [e31] at h; exact h)
    | 29, hx, h =>
      have e32 := hx 32 (by simp)
      first | exact (show _ from by simp only [← e32] at *; exact h) | (simp only [e32] at h; exact h)
    | 30, hx, h =>
      have e33 := hx 33 (by simp)
      first | exact (show _ from by simp only [← e33] at *; exact h) | (simp only [e33] at h; exact h)
    | 31, hx, h =>
      have e34 := hx 34 (by simp)
      first | exact (show _ from by simp only [← e34] at *; exact h) | (simp only [e34] at h; exact h)
    | 32, hx, h =>
      have e35 := hx 35 (by simp)
      first | exact (show _ from by simp only [← e35] at *; exact h) | (simp only [e35] at h; exact h)
    | 33, hx, h =>
      have e2 := hx 2 (by simp)
      first | exact (show _ from by simp only [← e2] at *; exact h) | (simp only [e2] at h; exact h)
    | (n + 34), _, h => exact h
  case phh =>
    intro i j s w w' hij h hb r
    match i, hij, h with
    | 0, hij, h =>
      exact h
    | 1, hij, h =>
      exact h
    | 2, hij, h =>
      exact h
    | 3, hij, h =>
      exact h
    | 4, hij, h =>
      exact h
    | 5, hij, h =>
      exact h
    | 6, hij, h =>
      exact h
    | 7, hij, h =>
      exact h
    | 8, hij, h =>
      exact h
    | 9, hij, h =>
      exact h
    | 10, hij, h =>
      exact h
    | 11, hij, h =>
      exact h
    | 12, hij, h =>
      exact h
    | 13, hij, h =>
      exact h
    | 14, hij, h =>
      exact h
    | 15, hij, h =>
      exact h
    | 16, hij, h =>
      exact h
    | 17, hij, h =>
      exact h
    | 18, hij, h =>
      exact h
    | 19, hij, h =>
      exact h
    | 20, hij, h =>
      exact h
    | 21, hij, h =>
      exact h
    | 22, hij, h =>
      exact h
    | 23, hij, h =>
      exact h
    | 24, hij, h =>
      exact h
    | 25, hij, h =>
      exact h
    | 26, hij, h =>
      exact h
    | 27, hij, h =>
      exact h
    | 28, hij, h =>
      exact h
    | 29, hij, h =>
      exact h
    | 30, hij, h =>
      exact h
    | 31, hij, h =>
      exact h
    | 32, hij, h =>
      obtain ⟨g, h1, h2⟩ := h
      exact ⟨g, h1, (r.block _ (heap_lt h2)).trans h2⟩
    | 33, hij, h =>
      obtain ⟨g, h1, h2⟩ := h
      exact ⟨g, h1, (r.block _ (heap_lt h2)).trans h2⟩
    | (n + 34), _, h => exact h
  case pstep =>
    intro i o ho a' w' hsa hb hd
    match i, ho with
    | 0, ho =>
      obtain rfl := Option.some.inj ho
      try dsimp only at hd
      have g1 : a'.tmps.getD 1 undef = .pointer (some ⟨cb, 0, none⟩) := hsa.rest 1 (by rfl)
      refine wpOp_of rfl rfl ?_
      refine op_run (v := .pointer (some ⟨cb, 0, none⟩)) (w' := w') ?_ ⟨_, rfl, ?_, ?_⟩
      · simp only [execOp, Act.eval, List.map_toArray, List.map_cons, List.map_nil, g1]; first | (go_simp; done) | rfl
      · try dsimp only
        exact (slots_put (ns := 36) (hsa.size.trans rfl) (by decide))
      · exact Below.refl _ _
    | 1, ho =>
      obtain rfl := Option.some.inj ho
      try dsimp only at hd
      have d0 : a'.tmps.getD 3 undef = .pointer (some ⟨cb, 0, none⟩) := hd 0 (by rfl)
      have y0 : w'.cell? ⟨cb, 0, none⟩ = some (.int .i64 cm.kind) := (hb.cell (p := ⟨cb, 0, none⟩) (heap_lt hC)).trans (box_cell hC 0 rfl)
      refine wpOp_of rfl rfl ?_
      refine op_run (v := .int .i64 cm.kind) (w' := w') ?_ ⟨_, rfl, ?_, ?_⟩
      · simp only [execOp, Act.eval, List.map_toArray, List.map_cons, List.map_nil, d0, y0]; first | (go_simp; done) | rfl
      · try dsimp only
        exact (slots_put (ns := 36) (hsa.size.trans rfl) (by decide))
      · exact Below.refl _ _
    | 2, ho =>
      obtain rfl := Option.some.inj ho
      try dsimp only at hd
      have d1 : a'.tmps.getD 4 undef = .int .i64 cm.kind := hd 1 (by rfl)
      refine wpOp_of rfl rfl ?_
      refine op_run (v := .int .u64 (IntKind.u64.wrap cm.kind)) (w' := w') ?_ ⟨_, rfl, ?_, ?_⟩
      · simp only [execOp, Act.eval, List.map_toArray, List.map_cons, List.map_nil, d1]; first | (go_simp; done) | rfl
      · try dsimp only
        exact (slots_put (ns := 36) (hsa.size.trans rfl) (by decide))
      · exact Below.refl _ _
    | 3, ho =>
      obtain rfl := Option.some.inj ho
      try dsimp only at hd
      have d2 : a'.tmps.getD 5 undef = .int .u64 (IntKind.u64.wrap cm.kind) := hd 2 (by rfl)
      refine wpOp_of rfl rfl ?_
      refine op_run (v := .agg #[.int .i64 1, .int .u64 (IntKind.u64.wrap cm.kind), .string ⟨#[]⟩]) (w' := w') ?_ ⟨_, rfl, ?_, ?_⟩
      · simp only [execOp, Act.eval, List.map_toArray, List.map_cons, List.map_nil, d2]; first | (go_simp; done) | rfl
      · try dsimp only
        exact (slots_put (ns := 36) (hsa.size.trans rfl) (by decide))
      · exact Below.refl _ _
    | 4, ho =>
      obtain rfl := Option.some.inj ho
      try dsimp only at hd
      have g1 : a'.tmps.getD 1 undef = .pointer (some ⟨cb, 0, none⟩) := hsa.rest 1 (by rfl)
      refine wpOp_of rfl rfl ?_
      refine op_run (v := .pointer (some ⟨cb, 1, none⟩)) (w' := w') ?_ ⟨_, rfl, ?_, ?_⟩
      · simp only [execOp, Act.eval, List.map_toArray, List.map_cons, List.map_nil, g1]; first | (go_simp; done) | rfl
      · try dsimp only
        exact (slots_put (ns := 36) (hsa.size.trans rfl) (by decide))
      · exact Below.refl _ _
    | 5, ho =>
      obtain rfl := Option.some.inj ho
      try dsimp only at hd
      have d4 : a'.tmps.getD 7 undef = .pointer (some ⟨cb, 1, none⟩) := hd 4 (by rfl)
      have y1 : w'.cell? ⟨cb, 1, none⟩ = some (.string cm.topic) := (hb.cell (p := ⟨cb, 1, none⟩) (heap_lt hC)).trans (box_cell hC 1 rfl)
      refine wpOp_of rfl rfl ?_
      refine op_run (v := .string cm.topic) (w' := w') ?_ ⟨_, rfl, ?_, ?_⟩
      · simp only [execOp, Act.eval, List.map_toArray, List.map_cons, List.map_nil, d4, y1]; first | (go_simp; done) | rfl
      · try dsimp only
        exact (slots_put (ns := 36) (hsa.size.trans rfl) (by decide))
      · exact Below.refl _ _
    | 6, ho =>
      obtain rfl := Option.some.inj ho
      try dsimp only at hd
      have d5 : a'.tmps.getD 8 undef = .string cm.topic := hd 5 (by rfl)
      refine wpOp_of rfl rfl ?_
      refine op_run (v := .agg #[.int .i64 4, .int .u64 0, .string cm.topic]) (w' := w') ?_ ⟨_, rfl, ?_, ?_⟩
      · simp only [execOp, Act.eval, List.map_toArray, List.map_cons, List.map_nil, d5]; first | (go_simp; done) | rfl
      · try dsimp only
        exact (slots_put (ns := 36) (hsa.size.trans rfl) (by decide))
      · exact Below.refl _ _
    | 7, ho =>
      obtain rfl := Option.some.inj ho
      try dsimp only at hd
      have g1 : a'.tmps.getD 1 undef = .pointer (some ⟨cb, 0, none⟩) := hsa.rest 1 (by rfl)
      refine wpOp_of rfl rfl ?_
      refine op_run (v := .pointer (some ⟨cb, 2, none⟩)) (w' := w') ?_ ⟨_, rfl, ?_, ?_⟩
      · simp only [execOp, Act.eval, List.map_toArray, List.map_cons, List.map_nil, g1]; first | (go_simp; done) | rfl
      · try dsimp only
        exact (slots_put (ns := 36) (hsa.size.trans rfl) (by decide))
      · exact Below.refl _ _
    | 8, ho =>
      obtain rfl := Option.some.inj ho
      try dsimp only at hd
      have d7 : a'.tmps.getD 10 undef = .pointer (some ⟨cb, 2, none⟩) := hd 7 (by rfl)
      have y2 : w'.cell? ⟨cb, 2, none⟩ = some (.string cm.name) := (hb.cell (p := ⟨cb, 2, none⟩) (heap_lt hC)).trans (box_cell hC 2 rfl)
      refine wpOp_of rfl rfl ?_
      refine op_run (v := .string cm.name) (w' := w') ?_ ⟨_, rfl, ?_, ?_⟩
      · simp only [execOp, Act.eval, List.map_toArray, List.map_cons, List.map_nil, d7, y2]; first | (go_simp; done) | rfl
      · try dsimp only
        exact (slots_put (ns := 36) (hsa.size.trans rfl) (by decide))
      · exact Below.refl _ _
    | 9, ho =>
      obtain rfl := Option.some.inj ho
      try dsimp only at hd
      have d8 : a'.tmps.getD 11 undef = .string cm.name := hd 8 (by rfl)
      refine wpOp_of rfl rfl ?_
      refine op_run (v := .agg #[.int .i64 4, .int .u64 0, .string cm.name]) (w' := w') ?_ ⟨_, rfl, ?_, ?_⟩
      · simp only [execOp, Act.eval, List.map_toArray, List.map_cons, List.map_nil, d8]; first | (go_simp; done) | rfl
      · try dsimp only
        exact (slots_put (ns := 36) (hsa.size.trans rfl) (by decide))
      · exact Below.refl _ _
    | 10, ho =>
      obtain rfl := Option.some.inj ho
      try dsimp only at hd
      have g1 : a'.tmps.getD 1 undef = .pointer (some ⟨cb, 0, none⟩) := hsa.rest 1 (by rfl)
      refine wpOp_of rfl rfl ?_
      refine op_run (v := .pointer (some ⟨cb, 3, none⟩)) (w' := w') ?_ ⟨_, rfl, ?_, ?_⟩
      · simp only [execOp, Act.eval, List.map_toArray, List.map_cons, List.map_nil, g1]; first | (go_simp; done) | rfl
      · try dsimp only
        exact (slots_put (ns := 36) (hsa.size.trans rfl) (by decide))
      · exact Below.refl _ _
    | 11, ho =>
      obtain rfl := Option.some.inj ho
      try dsimp only at hd
      have d10 : a'.tmps.getD 13 undef = .pointer (some ⟨cb, 3, none⟩) := hd 10 (by rfl)
      have y3 : w'.cell? ⟨cb, 3, none⟩ = some (.int .i64 cm.seq) := (hb.cell (p := ⟨cb, 3, none⟩) (heap_lt hC)).trans (box_cell hC 3 rfl)
      refine wpOp_of rfl rfl ?_
      refine op_run (v := .int .i64 cm.seq) (w' := w') ?_ ⟨_, rfl, ?_, ?_⟩
      · simp only [execOp, Act.eval, List.map_toArray, List.map_cons, List.map_nil, d10, y3]; first | (go_simp; done) | rfl
      · try dsimp only
        exact (slots_put (ns := 36) (hsa.size.trans rfl) (by decide))
      · exact Below.refl _ _
    | 12, ho =>
      obtain rfl := Option.some.inj ho
      try dsimp only at hd
      have d11 : a'.tmps.getD 14 undef = .int .i64 cm.seq := hd 11 (by rfl)
      refine wpOp_of rfl rfl ?_
      refine op_run (v := .int .u64 (IntKind.u64.wrap cm.seq)) (w' := w') ?_ ⟨_, rfl, ?_, ?_⟩
      · simp only [execOp, Act.eval, List.map_toArray, List.map_cons, List.map_nil, d11]; first | (go_simp; done) | rfl
      · try dsimp only
        exact (slots_put (ns := 36) (hsa.size.trans rfl) (by decide))
      · exact Below.refl _ _
    | 13, ho =>
      obtain rfl := Option.some.inj ho
      try dsimp only at hd
      have d12 : a'.tmps.getD 15 undef = .int .u64 (IntKind.u64.wrap cm.seq) := hd 12 (by rfl)
      refine wpOp_of rfl rfl ?_
      refine op_run (v := .agg #[.int .i64 3, .int .u64 (IntKind.u64.wrap cm.seq), .string ⟨#[]⟩]) (w' := w') ?_ ⟨_, rfl, ?_, ?_⟩
      · simp only [execOp, Act.eval, List.map_toArray, List.map_cons, List.map_nil, d12]; first | (go_simp; done) | rfl
      · try dsimp only
        exact (slots_put (ns := 36) (hsa.size.trans rfl) (by decide))
      · exact Below.refl _ _
    | 14, ho =>
      obtain rfl := Option.some.inj ho
      try dsimp only at hd
      have g1 : a'.tmps.getD 1 undef = .pointer (some ⟨cb, 0, none⟩) := hsa.rest 1 (by rfl)
      refine wpOp_of rfl rfl ?_
      refine op_run (v := .pointer (some ⟨cb, 4, none⟩)) (w' := w') ?_ ⟨_, rfl, ?_, ?_⟩
      · simp only [execOp, Act.eval, List.map_toArray, List.map_cons, List.map_nil, g1]; first | (go_simp; done) | rfl
      · try dsimp only
        exact (slots_put (ns := 36) (hsa.size.trans rfl) (by decide))
      · exact Below.refl _ _
    | 15, ho =>
      obtain rfl := Option.some.inj ho
      try dsimp only at hd
      have d14 : a'.tmps.getD 17 undef = .pointer (some ⟨cb, 4, none⟩) := hd 14 (by rfl)
      have y4 : w'.cell? ⟨cb, 4, none⟩ = some (.string cm.key) := (hb.cell (p := ⟨cb, 4, none⟩) (heap_lt hC)).trans (box_cell hC 4 rfl)
      refine wpOp_of rfl rfl ?_
      refine op_run (v := .string cm.key) (w' := w') ?_ ⟨_, rfl, ?_, ?_⟩
      · simp only [execOp, Act.eval, List.map_toArray, List.map_cons, List.map_nil, d14, y4]; first | (go_simp; done) | rfl
      · try dsimp only
        exact (slots_put (ns := 36) (hsa.size.trans rfl) (by decide))
      · exact Below.refl _ _
    | 16, ho =>
      obtain rfl := Option.some.inj ho
      try dsimp only at hd
      have d15 : a'.tmps.getD 18 undef = .string cm.key := hd 15 (by rfl)
      refine wpOp_of rfl rfl ?_
      refine op_run (v := .agg #[.int .i64 4, .int .u64 0, .string cm.key]) (w' := w') ?_ ⟨_, rfl, ?_, ?_⟩
      · simp only [execOp, Act.eval, List.map_toArray, List.map_cons, List.map_nil, d15]; first | (go_simp; done) | rfl
      · try dsimp only
        exact (slots_put (ns := 36) (hsa.size.trans rfl) (by decide))
      · exact Below.refl _ _
    | 17, ho =>
      obtain rfl := Option.some.inj ho
      try dsimp only at hd
      have g1 : a'.tmps.getD 1 undef = .pointer (some ⟨cb, 0, none⟩) := hsa.rest 1 (by rfl)
      refine wpOp_of rfl rfl ?_
      refine op_run (v := .pointer (some ⟨cb, 5, none⟩)) (w' := w') ?_ ⟨_, rfl, ?_, ?_⟩
      · simp only [execOp, Act.eval, List.map_toArray, List.map_cons, List.map_nil, g1]; first | (go_simp; done) | rfl
      · try dsimp only
        exact (slots_put (ns := 36) (hsa.size.trans rfl) (by decide))
      · exact Below.refl _ _
    | 18, ho =>
      obtain rfl := Option.some.inj ho
      try dsimp only at hd
      have d17 : a'.tmps.getD 20 undef = .pointer (some ⟨cb, 5, none⟩) := hd 17 (by rfl)
      have y5 : w'.cell? ⟨cb, 5, none⟩ = some (.string cm.val) := (hb.cell (p := ⟨cb, 5, none⟩) (heap_lt hC)).trans (box_cell hC 5 rfl)
      refine wpOp_of rfl rfl ?_
      refine op_run (v := .string cm.val) (w' := w') ?_ ⟨_, rfl, ?_, ?_⟩
      · simp only [execOp, Act.eval, List.map_toArray, List.map_cons, List.map_nil, d17, y5]; first | (go_simp; done) | rfl
      · try dsimp only
        exact (slots_put (ns := 36) (hsa.size.trans rfl) (by decide))
      · exact Below.refl _ _
    | 19, ho =>
      obtain rfl := Option.some.inj ho
      try dsimp only at hd
      have d18 : a'.tmps.getD 21 undef = .string cm.val := hd 18 (by rfl)
      refine wpOp_of rfl rfl ?_
      refine op_run (v := .agg #[.int .i64 4, .int .u64 0, .string cm.val]) (w' := w') ?_ ⟨_, rfl, ?_, ?_⟩
      · simp only [execOp, Act.eval, List.map_toArray, List.map_cons, List.map_nil, d18]; first | (go_simp; done) | rfl
      · try dsimp only
        exact (slots_put (ns := 36) (hsa.size.trans rfl) (by decide))
      · exact Below.refl _ _
    | 20, ho =>
      obtain rfl := Option.some.inj ho
      try dsimp only at hd
      have g1 : a'.tmps.getD 1 undef = .pointer (some ⟨cb, 0, none⟩) := hsa.rest 1 (by rfl)
      refine wpOp_of rfl rfl ?_
      refine op_run (v := .pointer (some ⟨cb, 6, none⟩)) (w' := w') ?_ ⟨_, rfl, ?_, ?_⟩
      · simp only [execOp, Act.eval, List.map_toArray, List.map_cons, List.map_nil, g1]; first | (go_simp; done) | rfl
      · try dsimp only
        exact (slots_put (ns := 36) (hsa.size.trans rfl) (by decide))
      · exact Below.refl _ _
    | 21, ho =>
      obtain rfl := Option.some.inj ho
      try dsimp only at hd
      have d20 : a'.tmps.getD 23 undef = .pointer (some ⟨cb, 6, none⟩) := hd 20 (by rfl)
      have y6 : w'.cell? ⟨cb, 6, none⟩ = some (.int .i64 cm.n) := (hb.cell (p := ⟨cb, 6, none⟩) (heap_lt hC)).trans (box_cell hC 6 rfl)
      refine wpOp_of rfl rfl ?_
      refine op_run (v := .int .i64 cm.n) (w' := w') ?_ ⟨_, rfl, ?_, ?_⟩
      · simp only [execOp, Act.eval, List.map_toArray, List.map_cons, List.map_nil, d20, y6]; first | (go_simp; done) | rfl
      · try dsimp only
        exact (slots_put (ns := 36) (hsa.size.trans rfl) (by decide))
      · exact Below.refl _ _
    | 22, ho =>
      obtain rfl := Option.some.inj ho
      try dsimp only at hd
      have d21 : a'.tmps.getD 24 undef = .int .i64 cm.n := hd 21 (by rfl)
      refine wpOp_of rfl rfl ?_
      refine op_call 41 _ _ rfl (enters_of Tryz.func41 (by kernel_rfl) rfl) [.int .i64 cm.n] (by simp only [List.map, Act.eval, d21]) (pmoved cm.n n1 n2 w') ?_
      rintro e w'' ⟨rfl, rfl⟩
      refine ⟨_, rfl, _, rfl, ?_, ?_⟩
      · try dsimp only
        exact (slots_put (ns := 36) (hsa.size.trans rfl) (by decide))
      · exact Below.refl _ _
    | 23, ho =>
      obtain rfl := Option.some.inj ho
      try dsimp only at hd
      have d22 : a'.tmps.getD 25 undef = .int .u64 (cm.n + 1) := hd 22 (by rfl)
      refine wpOp_of rfl rfl ?_
      refine op_run (v := .agg #[.int .i64 3, .int .u64 (cm.n + 1), .string ⟨#[]⟩]) (w' := w') ?_ ⟨_, rfl, ?_, ?_⟩
      · simp only [execOp, Act.eval, List.map_toArray, List.map_cons, List.map_nil, d22]; first | (go_simp; done) | rfl
      · try dsimp only
        exact (slots_put (ns := 36) (hsa.size.trans rfl) (by decide))
      · exact Below.refl _ _
    | 24, ho =>
      obtain rfl := Option.some.inj ho
      try dsimp only at hd
      have g1 : a'.tmps.getD 1 undef = .pointer (some ⟨cb, 0, none⟩) := hsa.rest 1 (by rfl)
      refine wpOp_of rfl rfl ?_
      refine op_run (v := .pointer (some ⟨cb, 7, none⟩)) (w' := w') ?_ ⟨_, rfl, ?_, ?_⟩
      · simp only [execOp, Act.eval, List.map_toArray, List.map_cons, List.map_nil, g1]; first | (go_simp; done) | rfl
      · try dsimp only
        exact (slots_put (ns := 36) (hsa.size.trans rfl) (by decide))
      · exact Below.refl _ _
    | 25, ho =>
      obtain rfl := Option.some.inj ho
      try dsimp only at hd
      have d24 : a'.tmps.getD 27 undef = .pointer (some ⟨cb, 7, none⟩) := hd 24 (by rfl)
      have y7 : w'.cell? ⟨cb, 7, none⟩ = some (.int .i64 cm.node) := (hb.cell (p := ⟨cb, 7, none⟩) (heap_lt hC)).trans (box_cell hC 7 rfl)
      refine wpOp_of rfl rfl ?_
      refine op_run (v := .int .i64 cm.node) (w' := w') ?_ ⟨_, rfl, ?_, ?_⟩
      · simp only [execOp, Act.eval, List.map_toArray, List.map_cons, List.map_nil, d24, y7]; first | (go_simp; done) | rfl
      · try dsimp only
        exact (slots_put (ns := 36) (hsa.size.trans rfl) (by decide))
      · exact Below.refl _ _
    | 26, ho =>
      obtain rfl := Option.some.inj ho
      try dsimp only at hd
      have d25 : a'.tmps.getD 28 undef = .int .i64 cm.node := hd 25 (by rfl)
      refine wpOp_of rfl rfl ?_
      refine op_run (v := .int .u64 (IntKind.u64.wrap cm.node)) (w' := w') ?_ ⟨_, rfl, ?_, ?_⟩
      · simp only [execOp, Act.eval, List.map_toArray, List.map_cons, List.map_nil, d25]; first | (go_simp; done) | rfl
      · try dsimp only
        exact (slots_put (ns := 36) (hsa.size.trans rfl) (by decide))
      · exact Below.refl _ _
    | 27, ho =>
      obtain rfl := Option.some.inj ho
      try dsimp only at hd
      have d26 : a'.tmps.getD 29 undef = .int .u64 (IntKind.u64.wrap cm.node) := hd 26 (by rfl)
      refine wpOp_of rfl rfl ?_
      refine op_run (v := .agg #[.int .i64 1, .int .u64 (IntKind.u64.wrap cm.node), .string ⟨#[]⟩]) (w' := w') ?_ ⟨_, rfl, ?_, ?_⟩
      · simp only [execOp, Act.eval, List.map_toArray, List.map_cons, List.map_nil, d26]; first | (go_simp; done) | rfl
      · try dsimp only
        exact (slots_put (ns := 36) (hsa.size.trans rfl) (by decide))
      · exact Below.refl _ _
    | 28, ho =>
      obtain rfl := Option.some.inj ho
      try dsimp only at hd
      have g1 : a'.tmps.getD 1 undef = .pointer (some ⟨cb, 0, none⟩) := hsa.rest 1 (by rfl)
      refine wpOp_of rfl rfl ?_
      refine op_run (v := .pointer (some ⟨cb, 8, none⟩)) (w' := w') ?_ ⟨_, rfl, ?_, ?_⟩
      · simp only [execOp, Act.eval, List.map_toArray, List.map_cons, List.map_nil, g1]; first | (go_simp; done) | rfl
      · try dsimp only
        exact (slots_put (ns := 36) (hsa.size.trans rfl) (by decide))
      · exact Below.refl _ _
    | 29, ho =>
      obtain rfl := Option.some.inj ho
      try dsimp only at hd
      have d28 : a'.tmps.getD 31 undef = .pointer (some ⟨cb, 8, none⟩) := hd 28 (by rfl)
      have y8 : w'.cell? ⟨cb, 8, none⟩ = some (.int .i64 cm.ask) := (hb.cell (p := ⟨cb, 8, none⟩) (heap_lt hC)).trans (box_cell hC 8 rfl)
      refine wpOp_of rfl rfl ?_
      refine op_run (v := .int .i64 cm.ask) (w' := w') ?_ ⟨_, rfl, ?_, ?_⟩
      · simp only [execOp, Act.eval, List.map_toArray, List.map_cons, List.map_nil, d28, y8]; first | (go_simp; done) | rfl
      · try dsimp only
        exact (slots_put (ns := 36) (hsa.size.trans rfl) (by decide))
      · exact Below.refl _ _
    | 30, ho =>
      obtain rfl := Option.some.inj ho
      try dsimp only at hd
      have d29 : a'.tmps.getD 32 undef = .int .i64 cm.ask := hd 29 (by rfl)
      refine wpOp_of rfl rfl ?_
      refine op_run (v := .int .u64 (IntKind.u64.wrap cm.ask)) (w' := w') ?_ ⟨_, rfl, ?_, ?_⟩
      · simp only [execOp, Act.eval, List.map_toArray, List.map_cons, List.map_nil, d29]; first | (go_simp; done) | rfl
      · try dsimp only
        exact (slots_put (ns := 36) (hsa.size.trans rfl) (by decide))
      · exact Below.refl _ _
    | 31, ho =>
      obtain rfl := Option.some.inj ho
      try dsimp only at hd
      have d30 : a'.tmps.getD 33 undef = .int .u64 (IntKind.u64.wrap cm.ask) := hd 30 (by rfl)
      refine wpOp_of rfl rfl ?_
      refine op_run (v := .agg #[.int .i64 3, .int .u64 (IntKind.u64.wrap cm.ask), .string ⟨#[]⟩]) (w' := w') ?_ ⟨_, rfl, ?_, ?_⟩
      · simp only [execOp, Act.eval, List.map_toArray, List.map_cons, List.map_nil, d30]; first | (go_simp; done) | rfl
      · try dsimp only
        exact (slots_put (ns := 36) (hsa.size.trans rfl) (by decide))
      · exact Below.refl _ _
    | 32, ho =>
      obtain rfl := Option.some.inj ho
      try dsimp only at hd
      have d3 : a'.tmps.getD 6 undef = .agg #[.int .i64 1, .int .u64 (IntKind.u64.wrap cm.kind), .string ⟨#[]⟩] := hd 3 (by rfl)
      have d6 : a'.tmps.getD 9 undef = .agg #[.int .i64 4, .int .u64 0, .string cm.topic] := hd 6 (by rfl)
      have d9 : a'.tmps.getD 12 undef = .agg #[.int .i64 4, .int .u64 0, .string cm.name] := hd 9 (by rfl)
      have d13 : a'.tmps.getD 16 undef = .agg #[.int .i64 3, .int .u64 (IntKind.u64.wrap cm.seq), .string ⟨#[]⟩] := hd 13 (by rfl)
      have d16 : a'.tmps.getD 19 undef = .agg #[.int .i64 4, .int .u64 0, .string cm.key] := hd 16 (by rfl)
      have d19 : a'.tmps.getD 22 undef = .agg #[.int .i64 4, .int .u64 0, .string cm.val] := hd 19 (by rfl)
      have d23 : a'.tmps.getD 26 undef = .agg #[.int .i64 3, .int .u64 (cm.n + 1), .string ⟨#[]⟩] := hd 23 (by rfl)
      have d27 : a'.tmps.getD 30 undef = .agg #[.int .i64 1, .int .u64 (IntKind.u64.wrap cm.node), .string ⟨#[]⟩] := hd 27 (by rfl)
      have d31 : a'.tmps.getD 34 undef = .agg #[.int .i64 3, .int .u64 (IntKind.u64.wrap cm.ask), .string ⟨#[]⟩] := hd 31 (by rfl)
      refine wpOp_of rfl rfl ?_
      refine op_run (v := Value.slice (some ⟨w'.heap.size, 0, none⟩) 9 9) (w' := w'.alloc (.cells #[.int .i64 1, .int .u64 (IntKind.u64.wrap cm.kind), .string ⟨#[]⟩, .int .i64 4, .int .u64 0, .string cm.topic, .int .i64 4, .int .u64 0, .string cm.name, .int .i64 3, .int .u64 (IntKind.u64.wrap cm.seq), .string ⟨#[]⟩, .int .i64 4, .int .u64 0, .string cm.key, .int .i64 4, .int .u64 0, .string cm.val, .int .i64 3, .int .u64 (cm.n + 1), .string ⟨#[]⟩, .int .i64 1, .int .u64 (IntKind.u64.wrap cm.node), .string ⟨#[]⟩, .int .i64 3, .int .u64 (IntKind.u64.wrap cm.ask), .string ⟨#[]⟩] 61)) ?_ ⟨_, rfl, ?_, ?_⟩
      · simp only [execOp, Act.eval, List.map_toArray, List.map_cons, List.map_nil, d3, d6, d9, d13, d16, d19, d23, d27, d31]; first | (go_simp; done) | rfl
      · try dsimp only
        exact ⟨_, (slots_put (ns := 36) (hsa.size.trans rfl) (by decide)), heap_alloc_new _ _⟩
      · exact (Below.refl _ _).alloc (Nat.le_refl _) _
    | 33, ho =>
      obtain rfl := Option.some.inj ho
      try dsimp only at hd
      have d32 : ∃ g, a'.tmps.getD 35 undef = .slice (some ⟨g, 0, none⟩) 9 9 ∧ w'.heap[g]? = some (.cells #[.int .i64 1, .int .u64 (IntKind.u64.wrap cm.kind), .string ⟨#[]⟩, .int .i64 4, .int .u64 0, .string cm.topic, .int .i64 4, .int .u64 0, .string cm.name, .int .i64 3, .int .u64 (IntKind.u64.wrap cm.seq), .string ⟨#[]⟩, .int .i64 4, .int .u64 0, .string cm.key, .int .i64 4, .int .u64 0, .string cm.val, .int .i64 3, .int .u64 (cm.n + 1), .string ⟨#[]⟩, .int .i64 1, .int .u64 (IntKind.u64.wrap cm.node), .string ⟨#[]⟩, .int .i64 3, .int .u64 (IntKind.u64.wrap cm.ask), .string ⟨#[]⟩] 61 (0, 0)) := hd 32 (by rfl)
      obtain ⟨g, d32, h2⟩ := d32
      refine wpOp_of rfl rfl ?_
      refine op_run (v := .slice (some ⟨g, 0, none⟩) 9 9) (w' := w') ?_ ⟨_, rfl, ?_, ?_⟩
      · simp only [execOp, Act.eval, List.map_toArray, List.map_cons, List.map_nil, d32]; first | (go_simp; done) | rfl
      · try dsimp only
        exact ⟨g, (slots_put (ns := 36) (hsa.size.trans rfl) (by decide)), h2⟩
      · exact Below.refl _ _
    | (n + 34), ho => exact absurd ho (by simp)
  case pdone =>
    intro a' w' hsa hb hd
    have d0 : a'.tmps.getD 3 undef = .pointer (some ⟨cb, 0, none⟩) := hd 0 (by decide)
    have d1 : a'.tmps.getD 4 undef = .int .i64 cm.kind := hd 1 (by decide)
    have d2 : a'.tmps.getD 5 undef = .int .u64 (IntKind.u64.wrap cm.kind) := hd 2 (by decide)
    have d3 : a'.tmps.getD 6 undef = .agg #[.int .i64 1, .int .u64 (IntKind.u64.wrap cm.kind), .string ⟨#[]⟩] := hd 3 (by decide)
    have d4 : a'.tmps.getD 7 undef = .pointer (some ⟨cb, 1, none⟩) := hd 4 (by decide)
    have d5 : a'.tmps.getD 8 undef = .string cm.topic := hd 5 (by decide)
    have d6 : a'.tmps.getD 9 undef = .agg #[.int .i64 4, .int .u64 0, .string cm.topic] := hd 6 (by decide)
    have d7 : a'.tmps.getD 10 undef = .pointer (some ⟨cb, 2, none⟩) := hd 7 (by decide)
    have d8 : a'.tmps.getD 11 undef = .string cm.name := hd 8 (by decide)
    have d9 : a'.tmps.getD 12 undef = .agg #[.int .i64 4, .int .u64 0, .string cm.name] := hd 9 (by decide)
    have d10 : a'.tmps.getD 13 undef = .pointer (some ⟨cb, 3, none⟩) := hd 10 (by decide)
    have d11 : a'.tmps.getD 14 undef = .int .i64 cm.seq := hd 11 (by decide)
    have d12 : a'.tmps.getD 15 undef = .int .u64 (IntKind.u64.wrap cm.seq) := hd 12 (by decide)
    have d13 : a'.tmps.getD 16 undef = .agg #[.int .i64 3, .int .u64 (IntKind.u64.wrap cm.seq), .string ⟨#[]⟩] := hd 13 (by decide)
    have d14 : a'.tmps.getD 17 undef = .pointer (some ⟨cb, 4, none⟩) := hd 14 (by decide)
    have d15 : a'.tmps.getD 18 undef = .string cm.key := hd 15 (by decide)
    have d16 : a'.tmps.getD 19 undef = .agg #[.int .i64 4, .int .u64 0, .string cm.key] := hd 16 (by decide)
    have d17 : a'.tmps.getD 20 undef = .pointer (some ⟨cb, 5, none⟩) := hd 17 (by decide)
    have d18 : a'.tmps.getD 21 undef = .string cm.val := hd 18 (by decide)
    have d19 : a'.tmps.getD 22 undef = .agg #[.int .i64 4, .int .u64 0, .string cm.val] := hd 19 (by decide)
    have d20 : a'.tmps.getD 23 undef = .pointer (some ⟨cb, 6, none⟩) := hd 20 (by decide)
    have d21 : a'.tmps.getD 24 undef = .int .i64 cm.n := hd 21 (by decide)
    have d22 : a'.tmps.getD 25 undef = .int .u64 (cm.n + 1) := hd 22 (by decide)
    have d23 : a'.tmps.getD 26 undef = .agg #[.int .i64 3, .int .u64 (cm.n + 1), .string ⟨#[]⟩] := hd 23 (by decide)
    have d24 : a'.tmps.getD 27 undef = .pointer (some ⟨cb, 7, none⟩) := hd 24 (by decide)
    have d25 : a'.tmps.getD 28 undef = .int .i64 cm.node := hd 25 (by decide)
    have d26 : a'.tmps.getD 29 undef = .int .u64 (IntKind.u64.wrap cm.node) := hd 26 (by decide)
    have d27 : a'.tmps.getD 30 undef = .agg #[.int .i64 1, .int .u64 (IntKind.u64.wrap cm.node), .string ⟨#[]⟩] := hd 27 (by decide)
    have d28 : a'.tmps.getD 31 undef = .pointer (some ⟨cb, 8, none⟩) := hd 28 (by decide)
    have d29 : a'.tmps.getD 32 undef = .int .i64 cm.ask := hd 29 (by decide)
    have d30 : a'.tmps.getD 33 undef = .int .u64 (IntKind.u64.wrap cm.ask) := hd 30 (by decide)
    have d31 : a'.tmps.getD 34 undef = .agg #[.int .i64 3, .int .u64 (IntKind.u64.wrap cm.ask), .string ⟨#[]⟩] := hd 31 (by decide)
    have d32 : ∃ g, a'.tmps.getD 35 undef = .slice (some ⟨g, 0, none⟩) 9 9 ∧ w'.heap[g]? = some (.cells #[.int .i64 1, .int .u64 (IntKind.u64.wrap cm.kind), .string ⟨#[]⟩, .int .i64 4, .int .u64 0, .string cm.topic, .int .i64 4, .int .u64 0, .string cm.name, .int .i64 3, .int .u64 (IntKind.u64.wrap cm.seq), .string ⟨#[]⟩, .int .i64 4, .int .u64 0, .string cm.key, .int .i64 4, .int .u64 0, .string cm.val, .int .i64 3, .int .u64 (cm.n + 1), .string ⟨#[]⟩, .int .i64 1, .int .u64 (IntKind.u64.wrap cm.node), .string ⟨#[]⟩, .int .i64 3, .int .u64 (IntKind.u64.wrap cm.ask), .string ⟨#[]⟩] 61 (0, 0)) := hd 32 (by decide)
    have d33 : ∃ g, a'.tmps.getD 2 undef = .slice (some ⟨g, 0, none⟩) 9 9 ∧ w'.heap[g]? = some (.cells #[.int .i64 1, .int .u64 (IntKind.u64.wrap cm.kind), .string ⟨#[]⟩, .int .i64 4, .int .u64 0, .string cm.topic, .int .i64 4, .int .u64 0, .string cm.name, .int .i64 3, .int .u64 (IntKind.u64.wrap cm.seq), .string ⟨#[]⟩, .int .i64 4, .int .u64 0, .string cm.key, .int .i64 4, .int .u64 0, .string cm.val, .int .i64 3, .int .u64 (cm.n + 1), .string ⟨#[]⟩, .int .i64 1, .int .u64 (IntKind.u64.wrap cm.node), .string ⟨#[]⟩, .int .i64 3, .int .u64 (IntKind.u64.wrap cm.ask), .string ⟨#[]⟩] 61 (0, 0)) := hd 33 (by decide)
    obtain ⟨g, d33, h2⟩ := d33
    obtain ⟨wk, ws, wo, wa⟩ := WK.out
    rw [wk, ws, wo, wa] at h2
    exact HQ.out _ _ g ⟨hsa.size.trans rfl, hsa.defers.trans rfl, hsa.rest 1 (by rfl), d33⟩ h2 hb
theorem CM.Small.ok {c : CM} (h : c.Small) : c.ok := ⟨by have := h.t; omega, by have := h.m; omega, by have := h.y; omega, by have := h.v; omega⟩
theorem itemsC_ok {c : CM} (h : c.Small) : ∀ x ∈ itemsC c, x.ok := by
  obtain ⟨k1, k2, o1, o2, a1, a2, s1, s2, n1, n2, ht, hm, hy, hv⟩ := h
  intro x hx
  simp only [itemsC, List.mem_cons, List.not_mem_nil, or_false] at hx
  have z0 : (⟨#[]⟩ : ByteArray).size = 0 := rfl
  rcases hx with rfl | rfl | rfl | rfl | rfl | rfl | rfl | rfl | rfl <;> exact ⟨by simp, by simp, by simp only; omega, by simp only; omega, by simp only [z0] <;> omega⟩
theorem itemsC_at (W : World) (cm : CM) (b : Nat) (t : TypeId) (hb : W.heap[b]? = some (.cells #[.int .i64 1, .int .u64 cm.kind, .string ⟨#[]⟩, .int .i64 4, .int .u64 0, .string cm.topic, .int .i64 4, .int .u64 0, .string cm.name, .int .i64 3, .int .u64 cm.seq, .string ⟨#[]⟩, .int .i64 4, .int .u64 0, .string cm.key, .int .i64 4, .int .u64 0, .string cm.val, .int .i64 3, .int .u64 (cm.n + 1), .string ⟨#[]⟩, .int .i64 1, .int .u64 cm.node, .string ⟨#[]⟩, .int .i64 3, .int .u64 cm.ask, .string ⟨#[]⟩] t (0, 0))) : K.ItemsAt W (some ⟨b, 0, none⟩) (itemsC cm) := by
  intro i hi
  have hi5 : i < 9 := hi
  have hs := (Array.getElem?_eq_some_iff.1 hb).1
  refine ⟨b, 0, rfl, hs, ?_⟩
  have hc : ∀ k, W.cell? ⟨b, k, none⟩ = (#[.int .i64 1, .int .u64 cm.kind, .string ⟨#[]⟩, .int .i64 4, .int .u64 0, .string cm.topic, .int .i64 4, .int .u64 0, .string cm.name, .int .i64 3, .int .u64 cm.seq, .string ⟨#[]⟩, .int .i64 4, .int .u64 0, .string cm.key, .int .i64 4, .int .u64 0, .string cm.val, .int .i64 3, .int .u64 (cm.n + 1), .string ⟨#[]⟩, .int .i64 1, .int .u64 cm.node, .string ⟨#[]⟩, .int .i64 3, .int .u64 cm.ask, .string ⟨#[]⟩])[k]? := fun k => by rw [Lib.cell_of_heap hb]
  rw [hc, hc, hc]
  have h5 : i = 0 ∨ i = 1 ∨ i = 2 ∨ i = 3 ∨ i = 4 ∨ i = 5 ∨ i = 6 ∨ i = 7 ∨ i = 8 := by omega
  rcases h5 with rfl | rfl | rfl | rfl | rfl | rfl | rfl | rfl | rfl <;> exact ⟨rfl, rfl, rfl⟩
theorem ci_ret {W : World} {a : Act} {v : Vci} {x : Value} {R : Ending → World → Prop} (hF : Fci a v) (h2 : v.v2 = x) (h : R (.returned x) W) :
    bodyPost Tryz.prog Tryz.f19 R .ret a W := by
  have g2 := slot_get (hF.s2.trans h2)
  refine bodyPost_ret (v := x) ?_ hF.defers h
  simp [results, Tryz.results19, go_sem, g2]
set_option maxHeartbeats 4000000 in
theorem pitems (cm : CM) (hS : cm.Small) (w : World) :
    Calls Tryz.prog 19 #[cm.v] w fun e w' => ∃ g, e = .returned (.slice (some ⟨g, 0, none⟩) 9 9) ∧ K.ItemsAt w' (some ⟨g, 0, none⟩) (itemsC cm) ∧ Below w.heap.size w w' := by
  have HS := hide hS
  have HX := hide (heap_alloc_new w (.cells cm.cells 23))
  have HB := hide ((Below.refl w.heap.size w).alloc (Nat.le_refl _) (.cells cm.cells 23))
  clear hS
  simp only [CM.v, CM.cells] at *
  go_enter Tryz.func19, Tryz.ntmps19
  go_upto_region 1 with fail
  rename_i Ko hKo
  refine reg_mono (ci_r1 (cm := cm) (by kernel_rfl) _ (v := ⟨_, _⟩) ⟨rfl, rfl, rfl, rfl⟩ rfl HX.out HS.out fun a' w' g hF hB hW => hKo _ _ ?_)
  refine wp_ret ?_
  exact ci_ret hF rfl ⟨g, rfl, itemsC_at w' cm g _ hB, HB.out.trans (hW.mono HB.out.size)⟩
end Go.Proofs.YtoolbbibnegdnaaGreatDoor
