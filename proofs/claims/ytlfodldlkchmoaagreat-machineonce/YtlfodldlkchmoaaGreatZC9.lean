/-
  commandOf (mkc9.py)
-/
import Derived.Test.YtlfodldlkchmoaaGreatZC8
import Derived.Test.YtlfodldlkchmoaaGreatZPhiG
import Derived.Test.YtlfodldlkchmoaaGreatZC4
namespace Go.Proofs.YtlfodldlkchmoaaGreat
open Go.RowKit
set_option maxHeartbeats 8000000
set_option maxRecDepth 100000
attribute [local go_sem ↓] Go.wp_at_zero Go.wp_at_succ
set_option linter.unusedSimpArgs false
set_option linter.unusedVariables false
abbrev ItC := K.It
theorem frame_co (t : Array Value) (h : t.size = 45) : ∃ u : Nat → Value, t = List.toArray (u 0 :: u 1 :: u 2 :: u 3 :: u 4 :: u 5 :: u 6 :: u 7 :: u 8 :: u 9 :: u 10 :: u 11 :: u 12 :: u 13 :: u 14 :: u 15 :: u 16 :: u 17 :: u 18 :: u 19 :: u 20 :: u 21 :: u 22 :: u 23 :: u 24 :: u 25 :: u 26 :: u 27 :: u 28 :: u 29 :: u 30 :: u 31 :: u 32 :: u 33 :: u 34 :: u 35 :: u 36 :: u 37 :: u 38 :: u 39 :: u 40 :: u 41 :: u 42 :: u 43 :: u 44 :: []) := by
  refine ⟨fun i => t.getD i undef, ?_⟩
  refine Eq.trans (b := ((List.range 45).map fun i => t.getD i undef).toArray) ?_ rfl
  apply Array.ext
  · simp [h]
  · intro k h1 h2
    simp [Array.getD, h1]
structure Vco where
  v0 : Value
  v2 : Value
structure Fco (a : Act) (v : Vco) : Prop where
  size : a.tmps.size = 45
  defers : a.defers = []
  s0 : a.tmps.getD 0 undef = v.v0
  s2 : a.tmps.getD 2 undef = v.v2
theorem frx_co {a : Act} {v0 v2 : Value} (h : Fco a ⟨v0, v2⟩) : ∃ u : Nat → Value, a = ⟨List.toArray (v0 :: u 1 :: v2 :: u 3 :: u 4 :: u 5 :: u 6 :: u 7 :: u 8 :: u 9 :: u 10 :: u 11 :: u 12 :: u 13 :: u 14 :: u 15 :: u 16 :: u 17 :: u 18 :: u 19 :: u 20 :: u 21 :: u 22 :: u 23 :: u 24 :: u 25 :: u 26 :: u 27 :: u 28 :: u 29 :: u 30 :: u 31 :: u 32 :: u 33 :: u 34 :: u 35 :: u 36 :: u 37 :: u 38 :: u 39 :: u 40 :: u 41 :: u 42 :: u 43 :: u 44 :: []), []⟩ := by
  obtain ⟨t', d'⟩ := a
  obtain ⟨hs, hd, q0, q2⟩ := h
  obtain ⟨u, hu⟩ := frame_co t' hs
  simp only at hd q0 q2
  subst hu hd
  have e0 : u 0 = v0 := q0
  have e2 : u 2 = v2 := q2
  refine ⟨u, ?_⟩
  rw [e0, e2]
theorem co_r1 {K : Act → World → Prop} {c : Code} (hc : regOf (Tryz.f55.body.getD .skip) 1 = some c) (a : Act) {v : Vco} {wq : World} {g cp rb B : Nat} {x0 x1 x2 x3 x4 x5 x6 x7 x8 : ItC} (hF : Fco a v) (h0v : v.v0 = .slice (some ⟨g, 0, none⟩) 9 cp) (h2v : v.v2 = .pointer (some ⟨rb, 0, none⟩)) (hg : g < wq.heap.size) (hR : wq.heap[rb]? = some (.cells #[.int .i64 0, .string ⟨#[]⟩, .string ⟨#[]⟩, .int .i64 0, .string ⟨#[]⟩, .string ⟨#[]⟩, .int .i64 0, .int .i64 0, .int .i64 0] 31 (0, 0))) (hrb : B ≤ rb) (hB : B ≤ wq.heap.size) (y0 : wq.cell? ⟨g, 1, none⟩ = some (.int .u64 x0.n)) (y1 : wq.cell? ⟨g, 5, none⟩ = some (.string x1.s)) (y2 : wq.cell? ⟨g, 8, none⟩ = some (.string x2.s)) (y3 : wq.cell? ⟨g, 10, none⟩ = some (.int .u64 x3.n)) (y4 : wq.cell? ⟨g, 14, none⟩ = some (.string x4.s)) (y5 : wq.cell? ⟨g, 17, none⟩ = some (.string x5.s)) (y6 : wq.cell? ⟨g, 19, none⟩ = some (.int .u64 x6.n)) (y7 : wq.cell? ⟨g, 22, none⟩ = some (.int .u64 x7.n)) (y8 : wq.cell? ⟨g, 25, none⟩ = some (.int .u64 x8.n))
    (hQ : ∀ a' w', Fco a' v → w'.heap[rb]? = some (.cells #[.int .i64 (IntKind.i64.wrap x0.n), .string x1.s, .string x2.s, .int .i64 (IntKind.i64.wrap x3.n), .string x4.s, .string x5.s, .int .i64 (backN x6.n), .int .i64 (IntKind.i64.wrap x7.n), .int .i64 (IntKind.i64.wrap x8.n)] 31 (0, 0)) → Below B wq w' → K a' w') :
    Code.wp Tryz.prog c (Exit.then K fun _ _ _ => False) a wq := by
  have HQ := hide hQ
  clear hQ
  obtain ⟨v0, v2⟩ := v
  simp only at h0v h2v HQ
  subst h0v h2v
  obtain ⟨u, rfl⟩ := frx_co hF
  clear hF
  simp only [Tryz.f55, Option.getD_some, regOf] at hc
  injection hc with hc
  subst hc
  generalize u 1 = u1
  generalize u 3 = u3
  generalize u 4 = u4
  generalize u 5 = u5
  generalize u 6 = u6
  generalize u 7 = u7
  generalize u 8 = u8
  generalize u 9 = u9
  generalize u 10 = u10
  generalize u 11 = u11
  generalize u 12 = u12
  generalize u 13 = u13
  generalize u 14 = u14
  generalize u 15 = u15
  generalize u 16 = u16
  generalize u 17 = u17
  generalize u 18 = u18
  generalize u 19 = u19
  generalize u 20 = u20
  generalize u 21 = u21
  generalize u 22 = u22
  generalize u 23 = u23
  generalize u 24 = u24
  generalize u 25 = u25
  generalize u 26 = u26
  generalize u 27 = u27
  generalize u 28 = u28
  generalize u 29 = u29
  generalize u 30 = u30
  generalize u 31 = u31
  generalize u 32 = u32
  generalize u 33 = u33
  generalize u 34 = u34
  generalize u 35 = u35
  generalize u 36 = u36
  generalize u 37 = u37
  generalize u 38 = u38
  generalize u 39 = u39
  generalize u 40 = u40
  generalize u 41 = u41
  generalize u 42 = u42
  generalize u 43 = u43
  generalize u 44 = u44
  clear u
  refine wp_region_last 42 rfl (by kernel_rfl) rfl rfl (by kernel_rfl) ?_
  intro ops' hops'
  simp only [idle, List.setIfInBounds_toArray, List.set_cons_succ, List.set_cons_zero] at hops'
  subst hops'
  refine wpAny_phi (ns := 45) (uses := (fun i => match i with | 0 => [3] | 1 => [4] | 2 => [5] | 3 => [6] | 4 => [7] | 5 => [8] | 6 => [9] | 7 => [10] | 8 => [11] | 9 => [12] | 10 => [13] | 11 => [14] | 12 => [15] | 13 => [16] | 14 => [17] | 15 => [18] | 16 => [19] | 17 => [20] | 18 => [21] | 19 => [22] | 20 => [23] | 21 => [24] | 22 => [25] | 23 => [26] | 24 => [27] | 25 => [28] | 26 => [29] | 27 => [30] | 28 => [31] | 29 => [32] | 30 => [33] | 31 => [34] | 32 => [35] | 33 => [36] | 34 => [37] | 35 => [38] | 36 => [39] | 37 => [40] | 38 => [41] | 39 => [42] | 40 => [43] | 41 => [44] | 42 => [] | _ => [])) (by kernel_rfl) (by kernel_rfl) (fun _ w w' => Below w.heap.size w w') (fun w => Below wq.heap.size wq w) (fun _ _ _ h r => h.trans (r.mono h.size)) ((Below.refl _ _).drew) (fun i => match i with | 0 => fun s w => s 3 = .slice (some ⟨g, 0, none⟩) 9 cp | 1 => fun s w => s 4 = .pointer (some ⟨g, 0, none⟩) | 2 => fun s w => s 5 = .pointer (some ⟨g, 1, none⟩) | 3 => fun s w => s 6 = .int .u64 x0.n | 4 => fun s w => s 7 = .int .i64 (IntKind.i64.wrap x0.n) | 5 => fun s w => s 8 = .slice (some ⟨g, 0, none⟩) 9 cp | 6 => fun s w => s 9 = .pointer (some ⟨g, 3, none⟩) | 7 => fun s w => s 10 = .pointer (some ⟨g, 5, none⟩) | 8 => fun s w => s 11 = .string x1.s | 9 => fun s w => s 12 = .slice (some ⟨g, 0, none⟩) 9 cp | 10 => fun s w => s 13 = .pointer (some ⟨g, 6, none⟩) | 11 => fun s w => s 14 = .pointer (some ⟨g, 8, none⟩) | 12 => fun s w => s 15 = .string x2.s | 13 => fun s w => s 16 = .slice (some ⟨g, 0, none⟩) 9 cp | 14 => fun s w => s 17 = .pointer (some ⟨g, 9, none⟩) | 15 => fun s w => s 18 = .pointer (some ⟨g, 10, none⟩) | 16 => fun s w => s 19 = .int .u64 x3.n | 17 => fun s w => s 20 = .int .i64 (IntKind.i64.wrap x3.n) | 18 => fun s w => s 21 = .slice (some ⟨g, 0, none⟩) 9 cp | 19 => fun s w => s 22 = .pointer (some ⟨g, 12, none⟩) | 20 => fun s w => s 23 = .pointer (some ⟨g, 14, none⟩) | 21 => fun s w => s 24 = .string x4.s | 22 => fun s w => s 25 = .slice (some ⟨g, 0, none⟩) 9 cp | 23 => fun s w => s 26 = .pointer (some ⟨g, 15, none⟩) | 24 => fun s w => s 27 = .pointer (some ⟨g, 17, none⟩) | 25 => fun s w => s 28 = .string x5.s | 26 => fun s w => s 29 = .slice (some ⟨g, 0, none⟩) 9 cp | 27 => fun s w => s 30 = .pointer (some ⟨g, 18, none⟩) | 28 => fun s w => s 31 = .pointer (some ⟨g, 19, none⟩) | 29 => fun s w => s 32 = .int .u64 x6.n | 30 => fun s w => s 33 = .int .i64 (backN x6.n) | 31 => fun s w => s 34 = .slice (some ⟨g, 0, none⟩) 9 cp | 32 => fun s w => s 35 = .pointer (some ⟨g, 21, none⟩) | 33 => fun s w => s 36 = .pointer (some ⟨g, 22, none⟩) | 34 => fun s w => s 37 = .int .u64 x7.n | 35 => fun s w => s 38 = .int .i64 (IntKind.i64.wrap x7.n) | 36 => fun s w => s 39 = .slice (some ⟨g, 0, none⟩) 9 cp | 37 => fun s w => s 40 = .pointer (some ⟨g, 24, none⟩) | 38 => fun s w => s 41 = .pointer (some ⟨g, 25, none⟩) | 39 => fun s w => s 42 = .int .u64 x8.n | 40 => fun s w => s 43 = .int .i64 (IntKind.i64.wrap x8.n) | 41 => fun s w => s 44 = .agg #[.int .i64 (IntKind.i64.wrap x0.n), .string x1.s, .string x2.s, .int .i64 (IntKind.i64.wrap x3.n), .string x4.s, .string x5.s, .int .i64 (backN x6.n), .int .i64 (IntKind.i64.wrap x7.n), .int .i64 (IntKind.i64.wrap x8.n)] | 42 => fun s w => True | _ => fun _ _ => True) ?phc ?phh ?pstep ?pdone
  case phc =>
    intro i s s' w hx h
    match i, hx, h with
    | 0, hx, h =>
      have e3 := hx 3 (by simp)
      first | exact (show _ from by simp only [← e3] at *; exact h) | (simp only [e3] at h; exact h)
    | 1, hx, h =>
      have e4 := hx 4 (by simp)
      first | exact (show _ from by simp only [← e4] at *; exact h) | (simp only [e4] at h; exact h)
    | 2, hx, h =>
      have e5 := hx 5 (by simp)
      first | exact (show _ from by simp only [← e5] at *; exact h) | (simp only [e5] at h; exact h)
    | 3, hx, h =>
      have e6 := hx 6 (by simp)
      first | exact (show _ from by simp only [← e6] at *; exact h) | (simp only [e6] at h; exact h)
    | 4, hx, h =>
      have e7 := hx 7 (by simp)
      first | exact (show _ from by simp only [← e7] at *; exact h) | (simp only [e7] at h; exact h)
    | 5, hx, h =>
      have e8 := hx 8 (by simp)
      first | exact (show _ from by simp only [← e8] at *; exact h) | (simp only [e8] at h; exact h)
    | 6, hx, h =>
      have e9 := hx 9 (by simp)
      first | exact (show _ from by simp only [← e9] at *; exact h) | (simp only [e9] at h; exact h)
    | 7, hx, h =>
      have e10 := hx 10 (by simp)
      first | exact (show _ from by simp only [← e10] at *; exact h) | (simp only [e10] at h; exact h)
    | 8, hx, h =>
      have e11 := hx 11 (by simp)
      first | exact (show _ from by simp only [← e11] at *; exact h) | (simp only [e11] at h; exact h)
    | 9, hx, h =>
      have e12 := hx 12 (by simp)
      first | exact (show _ from by simp only [← e12] at *; exact h) | (simp only [e12] at h; exact h)
    | 10, hx, h =>
      have e13 := hx 13 (by simp)
      first | exact (show _ from by simp only [← e13] at *; exact h) | (simp only [e13] at h; exact h)
    | 11, hx, h =>
      have e14 := hx 14 (by simp)
      first | exact (show _ from by simp only [← e14] at *; exact h) | (simp only [e14] at h; exact h)
    | 12, hx, h =>
      have e15 := hx 15 (by simp)
      first | exact (show _ from by simp only [← e15] at *; exact h) | (simp only [e15] at h; exact h)
    | 13, hx, h =>
      have e16 := hx 16 (by simp)
      first | exact (show _ from by simp only [← e16] at *; exact h) | (simp only [e16] at h; exact h)
    | 14, hx, h =>
      have e17 := hx 17 (by simp)
      first | exact (show _ from by simp only [← e17] at *; exact h) | (simp only [e17] at h; exact h)
    | 15, hx, h =>
      have e18 := hx 18 (by simp)
      first | exact (show _ from by simp only [← e18] at *; exact h) | (simp only [e18] at h; exact h)
    | 16, hx, h =>
      have e19 := hx 19 (by simp)
      first | exact (show _ from by simp only [← e19] at *; exact h) | (simp only [e19] at h; exact h)
    | 17, hx, h =>
      have e20 := hx 20 (by simp)
      first | exact (show _ from by simp only [← e20] at *; exact h) | (simp only [e20] at h; exact h)
    | 18, hx, h =>
      have e21 := hx 21 (by simp)
      first | exact (show _ from by simp only [← e21] at *; exact h) | (simp only [e21] at h; exact h)
    | 19, hx, h =>
      have e22 := hx 22 (by simp)
      first | exact (show _ from by simp only [← e22] at *; exact h) | (simp only [e22] at h; exact h)
    | 20, hx, h =>
      have e23 := hx 23 (by simp)
      first | exact (show _ from by simp only [← e23] at *; exact h) | (simp only [e23] at h; exact h)
    | 21, hx, h =>
      have e24 := hx 24 (by simp)
      first | exact (show _ from by simp only [← e24] at *; exact h) | (simp only [e24] at h; exact h)
    | 22, hx, h =>
      have e25 := hx 25 (by simp)
      first | exact (show _ from by simp only [← e25] at *; exact h) | (simp only [e25] at h; exact h)
    | 23, hx, h =>
      have e26 := hx 26 (by simp)
      first | exact (show _ from by simp only [← e26] at *; exact h) | (simp only [e26] at h; exact h)
    | 24, hx, h =>
      have e27 := hx 27 (by simp)
      first | exact (show _ from by simp only [← e27] at *; exact h) | (simp only [e27] at h; exact h)
    | 25, hx, h =>
      have e28 := hx 28 (by simp)
      first | exact (show _ from by simp only [← e28] at *; exact h) | (simp only [e28] at h; exact h)
    | 26, hx, h =>
      have e29 := hx 29 (by simp)
      first | exact (show _ from by simp only [← e29] at *; exact h) | (simp only [e29] at h; exact h)
    | 27, hx, h =>
      have e30 := hx 30 (by simp)
      first | exact (show _ from by simp only [← e30] at *; exact h) | (simp only [e30] at h; exact h)
    | 28, hx, h =>
      have e31 := hx 31 (by simp)
      first | exact (show _ from by simp only [← e31] at *; exact h) | (simp only [e31] at h; exact h)
    | 29, hx, h =>
      have e32 := hx 32 (by simp)
      first | exact (show _ from by simp only [← e32] at *; exact h) | (simp only [e32] at h; exact h)
    | 30, hx, h =>
      have e33 := hx 33 (by simp)
      first | exact (show _ from by simp only [← e33] at *; exact h) | (simp only [e33] at h; exact h)
    | 31, hx, h =>
      have e34 := hx 34 (by simp)
      first | exact (show _ from by simp only [← e34] at *; exact h) | (simp only [e34] at h; exact h)
    | 32, hx, h =>
      have e35 := hx 35 (by simp)
      first | exact (show _ from by simp only [← e35] at *; exact h) | (simp only [e35] at h; exact h)
    | 33, hx, h =>
      have e36 := hx 36 (by simp)
      first | exact (show _ from by simp only [← e36] at *; exact h) | (simp only [e36] at h; exact h)
    | 34, hx, h =>
      have e37 := hx 37 (by simp)
      first | exact (show _ from by simp only [← e37] at *; exact h) | (simp only [e37] at h; exact h)
    | 35, hx, h =>
      have e38 := hx 38 (by simp)
      first | exact (show _ from by simp only [← e38] at *; exact h) | (simp only [e38] at h; exact h)
    | 36, hx, h =>
      have e39 := hx 39 (by simp)
      first | exact (show _ from by simp only [← e39] at *; exact h) | (simp only [e39] at h; exact h)
    | 37, hx, h =>
      have e40 := hx 40 (by simp)
      first | exact (show _ from by simp only [← e40] at *; exact h) | (simp only [e40] at h; exact h)
    | 38, hx, h =>
      have e41 := hx 41 (by simp)
      first | exact (show _ from by simp only [← e41] at *; exact h) | (simp only [e41] at h; exact h)
    | 39, hx, h =>
      have e42 := hx 42 (by simp)
      first | exact (show _ from by simp only [← e42] at *; exact h) | (simp only [e42] at h; exact h)
    | 40, hx, h =>
      have e43 := hx 43 (by simp)
      first | exact (show _ from by simp only [← e43] at *; exact h) | (simp only [e43] at h; exact h)
    | 41, hx, h =>
      have e44 := hx 44 (by simp)
      first | exact (show _ from by simp only [← e44] at *; exact h) | (simp only [e44] at h; exact h)
    | 42, hx, h =>
      exact h
    | (n + 43), _, h => exact h
  case phh =>
    intro i j s w w' hij h hb r
    match i, hij, h with
    | 0, hij, h =>
      exact h
    | 1, hij, h =>
      exact h
    | 2, hij, h =>
      exact h
    | 3, hij, h =>
      exact h
    | 4, hij, h =>
      exact h
    | 5, hij, h =>
      exact h
    | 6, hij, h =>
      exact h
    | 7, hij, h =>
      exact h
    | 8, hij, h =>
      exact h
    | 9, hij, h =>
      exact h
    | 10, hij, h =>
      exact h
    | 11, hij, h =>
      exact h
    | 12, hij, h =>
      exact h
    | 13, hij, h =>
      exact h
    | 14, hij, h =>
      exact h
    | 15, hij, h =>
      exact h
    | 16, hij, h =>
      exact h
    | 17, hij, h =>
      exact h
    | 18, hij, h =>
      exact h
    | 19, hij, h =>
      exact h
    | 20, hij, h =>
      exact h
    | 21, hij, h =>
      exact h
    | 22, hij, h =>
      exact h
    | 23, hij, h =>
      exact h
    | 24, hij, h =>
      exact h
    | 25, hij, h =>
      exact h
    | 26, hij, h =>
      exact h
    | 27, hij, h =>
      exact h
    | 28, hij, h =>
      exact h
    | 29, hij, h =>
      exact h
    | 30, hij, h =>
      exact h
    | 31, hij, h =>
      exact h
    | 32, hij, h =>
      exact h
    | 33, hij, h =>
      exact h
    | 34, hij, h =>
      exact h
    | 35, hij, h =>
      exact h
    | 36, hij, h =>
      exact h
    | 37, hij, h =>
      exact h
    | 38, hij, h =>
      exact h
    | 39, hij, h =>
      exact h
    | 40, hij, h =>
      exact h
    | 41, hij, h =>
      exact h
    | 42, hij, h =>
      exact h
    | (n + 43), _, h => exact h
  case pstep =>
    intro i o ho a' w' hsa hb hd
    match i, ho with
    | 0, ho =>
      obtain rfl := Option.some.inj ho
      try dsimp only at hd
      have g0 : a'.tmps.getD 0 undef = .slice (some ⟨g, 0, none⟩) 9 cp := hsa.rest 0 (by rfl)
      refine wpOp_of rfl rfl ?_
      refine op_run (v := .slice (some ⟨g, 0, none⟩) 9 cp) (w' := w') ?_ ⟨_, rfl, ?_, ?_⟩
      · simp only [execOp, Act.eval, List.map_toArray, List.map_cons, List.map_nil, g0]; first | (go_simp; done) | rfl
      · try dsimp only
        exact (slots_put (ns := 45) (hsa.size.trans rfl) (by decide))
      · exact Below.refl _ _
    | 1, ho =>
      obtain rfl := Option.some.inj ho
      try dsimp only at hd
      have d0 : a'.tmps.getD 3 undef = .slice (some ⟨g, 0, none⟩) 9 cp := hd 0 (by rfl)
      refine wpOp_of rfl rfl ?_
      refine op_run (v := .pointer (some ⟨g, 0, none⟩)) (w' := w') ?_ ⟨_, rfl, ?_, ?_⟩
      · simp only [execOp, Act.eval, List.map_toArray, List.map_cons, List.map_nil, d0]; first | (go_simp; done) | rfl
      · try dsimp only
        exact (slots_put (ns := 45) (hsa.size.trans rfl) (by decide))
      · exact Below.refl _ _
    | 2, ho =>
      obtain rfl := Option.some.inj ho
      try dsimp only at hd
      have d1 : a'.tmps.getD 4 undef = .pointer (some ⟨g, 0, none⟩) := hd 1 (by rfl)
      refine wpOp_of rfl rfl ?_
      refine op_run (v := .pointer (some ⟨g, 1, none⟩)) (w' := w') ?_ ⟨_, rfl, ?_, ?_⟩
      · simp only [execOp, Act.eval, List.map_toArray, List.map_cons, List.map_nil, d1]; first | (go_simp; done) | rfl
      · try dsimp only
        exact (slots_put (ns := 45) (hsa.size.trans rfl) (by decide))
      · exact Below.refl _ _
    | 3, ho =>
      obtain rfl := Option.some.inj ho
      try dsimp only at hd
      have d2 : a'.tmps.getD 5 undef = .pointer (some ⟨g, 1, none⟩) := hd 2 (by rfl)
      have y0 : w'.cell? ⟨g, 1, none⟩ = some (.int .u64 x0.n) := (hb.cell (p := ⟨g, 1, none⟩) hg).trans y0
      refine wpOp_of rfl rfl ?_
      refine op_run (v := .int .u64 x0.n) (w' := w') ?_ ⟨_, rfl, ?_, ?_⟩
      · simp only [execOp, Act.eval, List.map_toArray, List.map_cons, List.map_nil, d2, y0]; first | (go_simp; done) | rfl
      · try dsimp only
        exact (slots_put (ns := 45) (hsa.size.trans rfl) (by decide))
      · exact Below.refl _ _
    | 4, ho =>
      obtain rfl := Option.some.inj ho
      try dsimp only at hd
      have d3 : a'.tmps.getD 6 undef = .int .u64 x0.n := hd 3 (by rfl)
      refine wpOp_of rfl rfl ?_
      refine op_run (v := .int .i64 (IntKind.i64.wrap x0.n)) (w' := w') ?_ ⟨_, rfl, ?_, ?_⟩
      · simp only [execOp, Act.eval, List.map_toArray, List.map_cons, List.map_nil, d3]; first | (go_simp; done) | rfl
      · try dsimp only
        exact (slots_put (ns := 45) (hsa.size.trans rfl) (by decide))
      · exact Below.refl _ _
    | 5, ho =>
      obtain rfl := Option.some.inj ho
      try dsimp only at hd
      have g0 : a'.tmps.getD 0 undef = .slice (some ⟨g, 0, none⟩) 9 cp := hsa.rest 0 (by rfl)
      refine wpOp_of rfl rfl ?_
      refine op_run (v := .slice (some ⟨g, 0, none⟩) 9 cp) (w' := w') ?_ ⟨_, rfl, ?_, ?_⟩
      · simp only [execOp, Act.eval, List.map_toArray, List.map_cons, List.map_nil, g0]; first | (go_simp; done) | rfl
      · try dsimp only
        exact (slots_put (ns := 45) (hsa.size.trans rfl) (by decide))
      · exact Below.refl _ _
    | 6, ho =>
      obtain rfl := Option.some.inj ho
      try dsimp only at hd
      have d5 : a'.tmps.getD 8 undef = .slice (some ⟨g, 0, none⟩) 9 cp := hd 5 (by rfl)
      refine wpOp_of rfl rfl ?_
      refine op_run (v := .pointer (some ⟨g, 3, none⟩)) (w' := w') ?_ ⟨_, rfl, ?_, ?_⟩
      · simp only [execOp, Act.eval, List.map_toArray, List.map_cons, List.map_nil, d5]; first | (go_simp; done) | rfl
      · try dsimp only
        exact (slots_put (ns := 45) (hsa.size.trans rfl) (by decide))
      · exact Below.refl _ _
    | 7, ho =>
      obtain rfl := Option.some.inj ho
      try dsimp only at hd
      have d6 : a'.tmps.getD 9 undef = .pointer (some ⟨g, 3, none⟩) := hd 6 (by rfl)
      refine wpOp_of rfl rfl ?_
      refine op_run (v := .pointer (some ⟨g, 5, none⟩)) (w' := w') ?_ ⟨_, rfl, ?_, ?_⟩
      · simp only [execOp, Act.eval, List.map_toArray, List.map_cons, List.map_nil, d6]; first | (go_simp; done) | rfl
      · try dsimp only
        exact (slots_put (ns := 45) (hsa.size.trans rfl) (by decide))
      · exact Below.refl _ _
    | 8, ho =>
      obtain rfl := Option.some.inj ho
      try dsimp only at hd
      have d7 : a'.tmps.getD 10 undef = .pointer (some ⟨g, 5, none⟩) := hd 7 (by rfl)
      have y1 : w'.cell? ⟨g, 5, none⟩ = some (.string x1.s) := (hb.cell (p := ⟨g, 5, none⟩) hg).trans y1
      refine wpOp_of rfl rfl ?_
      refine op_run (v := .string x1.s) (w' := w') ?_ ⟨_, rfl, ?_, ?_⟩
      · simp only [execOp, Act.eval, List.map_toArray, List.map_cons, List.map_nil, d7, y1]; first | (go_simp; done) | rfl
      · try dsimp only
        exact (slots_put (ns := 45) (hsa.size.trans rfl) (by decide))
      · exact Below.refl _ _
    | 9, ho =>
      obtain rfl := Option.some.inj ho
      try dsimp only at hd
      have g0 : a'.tmps.getD 0 undef = .slice (some ⟨g, 0, none⟩) 9 cp := hsa.rest 0 (by rfl)
      refine wpOp_of rfl rfl ?_
      refine op_run (v := .slice (some ⟨g, 0, none⟩) 9 cp) (w' := w') ?_ ⟨_, rfl, ?_, ?_⟩
      · simp only [execOp, Act.eval, List.map_toArray, List.map_cons, List.map_nil, g0]; first | (go_simp; done) | rfl
      · try dsimp only
        exact (slots_put (ns := 45) (hsa.size.trans rfl) (by decide))
      · exact Below.refl _ _
    | 10, ho =>
      obtain rfl := Option.some.inj ho
      try dsimp only at hd
      have d9 : a'.tmps.getD 12 undef = .slice (some ⟨g, 0, none⟩) 9 cp := hd 9 (by rfl)
      refine wpOp_of rfl rfl ?_
      refine op_run (v := .pointer (some ⟨g, 6, none⟩)) (w' := w') ?_ ⟨_, rfl, ?_, ?_⟩
      · simp only [execOp, Act.eval, List.map_toArray, List.map_cons, List.map_nil, d9]; first | (go_simp; done) | rfl
      · try dsimp only
        exact (slots_put (ns := 45) (hsa.size.trans rfl) (by decide))
      · exact Below.refl _ _
    | 11, ho =>
      obtain rfl := Option.some.inj ho
      try dsimp only at hd
      have d10 : a'.tmps.getD 13 undef = .pointer (some ⟨g, 6, none⟩) := hd 10 (by rfl)
      refine wpOp_of rfl rfl ?_
      refine op_run (v := .pointer (some ⟨g, 8, none⟩)) (w' := w') ?_ ⟨_, rfl, ?_, ?_⟩
      · simp only [execOp, Act.eval, List.map_toArray, List.map_cons, List.map_nil, d10]; first | (go_simp; done) | rfl
      · try dsimp only
        exact (slots_put (ns := 45) (hsa.size.trans rfl) (by decide))
      · exact Below.refl _ _
    | 12, ho =>
      obtain rfl := Option.some.inj ho
      try dsimp only at hd
      have d11 : a'.tmps.getD 14 undef = .pointer (some ⟨g, 8, none⟩) := hd 11 (by rfl)
      have y2 : w'.cell? ⟨g, 8, none⟩ = some (.string x2.s) := (hb.cell (p := ⟨g, 8, none⟩) hg).trans y2
      refine wpOp_of rfl rfl ?_
      refine op_run (v := .string x2.s) (w' := w') ?_ ⟨_, rfl, ?_, ?_⟩
      · simp only [execOp, Act.eval, List.map_toArray, List.map_cons, List.map_nil, d11, y2]; first | (go_simp; done) | rfl
      · try dsimp only
        exact (slots_put (ns := 45) (hsa.size.trans rfl) (by decide))
      · exact Below.refl _ _
    | 13, ho =>
      obtain rfl := Option.some.inj ho
      try dsimp only at hd
      have g0 : a'.tmps.getD 0 undef = .slice (some ⟨g, 0, none⟩) 9 cp := hsa.rest 0 (by rfl)
      refine wpOp_of rfl rfl ?_
      refine op_run (v := .slice (some ⟨g, 0, none⟩) 9 cp) (w' := w') ?_ ⟨_, rfl, ?_, ?_⟩
      · simp only [execOp, Act.eval, List.map_toArray, List.map_cons, List.map_nil, g0]; first | (go_simp; done) | rfl
      · try dsimp only
        exact (slots_put (ns := 45) (hsa.size.trans rfl) (by decide))
      · exact Below.refl _ _
    | 14, ho =>
      obtain rfl := Option.some.inj ho
      try dsimp only at hd
      have d13 : a'.tmps.getD 16 undef = .slice (some ⟨g, 0, none⟩) 9 cp := hd 13 (by rfl)
      refine wpOp_of rfl rfl ?_
      refine op_run (v := .pointer (some ⟨g, 9, none⟩)) (w' := w') ?_ ⟨_, rfl, ?_, ?_⟩
      · simp only [execOp, Act.eval, List.map_toArray, List.map_cons, List.map_nil, d13]; first | (go_simp; done) | rfl
      · try dsimp only
        exact (slots_put (ns := 45) (hsa.size.trans rfl) (by decide))
      · exact Below.refl _ _
    | 15, ho =>
      obtain rfl := Option.some.inj ho
      try dsimp only at hd
      have d14 : a'.tmps.getD 17 undef = .pointer (some ⟨g, 9, none⟩) := hd 14 (by rfl)
      refine wpOp_of rfl rfl ?_
      refine op_run (v := .pointer (some ⟨g, 10, none⟩)) (w' := w') ?_ ⟨_, rfl, ?_, ?_⟩
      · simp only [execOp, Act.eval, List.map_toArray, List.map_cons, List.map_nil, d14]; first | (go_simp; done) | rfl
      · try dsimp only
        exact (slots_put (ns := 45) (hsa.size.trans rfl) (by decide))
      · exact Below.refl _ _
    | 16, ho =>
      obtain rfl := Option.some.inj ho
      try dsimp only at hd
      have d15 : a'.tmps.getD 18 undef = .pointer (some ⟨g, 10, none⟩) := hd 15 (by rfl)
      have y3 : w'.cell? ⟨g, 10, none⟩ = some (.int .u64 x3.n) := (hb.cell (p := ⟨g, 10, none⟩) hg).trans y3
      refine wpOp_of rfl rfl ?_
      refine op_run (v := .int .u64 x3.n) (w' := w') ?_ ⟨_, rfl, ?_, ?_⟩
      · simp only [execOp, Act.eval, List.map_toArray, List.map_cons, List.map_nil, d15, y3]; first | (go_simp; done) | rfl
      · try dsimp only
        exact (slots_put (ns := 45) (hsa.size.trans rfl) (by decide))
      · exact Below.refl _ _
    | 17, ho =>
      obtain rfl := Option.some.inj ho
      try dsimp only at hd
      have d16 : a'.tmps.getD 19 undef = .int .u64 x3.n := hd 16 (by rfl)
      refine wpOp_of rfl rfl ?_
      refine op_run (v := .int .i64 (IntKind.i64.wrap x3.n)) (w' := w') ?_ ⟨_, rfl, ?_, ?_⟩
      · simp only [execOp, Act.eval, List.map_toArray, List.map_cons, List.map_nil, d16]; first | (go_simp; done) | rfl
      · try dsimp only
        exact (slots_put (ns := 45) (hsa.size.trans rfl) (by decide))
      · exact Below.refl _ _
    | 18, ho =>
      obtain rfl := Option.some.inj ho
      try dsimp only at hd
      have g0 : a'.tmps.getD 0 undef = .slice (some ⟨g, 0, none⟩) 9 cp := hsa.rest 0 (by rfl)
      refine wpOp_of rfl rfl ?_
      refine op_run (v := .slice (some ⟨g, 0, none⟩) 9 cp) (w' := w') ?_ ⟨_, rfl, ?_, ?_⟩
      · simp only [execOp, Act.eval, List.map_toArray, List.map_cons, List.map_nil, g0]; first | (go_simp; done) | rfl
      · try dsimp only
        exact (slots_put (ns := 45) (hsa.size.trans rfl) (by decide))
      · exact Below.refl _ _
    | 19, ho =>
      obtain rfl := Option.some.inj ho
      try dsimp only at hd
      have d18 : a'.tmps.getD 21 undef = .slice (some ⟨g, 0, none⟩) 9 cp := hd 18 (by rfl)
      refine wpOp_of rfl rfl ?_
      refine op_run (v := .pointer (some ⟨g, 12, none⟩)) (w' := w') ?_ ⟨_, rfl, ?_, ?_⟩
      · simp only [execOp, Act.eval, List.map_toArray, List.map_cons, List.map_nil, d18]; first | (go_simp; done) | rfl
      · try dsimp only
        exact (slots_put (ns := 45) (hsa.size.trans rfl) (by decide))
      · exact Below.refl _ _
    | 20, ho =>
      obtain rfl := Option.some.inj ho
      try dsimp only at hd
      have d19 : a'.tmps.getD 22 undef = .pointer (some ⟨g, 12, none⟩) := hd 19 (by rfl)
      refine wpOp_of rfl rfl ?_
      refine op_run (v := .pointer (some ⟨g, 14, none⟩)) (w' := w') ?_ ⟨_, rfl, ?_, ?_⟩
      · simp only [execOp, Act.eval, List.map_toArray, List.map_cons, List.map_nil, d19]; first | (go_simp; done) | rfl
      · try dsimp only
        exact (slots_put (ns := 45) (hsa.size.trans rfl) (by decide))
      · exact Below.refl _ _
    | 21, ho =>
      obtain rfl := Option.some.inj ho
      try dsimp only at hd
      have d20 : a'.tmps.getD 23 undef = .pointer (some ⟨g, 14, none⟩) := hd 20 (by rfl)
      have y4 : w'.cell? ⟨g, 14, none⟩ = some (.string x4.s) := (hb.cell (p := ⟨g, 14, none⟩) hg).trans y4
      refine wpOp_of rfl rfl ?_
      refine op_run (v := .string x4.s) (w' := w') ?_ ⟨_, rfl, ?_, ?_⟩
      · simp only [execOp, Act.eval, List.map_toArray, List.map_cons, List.map_nil, d20, y4]; first | (go_simp; done) | rfl
      · try dsimp only
        exact (slots_put (ns := 45) (hsa.size.trans rfl) (by decide))
      · exact Below.refl _ _
    | 22, ho =>
      obtain rfl := Option.some.inj ho
      try dsimp only at hd
      have g0 : a'.tmps.getD 0 undef = .slice (some ⟨g, 0, none⟩) 9 cp := hsa.rest 0 (by rfl)
      refine wpOp_of rfl rfl ?_
      refine op_run (v := .slice (some ⟨g, 0, none⟩) 9 cp) (w' := w') ?_ ⟨_, rfl, ?_, ?_⟩
      · simp only [execOp, Act.eval, List.map_toArray, List.map_cons, List.map_nil, g0]; first | (go_simp; done) | rfl
      · try dsimp only
        exact (slots_put (ns := 45) (hsa.size.trans rfl) (by decide))
      · exact Below.refl _ _
    | 23, ho =>
      obtain rfl := Option.some.inj ho
      try dsimp only at hd
      have d22 : a'.tmps.getD 25 undef = .slice (some ⟨g, 0, none⟩) 9 cp := hd 22 (by rfl)
      refine wpOp_of rfl rfl ?_
      refine op_run (v := .pointer (some ⟨g, 15, none⟩)) (w' := w') ?_ ⟨_, rfl, ?_, ?_⟩
      · simp only [execOp, Act.eval, List.map_toArray, List.map_cons, List.map_nil, d22]; first | (go_simp; done) | rfl
      · try dsimp only
        exact (slots_put (ns := 45) (hsa.size.trans rfl) (by decide))
      · exact Below.refl _ _
    | 24, ho =>
      obtain rfl := Option.some.inj ho
      try dsimp only at hd
      have d23 : a'.tmps.getD 26 undef = .pointer (some ⟨g, 15, none⟩) := hd 23 (by rfl)
      refine wpOp_of rfl rfl ?_
      refine op_run (v := .pointer (some ⟨g, 17, none⟩)) (w' := w') ?_ ⟨_, rfl, ?_, ?_⟩
      · simp only [execOp, Act.eval, List.map_toArray, List.map_cons, List.map_nil, d23]; first | (go_simp; done) | rfl
      · try dsimp only
        exact (slots_put (ns := 45) (hsa.size.trans rfl) (by decide))
      · exact Below.refl _ _
    | 25, ho =>
      obtain rfl := Option.some.inj ho
      try dsimp only at hd
      have d24 : a'.tmps.getD 27 undef = .pointer (some ⟨g, 17, none⟩) := hd 24 (by rfl)
      have y5 : w'.cell? ⟨g, 17, none⟩ = some (.string x5.s) := (hb.cell (p := ⟨g, 17, none⟩) hg).trans y5
      refine wpOp_of rfl rfl ?_
      refine op_run (v := .string x5.s) (w' := w') ?_ ⟨_, rfl, ?_, ?_⟩
      · simp only [execOp, Act.eval, List.map_toArray, List.map_cons, List.map_nil, d24, y5]; first | (go_simp; done) | rfl
      · try dsimp only
        exact (slots_put (ns := 45) (hsa.size.trans rfl) (by decide))
      · exact Below.refl _ _
    | 26, ho =>
      obtain rfl := Option.some.inj ho
      try dsimp only at hd
      have g0 : a'.tmps.getD 0 undef = .slice (some ⟨g, 0, none⟩) 9 cp := hsa.rest 0 (by rfl)
      refine wpOp_of rfl rfl ?_
      refine op_run (v := .slice (some ⟨g, 0, none⟩) 9 cp) (w' := w') ?_ ⟨_, rfl, ?_, ?_⟩
      · simp only [execOp, Act.eval, List.map_toArray, List.map_cons, List.map_nil, g0]; first | (go_simp; done) | rfl
      · try dsimp only
        exact (slots_put (ns := 45) (hsa.size.trans rfl) (by decide))
      · exact Below.refl _ _
    | 27, ho =>
      obtain rfl := Option.some.inj ho
      try dsimp only at hd
      have d26 : a'.tmps.getD 29 undef = .slice (some ⟨g, 0, none⟩) 9 cp := hd 26 (by rfl)
      refine wpOp_of rfl rfl ?_
      refine op_run (v := .pointer (some ⟨g, 18, none⟩)) (w' := w') ?_ ⟨_, rfl, ?_, ?_⟩
      · simp only [execOp, Act.eval, List.map_toArray, List.map_cons, List.map_nil, d26]; first | (go_simp; done) | rfl
      · try dsimp only
        exact (slots_put (ns := 45) (hsa.size.trans rfl) (by decide))
      · exact Below.refl _ _
    | 28, ho =>
      obtain rfl := Option.some.inj ho
      try dsimp only at hd
      have d27 : a'.tmps.getD 30 undef = .pointer (some ⟨g, 18, none⟩) := hd 27 (by rfl)
      refine wpOp_of rfl rfl ?_
      refine op_run (v := .pointer (some ⟨g, 19, none⟩)) (w' := w') ?_ ⟨_, rfl, ?_, ?_⟩
      · simp only [execOp, Act.eval, List.map_toArray, List.map_cons, List.map_nil, d27]; first | (go_simp; done) | rfl
      · try dsimp only
        exact (slots_put (ns := 45) (hsa.size.trans rfl) (by decide))
      · exact Below.refl _ _
    | 29, ho =>
      obtain rfl := Option.some.inj ho
      try dsimp only at hd
      have d28 : a'.tmps.getD 31 undef = .pointer (some ⟨g, 19, none⟩) := hd 28 (by rfl)
      have y6 : w'.cell? ⟨g, 19, none⟩ = some (.int .u64 x6.n) := (hb.cell (p := ⟨g, 19, none⟩) hg).trans y6
      refine wpOp_of rfl rfl ?_
      refine op_run (v := .int .u64 x6.n) (w' := w') ?_ ⟨_, rfl, ?_, ?_⟩
      · simp only [execOp, Act.eval, List.map_toArray, List.map_cons, List.map_nil, d28, y6]; first | (go_simp; done) | rfl
      · try dsimp only
        exact (slots_put (ns := 45) (hsa.size.trans rfl) (by decide))
      · exact Below.refl _ _
    | 30, ho =>
      obtain rfl := Option.some.inj ho
      try dsimp only at hd
      have d29 : a'.tmps.getD 32 undef = .int .u64 x6.n := hd 29 (by rfl)
      refine wpOp_of rfl rfl ?_
      refine op_call 98 _ _ rfl (enters_of Tryz.func98 (by kernel_rfl) rfl) [.int .u64 x6.n] (by simp only [List.map, Act.eval, d29]) (pback x6.n w') ?_
      rintro e w'' ⟨rfl, rfl⟩
      refine ⟨_, rfl, _, rfl, ?_, ?_⟩
      · try dsimp only
        exact (slots_put (ns := 45) (hsa.size.trans rfl) (by decide))
      · exact Below.refl _ _
    | 31, ho =>
      obtain rfl := Option.some.inj ho
      try dsimp only at hd
      have g0 : a'.tmps.getD 0 undef = .slice (some ⟨g, 0, none⟩) 9 cp := hsa.rest 0 (by rfl)
      refine wpOp_of rfl rfl ?_
      refine op_run (v := .slice (some ⟨g, 0, none⟩) 9 cp) (w' := w') ?_ ⟨_, rfl, ?_, ?_⟩
      · simp only [execOp, Act.eval, List.map_toArray, List.map_cons, List.map_nil, g0]; first | (go_simp; done) | rfl
      · try dsimp only
        exact (slots_put (ns := 45) (hsa.size.trans rfl) (by decide))
      · exact Below.refl _ _
    | 32, ho =>
      obtain rfl := Option.some.inj ho
      try dsimp only at hd
      have d31 : a'.tmps.getD 34 undef = .slice (some ⟨g, 0, none⟩) 9 cp := hd 31 (by rfl)
      refine wpOp_of rfl rfl ?_
      refine op_run (v := .pointer (some ⟨g, 21, none⟩)) (w' := w') ?_ ⟨_, rfl, ?_, ?_⟩
      · simp only [execOp, Act.eval, List.map_toArray, List.map_cons, List.map_nil, d31]; first | (go_simp; done) | rfl
      · try dsimp only
        exact (slots_put (ns := 45) (hsa.size.trans rfl) (by decide))
      · exact Below.refl _ _
    | 33, ho =>
      obtain rfl := Option.some.inj ho
      try dsimp only at hd
      have d32 : a'.tmps.getD 35 undef = .pointer (some ⟨g, 21, none⟩) := hd 32 (by rfl)
      refine wpOp_of rfl rfl ?_
      refine op_run (v := .pointer (some ⟨g, 22, none⟩)) (w' := w') ?_ ⟨_, rfl, ?_, ?_⟩
      · simp only [execOp, Act.eval, List.map_toArray, List.map_cons, List.map_nil, d32]; first | (go_simp; done) | rfl
      · try dsimp only
        exact (slots_put (ns := 45) (hsa.size.trans rfl) (by decide))
      · exact Below.refl _ _
    | 34, ho =>
      obtain rfl := Option.some.inj ho
      try dsimp only at hd
      have d33 : a'.tmps.getD 36 undef = .pointer (some ⟨g, 22, none⟩) := hd 33 (by rfl)
      have y7 : w'.cell? ⟨g, 22, none⟩ = some (.int .u64 x7.n) := (hb.cell (p := ⟨g, 22, none⟩) hg).trans y7
      refine wpOp_of rfl rfl ?_
      refine op_run (v := .int .u64 x7.n) (w' := w') ?_ ⟨_, rfl, ?_, ?_⟩
      · simp only [execOp, Act.eval, List.map_toArray, List.map_cons, List.map_nil, d33, y7]; first | (go_simp; done) | rfl
      · try dsimp only
        exact (slots_put (ns := 45) (hsa.size.trans rfl) (by decide))
      · exact Below.refl _ _
    | 35, ho =>
      obtain rfl := Option.some.inj ho
      try dsimp only at hd
      have d34 : a'.tmps.getD 37 undef = .int .u64 x7.n := hd 34 (by rfl)
      refine wpOp_of rfl rfl ?_
      refine op_run (v := .int .i64 (IntKind.i64.wrap x7.n)) (w' := w') ?_ ⟨_, rfl, ?_, ?_⟩
      · simp only [execOp, Act.eval, List.map_toArray, List.map_cons, List.map_nil, d34]; first | (go_simp; done) | rfl
      · try dsimp only
        exact (slots_put (ns := 45) (hsa.size.trans rfl) (by decide))
      · exact Below.refl _ _
    | 36, ho =>
      obtain rfl := Option.some.inj ho
      try dsimp only at hd
      have g0 : a'.tmps.getD 0 undef = .slice (some ⟨g, 0, none⟩) 9 cp := hsa.rest 0 (by rfl)
      refine wpOp_of rfl rfl ?_
      refine op_run (v := .slice (some ⟨g, 0, none⟩) 9 cp) (w' := w') ?_ ⟨_, rfl, ?_, ?_⟩
      · simp only [execOp, Act.eval, List.map_toArray, List.map_cons, List.map_nil, g0]; first | (go_simp; done) | rfl
      · try dsimp only
        exact (slots_put (ns := 45) (hsa.size.trans rfl) (by decide))
      · exact Below.refl _ _
    | 37, ho =>
      obtain rfl := Option.some.inj ho
      try dsimp only at hd
      have d36 : a'.tmps.getD 39 undef = .slice (some ⟨g, 0, none⟩) 9 cp := hd 36 (by rfl)
      refine wpOp_of rfl rfl ?_
      refine op_run (v := .pointer (some ⟨g, 24, none⟩)) (w' := w') ?_ ⟨_, rfl, ?_, ?_⟩
      · simp only [execOp, Act.eval, List.map_toArray, List.map_cons, List.map_nil, d36]; first | (go_simp; done) | rfl
      · try dsimp only
        exact (slots_put (ns := 45) (hsa.size.trans rfl) (by decide))
      · exact Below.refl _ _
    | 38, ho =>
      obtain rfl := Option.some.inj ho
      try dsimp only at hd
      have d37 : a'.tmps.getD 40 undef = .pointer (some ⟨g, 24, none⟩) := hd 37 (by rfl)
      refine wpOp_of rfl rfl ?_
      refine op_run (v := .pointer (some ⟨g, 25, none⟩)) (w' := w') ?_ ⟨_, rfl, ?_, ?_⟩
      · simp only [execOp, Act.eval, List.map_toArray, List.map_cons, List.map_nil, d37]; first | (go_simp; done) | rfl
      · try dsimp only
        exact (slots_put (ns := 45) (hsa.size.trans rfl) (by decide))
      · exact Below.refl _ _
    | 39, ho =>
      obtain rfl := Option.some.inj ho
      try dsimp only at hd
      have d38 : a'.tmps.getD 41 undef = .pointer (some ⟨g, 25, none⟩) := hd 38 (by rfl)
      have y8 : w'.cell? ⟨g, 25, none⟩ = some (.int .u64 x8.n) := (hb.cell (p := ⟨g, 25, none⟩) hg).trans y8
      refine wpOp_of rfl rfl ?_
      refine op_run (v := .int .u64 x8.n) (w' := w') ?_ ⟨_, rfl, ?_, ?_⟩
      · simp only [execOp, Act.eval, List.map_toArray, List.map_cons, List.map_nil, d38, y8]; first | (go_simp; done) | rfl
      · try dsimp only
        exact (slots_put (ns := 45) (hsa.size.trans rfl) (by decide))
      · exact Below.refl _ _
    | 40, ho =>
      obtain rfl := Option.some.inj ho
      try dsimp only at hd
      have d39 : a'.tmps.getD 42 undef = .int .u64 x8.n := hd 39 (by rfl)
      refine wpOp_of rfl rfl ?_
      refine op_run (v := .int .i64 (IntKind.i64.wrap x8.n)) (w' := w') ?_ ⟨_, rfl, ?_, ?_⟩
      · simp only [execOp, Act.eval, List.map_toArray, List.map_cons, List.map_nil, d39]; first | (go_simp; done) | rfl
      · try dsimp only
        exact (slots_put (ns := 45) (hsa.size.trans rfl) (by decide))
      · exact Below.refl _ _
    | 41, ho =>
      obtain rfl := Option.some.inj ho
      try dsimp only at hd
      have d4 : a'.tmps.getD 7 undef = .int .i64 (IntKind.i64.wrap x0.n) := hd 4 (by rfl)
      have d8 : a'.tmps.getD 11 undef = .string x1.s := hd 8 (by rfl)
      have d12 : a'.tmps.getD 15 undef = .string x2.s := hd 12 (by rfl)
      have d17 : a'.tmps.getD 20 undef = .int .i64 (IntKind.i64.wrap x3.n) := hd 17 (by rfl)
      have d21 : a'.tmps.getD 24 undef = .string x4.s := hd 21 (by rfl)
      have d25 : a'.tmps.getD 28 undef = .string x5.s := hd 25 (by rfl)
      have d30 : a'.tmps.getD 33 undef = .int .i64 (backN x6.n) := hd 30 (by rfl)
      have d35 : a'.tmps.getD 38 undef = .int .i64 (IntKind.i64.wrap x7.n) := hd 35 (by rfl)
      have d40 : a'.tmps.getD 43 undef = .int .i64 (IntKind.i64.wrap x8.n) := hd 40 (by rfl)
      refine wpOp_of rfl rfl ?_
      refine op_run (v := .agg #[.int .i64 (IntKind.i64.wrap x0.n), .string x1.s, .string x2.s, .int .i64 (IntKind.i64.wrap x3.n), .string x4.s, .string x5.s, .int .i64 (backN x6.n), .int .i64 (IntKind.i64.wrap x7.n), .int .i64 (IntKind.i64.wrap x8.n)]) (w' := w') ?_ ⟨_, rfl, ?_, ?_⟩
      · simp only [execOp, Act.eval, List.map_toArray, List.map_cons, List.map_nil, d4, d8, d12, d17, d21, d25, d30, d35, d40]; first | (go_simp; done) | rfl
      · try dsimp only
        exact (slots_put (ns := 45) (hsa.size.trans rfl) (by decide))
      · exact Below.refl _ _
    | 42, ho =>
      obtain rfl := Option.some.inj ho
      try dsimp only at hd
      refine wpOp_of rfl rfl ?_
      refine op_run (v := undef) (w' := w') ?_ ⟨_, rfl, ?_, ?_⟩
      · rfl
      · try dsimp only
        trivial
      · exact Below.refl _ _
    | (n + 43), ho => exact absurd ho (by simp)
  case pdone =>
    intro a' w' hsa hb hd
    have d0 : a'.tmps.getD 3 undef = .slice (some ⟨g, 0, none⟩) 9 cp := hd 0 (by decide)
    have d1 : a'.tmps.getD 4 undef = .pointer (some ⟨g, 0, none⟩) := hd 1 (by decide)
    have d2 : a'.tmps.getD 5 undef = .pointer (some ⟨g, 1, none⟩) := hd 2 (by decide)
    have d3 : a'.tmps.getD 6 undef = .int .u64 x0.n := hd 3 (by decide)
    have d4 : a'.tmps.getD 7 undef = .int .i64 (IntKind.i64.wrap x0.n) := hd 4 (by decide)
    have d5 : a'.tmps.getD 8 undef = .slice (some ⟨g, 0, none⟩) 9 cp := hd 5 (by decide)
    have d6 : a'.tmps.getD 9 undef = .pointer (some ⟨g, 3, none⟩) := hd 6 (by decide)
    have d7 : a'.tmps.getD 10 undef = .pointer (some ⟨g, 5, none⟩) := hd 7 (by decide)
    have d8 : a'.tmps.getD 11 undef = .string x1.s := hd 8 (by decide)
    have d9 : a'.tmps.getD 12 undef = .slice (some ⟨g, 0, none⟩) 9 cp := hd 9 (by decide)
    have d10 : a'.tmps.getD 13 undef = .pointer (some ⟨g, 6, none⟩) := hd 10 (by decide)
    have d11 : a'.tmps.getD 14 undef = .pointer (some ⟨g, 8, none⟩) := hd 11 (by decide)
    have d12 : a'.tmps.getD 15 undef = .string x2.s := hd 12 (by decide)
    have d13 : a'.tmps.getD 16 undef = .slice (some ⟨g, 0, none⟩) 9 cp := hd 13 (by decide)
    have d14 : a'.tmps.getD 17 undef = .pointer (some ⟨g, 9, none⟩) := hd 14 (by decide)
    have d15 : a'.tmps.getD 18 undef = .pointer (some ⟨g, 10, none⟩) := hd 15 (by decide)
    have d16 : a'.tmps.getD 19 undef = .int .u64 x3.n := hd 16 (by decide)
    have d17 : a'.tmps.getD 20 undef = .int .i64 (IntKind.i64.wrap x3.n) := hd 17 (by decide)
    have d18 : a'.tmps.getD 21 undef = .slice (some ⟨g, 0, none⟩) 9 cp := hd 18 (by decide)
    have d19 : a'.tmps.getD 22 undef = .pointer (some ⟨g, 12, none⟩) := hd 19 (by decide)
    have d20 : a'.tmps.getD 23 undef = .pointer (some ⟨g, 14, none⟩) := hd 20 (by decide)
    have d21 : a'.tmps.getD 24 undef = .string x4.s := hd 21 (by decide)
    have d22 : a'.tmps.getD 25 undef = .slice (some ⟨g, 0, none⟩) 9 cp := hd 22 (by decide)
    have d23 : a'.tmps.getD 26 undef = .pointer (some ⟨g, 15, none⟩) := hd 23 (by decide)
    have d24 : a'.tmps.getD 27 undef = .pointer (some ⟨g, 17, none⟩) := hd 24 (by decide)
    have d25 : a'.tmps.getD 28 undef = .string x5.s := hd 25 (by decide)
    have d26 : a'.tmps.getD 29 undef = .slice (some ⟨g, 0, none⟩) 9 cp := hd 26 (by decide)
    have d27 : a'.tmps.getD 30 undef = .pointer (some ⟨g, 18, none⟩) := hd 27 (by decide)
    have d28 : a'.tmps.getD 31 undef = .pointer (some ⟨g, 19, none⟩) := hd 28 (by decide)
    have d29 : a'.tmps.getD 32 undef = .int .u64 x6.n := hd 29 (by decide)
    have d30 : a'.tmps.getD 33 undef = .int .i64 (backN x6.n) := hd 30 (by decide)
    have d31 : a'.tmps.getD 34 undef = .slice (some ⟨g, 0, none⟩) 9 cp := hd 31 (by decide)
    have d32 : a'.tmps.getD 35 undef = .pointer (some ⟨g, 21, none⟩) := hd 32 (by decide)
    have d33 : a'.tmps.getD 36 undef = .pointer (some ⟨g, 22, none⟩) := hd 33 (by decide)
    have d34 : a'.tmps.getD 37 undef = .int .u64 x7.n := hd 34 (by decide)
    have d35 : a'.tmps.getD 38 undef = .int .i64 (IntKind.i64.wrap x7.n) := hd 35 (by decide)
    have d36 : a'.tmps.getD 39 undef = .slice (some ⟨g, 0, none⟩) 9 cp := hd 36 (by decide)
    have d37 : a'.tmps.getD 40 undef = .pointer (some ⟨g, 24, none⟩) := hd 37 (by decide)
    have d38 : a'.tmps.getD 41 undef = .pointer (some ⟨g, 25, none⟩) := hd 38 (by decide)
    have d39 : a'.tmps.getD 42 undef = .int .u64 x8.n := hd 39 (by decide)
    have d40 : a'.tmps.getD 43 undef = .int .i64 (IntKind.i64.wrap x8.n) := hd 40 (by decide)
    have d41 : a'.tmps.getD 44 undef = .agg #[.int .i64 (IntKind.i64.wrap x0.n), .string x1.s, .string x2.s, .int .i64 (IntKind.i64.wrap x3.n), .string x4.s, .string x5.s, .int .i64 (backN x6.n), .int .i64 (IntKind.i64.wrap x7.n), .int .i64 (IntKind.i64.wrap x8.n)] := hd 41 (by decide)
    have d42 : True := hd 42 (by decide)
    intro K2 hK2
    have h3 := (hb.block _ (heap_lt hR)).trans hR
    have g2 : a'.tmps.getD 2 undef = .pointer (some ⟨rb, 0, none⟩) := hsa.rest 2 (by rfl)
    have q0 := box_cell h3 0 rfl
    have z0 := box_free h3 0
    have q1 := box_cell h3 1 rfl
    have z1 := box_free h3 1
    have q2 := box_cell h3 2 rfl
    have z2 := box_free h3 2
    have q3 := box_cell h3 3 rfl
    have z3 := box_free h3 3
    have q4 := box_cell h3 4 rfl
    have z4 := box_free h3 4
    have q5 := box_cell h3 5 rfl
    have z5 := box_free h3 5
    have q6 := box_cell h3 6 rfl
    have z6 := box_free h3 6
    have q7 := box_cell h3 7 rfl
    have z7 := box_free h3 7
    have q8 := box_cell h3 8 rfl
    have z8 := box_free h3 8
    refine op_skip (w' := ((((((((w'.setCell ⟨rb, 0, none⟩ (.int .i64 (IntKind.i64.wrap x0.n))).setCell ⟨rb, 1, none⟩ (.string x1.s)).setCell ⟨rb, 2, none⟩ (.string x2.s)).setCell ⟨rb, 3, none⟩ (.int .i64 (IntKind.i64.wrap x3.n))).setCell ⟨rb, 4, none⟩ (.string x4.s)).setCell ⟨rb, 5, none⟩ (.string x5.s)).setCell ⟨rb, 6, none⟩ (.int .i64 (backN x6.n))).setCell ⟨rb, 7, none⟩ (.int .i64 (IntKind.i64.wrap x7.n))).setCell ⟨rb, 8, none⟩ (.int .i64 (IntKind.i64.wrap x8.n))) ?_ (hK2 _ _ ?_)
    · simp only [execOp, Act.eval, d41, g2]
      first | (go_simp; done) | (go_simp; rfl)
    refine HQ.out _ _ ⟨hsa.size.trans rfl, hsa.defers.trans rfl, hsa.rest 0 (by rfl), hsa.rest 2 (by rfl)⟩ ?_ ?_
    · have h9 := box_set (box_set (box_set (box_set (box_set (box_set (box_set (box_set (box_set (h3) 0 (.int .i64 (IntKind.i64.wrap x0.n))) 1 (.string x1.s)) 2 (.string x2.s)) 3 (.int .i64 (IntKind.i64.wrap x3.n))) 4 (.string x4.s)) 5 (.string x5.s)) 6 (.int .i64 (backN x6.n))) 7 (.int .i64 (IntKind.i64.wrap x7.n))) 8 (.int .i64 (IntKind.i64.wrap x8.n))
      simpa using h9
    · have hb := hb.mono hB
      exact (((((((((hb).setCell (p := ⟨rb, 0, none⟩) hrb _).setCell (p := ⟨rb, 1, none⟩) hrb _).setCell (p := ⟨rb, 2, none⟩) hrb _).setCell (p := ⟨rb, 3, none⟩) hrb _).setCell (p := ⟨rb, 4, none⟩) hrb _).setCell (p := ⟨rb, 5, none⟩) hrb _).setCell (p := ⟨rb, 6, none⟩) hrb _).setCell (p := ⟨rb, 7, none⟩) hrb _).setCell (p := ⟨rb, 8, none⟩) hrb _
def cmW (x0 x1 x2 x3 x4 x5 x6 x7 x8 : K.It) : CM := ⟨IntKind.i64.wrap x0.n, x1.s, x2.s, IntKind.i64.wrap x3.n, x4.s, x5.s, backN x6.n, IntKind.i64.wrap x7.n, IntKind.i64.wrap x8.n⟩
theorem co_ret {W : World} {a : Act} {v : Vco} {rb : Nat} {c : CM} {R : Ending → World → Prop} (hF : Fco a v) (h2 : v.v2 = .pointer (some ⟨rb, 0, none⟩)) (hR : W.heap[rb]? = some (.cells c.cells 31 (0, 0))) (h : R (.returned c.v) W) :
    bodyPost Tryz.prog Tryz.f55 R .ret a W := by
  have g2 := slot_get (hF.s2.trans h2)
  have c0 := box_cell hR 0 rfl
  have c1 := box_cell hR 1 rfl
  have c2 := box_cell hR 2 rfl
  have c3 := box_cell hR 3 rfl
  have c4 := box_cell hR 4 rfl
  have c5 := box_cell hR 5 rfl
  have c6 := box_cell hR 6 rfl
  have c7 := box_cell hR 7 rfl
  have c8 := box_cell hR 8 rfl
  refine bodyPost_ret (v := c.v) ?_ hF.defers h
  simp [results, Tryz.results55, go_sem, g2, c0, c1, c2, c3, c4, c5, c6, c7, c8, CM.v, CM.cells]
theorem it_cell {w : World} {ao : Option Addr} {l : List K.It} (h : K.ItemsAt w ao l) {g : Nat} (hg : ao = some ⟨g, 0, none⟩) {i : Nat} {x : K.It} (hx : l[i]? = some x) : w.cell? ⟨g, i * 3 + 1, none⟩ = some (.int .u64 x.n) ∧ w.cell? ⟨g, i * 3 + 2, none⟩ = some (.string x.s) ∧ g < w.heap.size := by
  obtain ⟨hi, rfl⟩ := List.getElem?_eq_some_iff.1 hx
  obtain ⟨b, off, e1, e2, e3, e4, e5⟩ := h i hi
  rw [hg] at e1
  cases e1
  rw [Nat.zero_add] at e3 e4 e5
  exact ⟨e4, e5, e2⟩
theorem pcmd (g cp : Nat) (x0 x1 x2 x3 x4 x5 x6 x7 x8 : K.It) (w : World) (hat : K.ItemsAt w (some ⟨g, 0, none⟩) [x0, x1, x2, x3, x4, x5, x6, x7, x8]) :
    Calls Tryz.prog 55 #[.slice (some ⟨g, 0, none⟩) 9 cp] w fun e w' => e = .returned (cmW x0 x1 x2 x3 x4 x5 x6 x7 x8).v ∧ Below w.heap.size w w' := by
  have hg := (it_cell hat rfl (i := 0) (x := x0) rfl).2.2
  have HX := hide (heap_alloc_new w (.cells #[.int .i64 0, .string ⟨#[]⟩, .string ⟨#[]⟩, .int .i64 0, .string ⟨#[]⟩, .string ⟨#[]⟩, .int .i64 0, .int .i64 0, .int .i64 0] 31))
  have HB := hide ((Below.refl w.heap.size w).alloc (Nat.le_refl _) (.cells #[.int .i64 0, .string ⟨#[]⟩, .string ⟨#[]⟩, .int .i64 0, .string ⟨#[]⟩, .string ⟨#[]⟩, .int .i64 0, .int .i64 0, .int .i64 0] 31))
  have HA := hide hat
  have HG := hide hg
  clear hat hg
  go_enter Tryz.func55, Tryz.ntmps55
  go_upto_region 1 with fail
  rename_i Ko hKo
  generalize w.alloc (.cells #[.int .i64 0, .string ⟨#[]⟩, .string ⟨#[]⟩, .int .i64 0, .string ⟨#[]⟩, .string ⟨#[]⟩, .int .i64 0, .int .i64 0, .int .i64 0] 31) = w1 at *
  have hl : g < w1.heap.size := Nat.lt_of_lt_of_le HG.out HB.out.size
  have hc := fun k => HB.out.cell (p := ⟨g, k, none⟩) HG.out
  refine reg_mono (co_r1 (B := w.heap.size) (x0 := x0) (x1 := x1) (x2 := x2) (x3 := x3) (x4 := x4) (x5 := x5) (x6 := x6) (x7 := x7) (x8 := x8) (by kernel_rfl) _ (v := ⟨_, _⟩) ⟨rfl, rfl, rfl, rfl⟩ rfl rfl hl HX.out (Nat.le_refl _) HB.out.size ((hc _).trans (it_cell HA.out rfl (i := 0) (x := x0) rfl).1) ((hc _).trans (it_cell HA.out rfl (i := 1) (x := x1) rfl).2.1) ((hc _).trans (it_cell HA.out rfl (i := 2) (x := x2) rfl).2.1) ((hc _).trans (it_cell HA.out rfl (i := 3) (x := x3) rfl).1) ((hc _).trans (it_cell HA.out rfl (i := 4) (x := x4) rfl).2.1) ((hc _).trans (it_cell HA.out rfl (i := 5) (x := x5) rfl).2.1) ((hc _).trans (it_cell HA.out rfl (i := 6) (x := x6) rfl).1) ((hc _).trans (it_cell HA.out rfl (i := 7) (x := x7) rfl).1) ((hc _).trans (it_cell HA.out rfl (i := 8) (x := x8) rfl).1) fun a' w' hF hR hW => hKo _ _ ?_)
  refine wp_ret ?_
  exact co_ret (c := cmW x0 x1 x2 x3 x4 x5 x6 x7 x8) hF rfl hR ⟨rfl, HB.out.trans hW⟩
end Go.Proofs.YtlfodldlkchmoaaGreat
