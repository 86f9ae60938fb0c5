/-
  seek, as it runs (mksk.py).
-/
import Derived.Test.YtlfodldlkchmoaaGreatZSG
namespace Go.Proofs.YtlfodldlkchmoaaGreat.Y
open Go.RowKit
set_option maxHeartbeats 8000000
set_option maxRecDepth 100000
attribute [local go_sem ↓] Go.wp_at_zero Go.wp_at_succ
set_option linter.unusedSimpArgs false
set_option linter.unusedVariables false
theorem frame_sk (t : Array Value) (h : t.size = 30) : ∃ u : Nat → Value, t = List.toArray (u 0 :: u 1 :: u 2 :: u 3 :: u 4 :: u 5 :: u 6 :: u 7 :: u 8 :: u 9 :: u 10 :: u 11 :: u 12 :: u 13 :: u 14 :: u 15 :: u 16 :: u 17 :: u 18 :: u 19 :: u 20 :: u 21 :: u 22 :: u 23 :: u 24 :: u 25 :: u 26 :: u 27 :: u 28 :: u 29 :: []) := by
  refine ⟨fun i => t.getD i undef, ?_⟩
  refine Eq.trans (b := ((List.range 30).map fun i => t.getD i undef).toArray) ?_ rfl
  apply Array.ext
  · simp [h]
  · intro k h1 h2
    simp [Array.getD, h1]
structure Vsk where
  v0 : Value
  v1 : Value
  v2 : Value
  v3 : Value
  v6 : Value
  v7 : Value
  v8 : Value
structure Fsk (a : Act) (v : Vsk) : Prop where
  size : a.tmps.size = 30
  defers : a.defers = []
  s0 : a.tmps.getD 0 undef = v.v0
  s1 : a.tmps.getD 1 undef = v.v1
  s2 : a.tmps.getD 2 undef = v.v2
  s3 : a.tmps.getD 3 undef = v.v3
  s6 : a.tmps.getD 6 undef = v.v6
  s7 : a.tmps.getD 7 undef = v.v7
  s8 : a.tmps.getD 8 undef = v.v8
theorem frx_sk {a : Act} {v0 v1 v2 v3 v6 v7 v8 : Value} (h : Fsk a ⟨v0, v1, v2, v3, v6, v7, v8⟩) : ∃ u : Nat → Value, a = ⟨List.toArray (v0 :: v1 :: v2 :: v3 :: u 4 :: u 5 :: v6 :: v7 :: v8 :: u 9 :: u 10 :: u 11 :: u 12 :: u 13 :: u 14 :: u 15 :: u 16 :: u 17 :: u 18 :: u 19 :: u 20 :: u 21 :: u 22 :: u 23 :: u 24 :: u 25 :: u 26 :: u 27 :: u 28 :: u 29 :: []), []⟩ := by
  obtain ⟨t', d'⟩ := a
  obtain ⟨hs, hd, q0, q1, q2, q3, q6, q7, q8⟩ := h
  obtain ⟨u, hu⟩ := frame_sk t' hs
  simp only at hd q0 q1 q2 q3 q6 q7 q8
  subst hu hd
  have e0 : u 0 = v0 := q0
  have e1 : u 1 = v1 := q1
  have e2 : u 2 = v2 := q2
  have e3 : u 3 = v3 := q3
  have e6 : u 6 = v6 := q6
  have e7 : u 7 = v7 := q7
  have e8 : u 8 = v8 := q8
  refine ⟨u, ?_⟩
  rw [e0, e1, e2, e3, e6, e7, e8]
theorem sk_r0 {K : Act → World → Prop} {c : Code} (hc : regOf (Tryz.f137.body.getD .skip) 0 = some c) (a : Act) {v : Vsk} {wq : World} {xn xt : ByteArray} {xc xx : Int} (hF : Fsk a v) (h0v : v.v0 = .agg #[.string xn, .string xt, .int .i64 xc, .int .i64 xx]) (hQ : ∀ a', Fsk a' { v with v3 := .pointer (some ⟨wq.heap.size, 0, none⟩), v6 := .pointer (some ⟨wq.heap.size + 1, 0, none⟩), v7 := .slice none 0 0, v8 := .bool false } → K a' ((wq.alloc (.cells #[.string xn, .string xt, .int .i64 xc, .int .i64 xx] 190)).alloc (.cells #[.string ⟨#[]⟩, .string ⟨#[]⟩, .int .i64 0, .int .i64 0] 190))) :
    Code.wp Tryz.prog c (Exit.then K fun _ _ _ => False) a wq := by
  have HQ := hide hQ
  clear hQ
  obtain ⟨v0, v1, v2, v3, v6, v7, v8⟩ := v
  simp only at h0v HQ
  subst h0v
  obtain ⟨u, rfl⟩ := frx_sk hF
  clear hF
  simp only [Tryz.f137, Option.getD_some, regOf] at hc
  injection hc with hc
  subst hc
  go_wp2
  exact HQ.out _ ⟨rfl, rfl, rfl, rfl, rfl, rfl, rfl, rfl, rfl⟩
theorem sk_r1a {K : Act → World → Prop} {c : Code} (hc : regOf (Tryz.f137.body.getD .skip) 1 = some c) (a : Act) {v : Vsk} {wq : World} {L : LOC} {G : TG} {ct sb : Nat} {xn xt : ByteArray} {xc xx nn : Int} (hF : Fsk a v) (h1v : v.v1 = .pointer (some ⟨L.b, 0, none⟩)) (h2v : v.v2 = .int .i64 nn) (h3v : v.v3 = .pointer (some ⟨sb, 0, none⟩)) (hT : TAt wq L G) (hk : G.Ok ct) (hS : wq.heap[sb]? = some (.cells #[.string xn, .string xt, .int .i64 xc, .int .i64 xx] 190 (0, 0))) (y1 : (xt.toList == G.name.toList) = false)
    (hQ : ∀ a' w', Fsk a' v → a'.tmps.getD 23 undef = .bool true → Below wq.heap.size wq w' → K a' w') :
    Code.wp Tryz.prog c (Exit.then K fun _ _ _ => False) a wq := by
  have HQ := hide hQ
  clear hQ
  obtain ⟨v0, v1, v2, v3, v6, v7, v8⟩ := v
  simp only at h1v h2v h3v HQ
  subst h1v h2v h3v
  obtain ⟨u, rfl⟩ := frx_sk hF
  clear hF
  simp only [Tryz.f137, Option.getD_some, regOf] at hc
  injection hc with hc
  subst hc
  have HS := hide hS
  have HT := hide hT
  have HK := hide hk
  clear hS hT hk
  have HY := hide y1
  clear y1
  refine wp_region_phi (by kernel_rfl) (ns := 30) (uses := (fun i => match i with | 0 => [9] | 1 => [10] | 2 => [11] | 3 => [12] | 4 => [13] | 5 => [14] | 6 => [15] | 7 => [16] | 8 => [17] | 9 => [18] | 10 => [19] | 11 => [20] | 12 => [21] | 13 => [22] | 14 => [23] | _ => [])) (by kernel_rfl) (by kernel_rfl) (fun _ w w' => Below w.heap.size w w') (fun w => Below wq.heap.size wq w) (fun _ _ _ h r => h.trans (r.mono h.size)) ((Below.refl _ _).drew) (fun i => match i with | 0 => fun s w => s 9 = .pointer (some ⟨sb, 1, none⟩) | 1 => fun s w => s 10 = .string xt | 2 => fun s w => s 11 = .pointer (some ⟨L.b, 0, none⟩) | 3 => fun s w => s 12 = .string G.name | 4 => fun s w => s 13 = .bool true | 5 => fun s w => s 14 = .bool true | 6 => fun s w => s 15 = undef | 7 => fun s w => s 16 = undef | 8 => fun s w => s 17 = .bool true | 9 => fun s w => s 18 = .bool true | 10 => fun s w => s 19 = undef | 11 => fun s w => s 20 = undef | 12 => fun s w => s 21 = undef | 13 => fun s w => s 22 = undef | 14 => fun s w => s 23 = .bool true | _ => fun _ _ => True) ?phc ?phh ?pstep ?pdone
  case phc =>
    intro i s s' w hx h
    match i, hx, h with
    | 0, hx, h => exact (hx 9 (by simp)).symm.trans h
    | 1, hx, h => exact (hx 10 (by simp)).symm.trans h
    | 2, hx, h => exact (hx 11 (by simp)).symm.trans h
    | 3, hx, h => exact (hx 12 (by simp)).symm.trans h
    | 4, hx, h => exact (hx 13 (by simp)).symm.trans h
    | 5, hx, h => exact (hx 14 (by simp)).symm.trans h
    | 6, hx, h => exact (hx 15 (by simp)).symm.trans h
    | 7, hx, h => exact (hx 16 (by simp)).symm.trans h
    | 8, hx, h => exact (hx 17 (by simp)).symm.trans h
    | 9, hx, h => exact (hx 18 (by simp)).symm.trans h
    | 10, hx, h => exact (hx 19 (by simp)).symm.trans h
    | 11, hx, h => exact (hx 20 (by simp)).symm.trans h
    | 12, hx, h => exact (hx 21 (by simp)).symm.trans h
    | 13, hx, h => exact (hx 22 (by simp)).symm.trans h
    | 14, hx, h => exact (hx 23 (by simp)).symm.trans h
    | (n + 15), _, h => exact h
  case phh =>
    intro i j s w w' hij h hb r
    match i, hij, h with
    | 0, hij, h =>
      exact h
    | 1, hij, h =>
      exact h
    | 2, hij, h =>
      exact h
    | 3, hij, h =>
      exact h
    | 4, hij, h =>
      exact h
    | 5, hij, h =>
      exact h
    | 6, hij, h =>
      exact h
    | 7, hij, h =>
      exact h
    | 8, hij, h =>
      exact h
    | 9, hij, h =>
      exact h
    | 10, hij, h =>
      exact h
    | 11, hij, h =>
      exact h
    | 12, hij, h =>
      exact h
    | 13, hij, h =>
      exact h
    | 14, hij, h =>
      exact h
    | (n + 15), _, h => exact h
  case pstep =>
    intro i o ho a' w' hsa hb hd
    match i, ho with
    | 0, ho =>
      obtain rfl := Option.some.inj ho
      try dsimp only at hd
      have g3 : a'.tmps.getD 3 undef = .pointer (some ⟨sb, 0, none⟩) := hsa.rest 3 (by rfl)
      refine wpOp_of rfl rfl ?_
      refine op_run (v := .pointer (some ⟨sb, 1, none⟩)) (w' := w') ?_ ⟨_, rfl, ?_, ?_⟩
      · simp only [execOp, Act.eval, g3]; first | (go_simp; done) | rfl
      · try dsimp only
        exact (slots_put (ns := 30) (hsa.size.trans rfl) (by decide))
      · exact Below.refl _ _
    | 1, ho =>
      obtain rfl := Option.some.inj ho
      try dsimp only at hd
      have d0 : a'.tmps.getD 9 undef = .pointer (some ⟨sb, 1, none⟩) := hd 0 (by rfl)
      have y := box_cell (Below.at hb HS.out) 1 rfl
      refine wpOp_of rfl rfl ?_
      refine op_run (v := .string xt) (w' := w') ?_ ⟨_, rfl, ?_, ?_⟩
      · simp only [execOp, Act.eval, d0, y]; first | (go_simp; done) | rfl
      · try dsimp only
        exact (slots_put (ns := 30) (hsa.size.trans rfl) (by decide))
      · exact Below.refl _ _
    | 2, ho =>
      obtain rfl := Option.some.inj ho
      try dsimp only at hd
      have g1 : a'.tmps.getD 1 undef = .pointer (some ⟨L.b, 0, none⟩) := hsa.rest 1 (by rfl)
      refine wpOp_of rfl rfl ?_
      refine op_run (v := .pointer (some ⟨L.b, 0, none⟩)) (w' := w') ?_ ⟨_, rfl, ?_, ?_⟩
      · simp only [execOp, Act.eval, g1]; first | (go_simp; done) | rfl
      · try dsimp only
        exact (slots_put (ns := 30) (hsa.size.trans rfl) (by decide))
      · exact Below.refl _ _
    | 3, ho =>
      obtain rfl := Option.some.inj ho
      try dsimp only at hd
      have d2 : a'.tmps.getD 11 undef = .pointer (some ⟨L.b, 0, none⟩) := hd 2 (by rfl)
      refine wpOp_of rfl rfl ?_
      refine op_call 131 _ _ rfl (enters_of Tryz.func131 (by kernel_rfl) rfl) [.pointer (some ⟨L.b, 0, none⟩)] (by simp only [List.map, Act.eval, d2]) (tname (HT.out.below hb) HK.out) ?_
      rintro e w'' ⟨rfl, b2⟩
      refine ⟨_, rfl, _, rfl, ?_, ?_⟩
      · try dsimp only
        exact (slots_put (ns := 30) (hsa.size.trans rfl) (by decide))
      · exact b2
    | 4, ho =>
      obtain rfl := Option.some.inj ho
      try dsimp only at hd
      have d1 : a'.tmps.getD 10 undef = .string xt := hd 1 (by rfl)
      have d3 : a'.tmps.getD 12 undef = .string G.name := hd 3 (by rfl)
      have y := HY.out
      refine wpOp_of rfl rfl ?_
      refine op_run (v := .bool true) (w' := w') ?_ ⟨_, rfl, ?_, ?_⟩
      · simp only [execOp, Act.eval, d1, d3, y]; first | (go_simp; done) | rfl
      · try dsimp only
        exact (slots_put (ns := 30) (hsa.size.trans rfl) (by decide))
      · exact Below.refl _ _
    | 5, ho =>
      obtain rfl := Option.some.inj ho
      try dsimp only at hd
      have d4 : a'.tmps.getD 13 undef = .bool true := hd 4 (by rfl)
      refine wpOp_of rfl rfl ?_
      refine op_run (v := .bool true) (w' := w') ?_ ⟨_, rfl, ?_, ?_⟩
      · simp only [execOp, Act.eval, d4]; first | (go_simp; done) | rfl
      · try dsimp only
        exact (slots_put (ns := 30) (hsa.size.trans rfl) (by decide))
      · exact Below.refl _ _
    | 6, ho =>
      obtain rfl := Option.some.inj ho
      try dsimp only at hd
      have d5 : a'.tmps.getD 14 undef = .bool true := hd 5 (by rfl)
      refine wpOp_off (j := 5) (dj := 14) rfl rfl rfl d5 (by simp [undef]) ⟨undef, rfl, ?_, ?_⟩
      · exact (slots_put (ns := 30) (hsa.size.trans rfl) (by decide))
      · exact Below.refl _ _
    | 7, ho =>
      obtain rfl := Option.some.inj ho
      try dsimp only at hd
      have d5 : a'.tmps.getD 14 undef = .bool true := hd 5 (by rfl)
      refine wpOp_off (j := 5) (dj := 14) rfl rfl rfl d5 (by simp [undef]) ⟨undef, rfl, ?_, ?_⟩
      · exact (slots_put (ns := 30) (hsa.size.trans rfl) (by decide))
      · exact Below.refl _ _
    | 8, ho =>
      obtain rfl := Option.some.inj ho
      try dsimp only at hd
      have d5 : a'.tmps.getD 14 undef = .bool true := hd 5 (by rfl)
      have d7 : a'.tmps.getD 16 undef = undef := hd 7 (by rfl)
      refine wpOp_of rfl rfl ?_
      refine op_run (v := .bool true) (w' := w') ?_ ⟨_, rfl, ?_, ?_⟩
      · simp only [execOp, Act.eval, d5, d7]; first | (go_simp; done) | rfl
      · try dsimp only
        exact (slots_put (ns := 30) (hsa.size.trans rfl) (by decide))
      · exact Below.refl _ _
    | 9, ho =>
      obtain rfl := Option.some.inj ho
      try dsimp only at hd
      have d8 : a'.tmps.getD 17 undef = .bool true := hd 8 (by rfl)
      refine wpOp_of rfl rfl ?_
      refine op_run (v := .bool true) (w' := w') ?_ ⟨_, rfl, ?_, ?_⟩
      · simp only [execOp, Act.eval, d8]; first | (go_simp; done) | rfl
      · try dsimp only
        exact (slots_put (ns := 30) (hsa.size.trans rfl) (by decide))
      · exact Below.refl _ _
    | 10, ho =>
      obtain rfl := Option.some.inj ho
      try dsimp only at hd
      have d9 : a'.tmps.getD 18 undef = .bool true := hd 9 (by rfl)
      refine wpOp_off (j := 9) (dj := 18) rfl rfl rfl d9 (by simp [undef]) ⟨undef, rfl, ?_, ?_⟩
      · exact (slots_put (ns := 30) (hsa.size.trans rfl) (by decide))
      · exact Below.refl _ _
    | 11, ho =>
      obtain rfl := Option.some.inj ho
      try dsimp only at hd
      have d9 : a'.tmps.getD 18 undef = .bool true := hd 9 (by rfl)
      refine wpOp_off (j := 9) (dj := 18) rfl rfl rfl d9 (by simp [undef]) ⟨undef, rfl, ?_, ?_⟩
      · exact (slots_put (ns := 30) (hsa.size.trans rfl) (by decide))
      · exact Below.refl _ _
    | 12, ho =>
      obtain rfl := Option.some.inj ho
      try dsimp only at hd
      have d9 : a'.tmps.getD 18 undef = .bool true := hd 9 (by rfl)
      refine wpOp_off (j := 9) (dj := 18) rfl rfl rfl d9 (by simp [undef]) ⟨undef, rfl, ?_, ?_⟩
      · exact (slots_put (ns := 30) (hsa.size.trans rfl) (by decide))
      · exact Below.refl _ _
    | 13, ho =>
      obtain rfl := Option.some.inj ho
      try dsimp only at hd
      have d9 : a'.tmps.getD 18 undef = .bool true := hd 9 (by rfl)
      refine wpOp_off (j := 9) (dj := 18) rfl rfl rfl d9 (by simp [undef]) ⟨undef, rfl, ?_, ?_⟩
      · exact (slots_put (ns := 30) (hsa.size.trans rfl) (by decide))
      · exact Below.refl _ _
    | 14, ho =>
      obtain rfl := Option.some.inj ho
      try dsimp only at hd
      have d9 : a'.tmps.getD 18 undef = .bool true := hd 9 (by rfl)
      have d13 : a'.tmps.getD 22 undef = undef := hd 13 (by rfl)
      refine wpOp_of rfl rfl ?_
      refine op_run (v := .bool true) (w' := w') ?_ ⟨_, rfl, ?_, ?_⟩
      · simp only [execOp, Act.eval, d9, d13]; first | (go_simp; done) | rfl
      · try dsimp only
        exact (slots_put (ns := 30) (hsa.size.trans rfl) (by decide))
      · exact Below.refl _ _
    | (n + 15), ho => exact absurd ho (by simp)
  case pdone =>
    intro a' w' hsa hb hd
    have d0 : a'.tmps.getD 9 undef = .pointer (some ⟨sb, 1, none⟩) := hd 0 (by decide)
    have d1 : a'.tmps.getD 10 undef = .string xt := hd 1 (by decide)
    have d2 : a'.tmps.getD 11 undef = .pointer (some ⟨L.b, 0, none⟩) := hd 2 (by decide)
    have d3 : a'.tmps.getD 12 undef = .string G.name := hd 3 (by decide)
    have d4 : a'.tmps.getD 13 undef = .bool true := hd 4 (by decide)
    have d5 : a'.tmps.getD 14 undef = .bool true := hd 5 (by decide)
    have d6 : a'.tmps.getD 15 undef = undef := hd 6 (by decide)
    have d7 : a'.tmps.getD 16 undef = undef := hd 7 (by decide)
    have d8 : a'.tmps.getD 17 undef = .bool true := hd 8 (by decide)
    have d9 : a'.tmps.getD 18 undef = .bool true := hd 9 (by decide)
    have d10 : a'.tmps.getD 19 undef = undef := hd 10 (by decide)
    have d11 : a'.tmps.getD 20 undef = undef := hd 11 (by decide)
    have d12 : a'.tmps.getD 21 undef = undef := hd 12 (by decide)
    have d13 : a'.tmps.getD 22 undef = undef := hd 13 (by decide)
    have d14 : a'.tmps.getD 23 undef = .bool true := hd 14 (by decide)
    exact HQ.out _ _ ⟨hsa.size.trans rfl, hsa.defers.trans rfl, hsa.rest 0 (by rfl), hsa.rest 1 (by rfl), hsa.rest 2 (by rfl), hsa.rest 3 (by rfl), hsa.rest 6 (by rfl), hsa.rest 7 (by rfl), hsa.rest 8 (by rfl)⟩ d14 hb
theorem sk_r1b {K : Act → World → Prop} {c : Code} (hc : regOf (Tryz.f137.body.getD .skip) 1 = some c) (a : Act) {v : Vsk} {wq : World} {L : LOC} {G : TG} {ct sb : Nat} {xn xt : ByteArray} {xc xx nn : Int} (hF : Fsk a v) (h1v : v.v1 = .pointer (some ⟨L.b, 0, none⟩)) (h2v : v.v2 = .int .i64 nn) (h3v : v.v3 = .pointer (some ⟨sb, 0, none⟩)) (hT : TAt wq L G) (hk : G.Ok ct) (hS : wq.heap[sb]? = some (.cells #[.string xn, .string xt, .int .i64 xc, .int .i64 xx] 190 (0, 0))) (y1 : (xt.toList == G.name.toList) = true) (y2 : decide (nn < 0) = true)
    (hQ : ∀ a' w', Fsk a' v → a'.tmps.getD 23 undef = .bool true → Below wq.heap.size wq w' → K a' w') :
    Code.wp Tryz.prog c (Exit.then K fun _ _ _ => False) a wq := by
  have HQ := hide hQ
  clear hQ
  obtain ⟨v0, v1, v2, v3, v6, v7, v8⟩ := v
  simp only at h1v h2v h3v HQ
  subst h1v h2v h3v
  obtain ⟨u, rfl⟩ := frx_sk hF
  clear hF
  simp only [Tryz.f137, Option.getD_some, regOf] at hc
  injection hc with hc
  subst hc
  have HS := hide hS
  have HT := hide hT
  have HK := hide hk
  clear hS hT hk
  have HY := hide y1
  have HY2 := hide y2
  clear y1 y2
  refine wp_region_phi (by kernel_rfl) (ns := 30) (uses := (fun i => match i with | 0 => [9] | 1 => [10] | 2 => [11] | 3 => [12] | 4 => [13] | 5 => [14] | 6 => [15] | 7 => [16] | 8 => [17] | 9 => [18] | 10 => [19] | 11 => [20] | 12 => [21] | 13 => [22] | 14 => [23] | _ => [])) (by kernel_rfl) (by kernel_rfl) (fun _ w w' => Below w.heap.size w w') (fun w => Below wq.heap.size wq w) (fun _ _ _ h r => h.trans (r.mono h.size)) ((Below.refl _ _).drew) (fun i => match i with | 0 => fun s w => s 9 = .pointer (some ⟨sb, 1, none⟩) | 1 => fun s w => s 10 = .string xt | 2 => fun s w => s 11 = .pointer (some ⟨L.b, 0, none⟩) | 3 => fun s w => s 12 = .string G.name | 4 => fun s w => s 13 = .bool false | 5 => fun s w => s 14 = .bool false | 6 => fun s w => s 15 = .int .i64 nn | 7 => fun s w => s 16 = .bool true | 8 => fun s w => s 17 = .bool true | 9 => fun s w => s 18 = .bool true | 10 => fun s w => s 19 = undef | 11 => fun s w => s 20 = undef | 12 => fun s w => s 21 = undef | 13 => fun s w => s 22 = undef | 14 => fun s w => s 23 = .bool true | _ => fun _ _ => True) ?phc ?phh ?pstep ?pdone
  case phc =>
    intro i s s' w hx h
    match i, hx, h with
    | 0, hx, h => exact (hx 9 (by simp)).symm.trans h
    | 1, hx, h => exact (hx 10 (by simp)).symm.trans h
    | 2, hx, h => exact (hx 11 (by simp)).symm.trans h
    | 3, hx, h => exact (hx 12 (by simp)).symm.trans h
    | 4, hx, h => exact (hx 13 (by simp)).symm.trans h
    | 5, hx, h => exact (hx 14 (by simp)).symm.trans h
    | 6, hx, h => exact (hx 15 (by simp)).symm.trans h
    | 7, hx, h => exact (hx 16 (by simp)).symm.trans h
    | 8, hx, h => exact (hx 17 (by simp)).symm.trans h
    | 9, hx, h => exact (hx 18 (by simp)).symm.trans h
    | 10, hx, h => exact (hx 19 (by simp)).symm.trans h
    | 11, hx, h => exact (hx 20 (by simp)).symm.trans h
    | 12, hx, h => exact (hx 21 (by simp)).symm.trans h
    | 13, hx, h => exact (hx 22 (by simp)).symm.trans h
    | 14, hx, h => exact (hx 23 (by simp)).symm.trans h
    | (n + 15), _, h => exact h
  case phh =>
    intro i j s w w' hij h hb r
    match i, hij, h with
    | 0, hij, h =>
      exact h
    | 1, hij, h =>
      exact h
    | 2, hij, h =>
      exact h
    | 3, hij, h =>
      exact h
    | 4, hij, h =>
      exact h
    | 5, hij, h =>
      exact h
    | 6, hij, h =>
      exact h
    | 7, hij, h =>
      exact h
    | 8, hij, h =>
      exact h
    | 9, hij, h =>
      exact h
    | 10, hij, h =>
      exact h
    | 11, hij, h =>
      exact h
    | 12, hij, h =>
      exact h
    | 13, hij, h =>
      exact h
    | 14, hij, h =>
      exact h
    | (n + 15), _, h => exact h
  case pstep =>
    intro i o ho a' w' hsa hb hd
    match i, ho with
    | 0, ho =>
      obtain rfl := Option.some.inj ho
      try dsimp only at hd
      have g3 : a'.tmps.getD 3 undef = .pointer (some ⟨sb, 0, none⟩) := hsa.rest 3 (by rfl)
      refine wpOp_of rfl rfl ?_
      refine op_run (v := .pointer (some ⟨sb, 1, none⟩)) (w' := w') ?_ ⟨_, rfl, ?_, ?_⟩
      · simp only [execOp, Act.eval, g3]; first | (go_simp; done) | rfl
      · try dsimp only
        exact (slots_put (ns := 30) (hsa.size.trans rfl) (by decide))
      · exact Below.refl _ _
    | 1, ho =>
      obtain rfl := Option.some.inj ho
      try dsimp only at hd
      have d0 : a'.tmps.getD 9 undef = .pointer (some ⟨sb, 1, none⟩) := hd 0 (by rfl)
      have y := box_cell (Below.at hb HS.out) 1 rfl
      refine wpOp_of rfl rfl ?_
      refine op_run (v := .string xt) (w' := w') ?_ ⟨_, rfl, ?_, ?_⟩
      · simp only [execOp, Act.eval, d0, y]; first | (go_simp; done) | rfl
      · try dsimp only
        exact (slots_put (ns := 30) (hsa.size.trans rfl) (by decide))
      · exact Below.refl _ _
    | 2, ho =>
      obtain rfl := Option.some.inj ho
      try dsimp only at hd
      have g1 : a'.tmps.getD 1 undef = .pointer (some ⟨L.b, 0, none⟩) := hsa.rest 1 (by rfl)
      refine wpOp_of rfl rfl ?_
      refine op_run (v := .pointer (some ⟨L.b, 0, none⟩)) (w' := w') ?_ ⟨_, rfl, ?_, ?_⟩
      · simp only [execOp, Act.eval, g1]; first | (go_simp; done) | rfl
      · try dsimp only
        exact (slots_put (ns := 30) (hsa.size.trans rfl) (by decide))
      · exact Below.refl _ _
    | 3, ho =>
      obtain rfl := Option.some.inj ho
      try dsimp only at hd
      have d2 : a'.tmps.getD 11 undef = .pointer (some ⟨L.b, 0, none⟩) := hd 2 (by rfl)
      refine wpOp_of rfl rfl ?_
      refine op_call 131 _ _ rfl (enters_of Tryz.func131 (by kernel_rfl) rfl) [.pointer (some ⟨L.b, 0, none⟩)] (by simp only [List.map, Act.eval, d2]) (tname (HT.out.below hb) HK.out) ?_
      rintro e w'' ⟨rfl, b2⟩
      refine ⟨_, rfl, _, rfl, ?_, ?_⟩
      · try dsimp only
        exact (slots_put (ns := 30) (hsa.size.trans rfl) (by decide))
      · exact b2
    | 4, ho =>
      obtain rfl := Option.some.inj ho
      try dsimp only at hd
      have d1 : a'.tmps.getD 10 undef = .string xt := hd 1 (by rfl)
      have d3 : a'.tmps.getD 12 undef = .string G.name := hd 3 (by rfl)
      have y := HY.out
      refine wpOp_of rfl rfl ?_
      refine op_run (v := .bool false) (w' := w') ?_ ⟨_, rfl, ?_, ?_⟩
      · simp only [execOp, Act.eval, d1, d3, y]; first | (go_simp; done) | rfl
      · try dsimp only
        exact (slots_put (ns := 30) (hsa.size.trans rfl) (by decide))
      · exact Below.refl _ _
    | 5, ho =>
      obtain rfl := Option.some.inj ho
      try dsimp only at hd
      have d4 : a'.tmps.getD 13 undef = .bool false := hd 4 (by rfl)
      refine wpOp_of rfl rfl ?_
      refine op_run (v := .bool false) (w' := w') ?_ ⟨_, rfl, ?_, ?_⟩
      · simp only [execOp, Act.eval, d4]; first | (go_simp; done) | rfl
      · try dsimp only
        exact (slots_put (ns := 30) (hsa.size.trans rfl) (by decide))
      · exact Below.refl _ _
    | 6, ho =>
      obtain rfl := Option.some.inj ho
      try dsimp only at hd
      have d5 : a'.tmps.getD 14 undef = .bool false := hd 5 (by rfl)
      have g2 : a'.tmps.getD 2 undef = .int .i64 nn := hsa.rest 2 (by rfl)
      refine wpOp_on (j := 5) (dj := 14) rfl rfl rfl d5 ?_
      refine op_run (v := .int .i64 nn) (w' := w') ?_ ⟨_, rfl, ?_, ?_⟩
      · simp only [execOp, Act.eval, d5, g2]; first | (go_simp; done) | rfl
      · try dsimp only
        exact (slots_put (ns := 30) (hsa.size.trans rfl) (by decide))
      · exact Below.refl _ _
    | 7, ho =>
      obtain rfl := Option.some.inj ho
      try dsimp only at hd
      have d5 : a'.tmps.getD 14 undef = .bool false := hd 5 (by rfl)
      have d6 : a'.tmps.getD 15 undef = .int .i64 nn := hd 6 (by rfl)
      have y := HY2.out
      refine wpOp_on (j := 5) (dj := 14) rfl rfl rfl d5 ?_
      refine op_run (v := .bool true) (w' := w') ?_ ⟨_, rfl, ?_, ?_⟩
      · simp only [execOp, Act.eval, d5, d6, y]; first | (go_simp; done) | rfl
      · try dsimp only
        exact (slots_put (ns := 30) (hsa.size.trans rfl) (by decide))
      · exact Below.refl _ _
    | 8, ho =>
      obtain rfl := Option.some.inj ho
      try dsimp only at hd
      have d5 : a'.tmps.getD 14 undef = .bool false := hd 5 (by rfl)
      have d7 : a'.tmps.getD 16 undef = .bool true := hd 7 (by rfl)
      refine wpOp_of rfl rfl ?_
      refine op_run (v := .bool true) (w' := w') ?_ ⟨_, rfl, ?_, ?_⟩
      · simp only [execOp, Act.eval, d5, d7]; first | (go_simp; done) | rfl
      · try dsimp only
        exact (slots_put (ns := 30) (hsa.size.trans rfl) (by decide))
      · exact Below.refl _ _
    | 9, ho =>
      obtain rfl := Option.some.inj ho
      try dsimp only at hd
      have d8 : a'.tmps.getD 17 undef = .bool true := hd 8 (by rfl)
      refine wpOp_of rfl rfl ?_
      refine op_run (v := .bool true) (w' := w') ?_ ⟨_, rfl, ?_, ?_⟩
      · simp only [execOp, Act.eval, d8]; first | (go_simp; done) | rfl
      · try dsimp only
        exact (slots_put (ns := 30) (hsa.size.trans rfl) (by decide))
      · exact Below.refl _ _
    | 10, ho =>
      obtain rfl := Option.some.inj ho
      try dsimp only at hd
      have d9 : a'.tmps.getD 18 undef = .bool true := hd 9 (by rfl)
      refine wpOp_off (j := 9) (dj := 18) rfl rfl rfl d9 (by simp [undef]) ⟨undef, rfl, ?_, ?_⟩
      · exact (slots_put (ns := 30) (hsa.size.trans rfl) (by decide))
      · exact Below.refl _ _
    | 11, ho =>
      obtain rfl := Option.some.inj ho
      try dsimp only at hd
      have d9 : a'.tmps.getD 18 undef = .bool true := hd 9 (by rfl)
      refine wpOp_off (j := 9) (dj := 18) rfl rfl rfl d9 (by simp [undef]) ⟨undef, rfl, ?_, ?_⟩
      · exact (slots_put (ns := 30) (hsa.size.trans rfl) (by decide))
      · exact Below.refl _ _
    | 12, ho =>
      obtain rfl := Option.some.inj ho
      try dsimp only at hd
      have d9 : a'.tmps.getD 18 undef = .bool true := hd 9 (by rfl)
      refine wpOp_off (j := 9) (dj := 18) rfl rfl rfl d9 (by simp [undef]) ⟨undef, rfl, ?_, ?_⟩
      · exact (slots_put (ns := 30) (hsa.size.trans rfl) (by decide))
      · exact Below.refl _ _
    | 13, ho =>
      obtain rfl := Option.some.inj ho
      try dsimp only at hd
      have d9 : a'.tmps.getD 18 undef = .bool true := hd 9 (by rfl)
      refine wpOp_off (j := 9) (dj := 18) rfl rfl rfl d9 (by simp [undef]) ⟨undef, rfl, ?_, ?_⟩
      · exact (slots_put (ns := 30) (hsa.size.trans rfl) (by decide))
      · exact Below.refl _ _
    | 14, ho =>
      obtain rfl := Option.some.inj ho
      try dsimp only at hd
      have d9 : a'.tmps.getD 18 undef = .bool true := hd 9 (by rfl)
      have d13 : a'.tmps.getD 22 undef = undef := hd 13 (by rfl)
      refine wpOp_of rfl rfl ?_
      refine op_run (v := .bool true) (w' := w') ?_ ⟨_, rfl, ?_, ?_⟩
      · simp only [execOp, Act.eval, d9, d13]; first | (go_simp; done) | rfl
      · try dsimp only
        exact (slots_put (ns := 30) (hsa.size.trans rfl) (by decide))
      · exact Below.refl _ _
    | (n + 15), ho => exact absurd ho (by simp)
  case pdone =>
    intro a' w' hsa hb hd
    have d0 : a'.tmps.getD 9 undef = .pointer (some ⟨sb, 1, none⟩) := hd 0 (by decide)
    have d1 : a'.tmps.getD 10 undef = .string xt := hd 1 (by decide)
    have d2 : a'.tmps.getD 11 undef = .pointer (some ⟨L.b, 0, none⟩) := hd 2 (by decide)
    have d3 : a'.tmps.getD 12 undef = .string G.name := hd 3 (by decide)
    have d4 : a'.tmps.getD 13 undef = .bool false := hd 4 (by decide)
    have d5 : a'.tmps.getD 14 undef = .bool false := hd 5 (by decide)
    have d6 : a'.tmps.getD 15 undef = .int .i64 nn := hd 6 (by decide)
    have d7 : a'.tmps.getD 16 undef = .bool true := hd 7 (by decide)
    have d8 : a'.tmps.getD 17 undef = .bool true := hd 8 (by decide)
    have d9 : a'.tmps.getD 18 undef = .bool true := hd 9 (by decide)
    have d10 : a'.tmps.getD 19 undef = undef := hd 10 (by decide)
    have d11 : a'.tmps.getD 20 undef = undef := hd 11 (by decide)
    have d12 : a'.tmps.getD 21 undef = undef := hd 12 (by decide)
    have d13 : a'.tmps.getD 22 undef = undef := hd 13 (by decide)
    have d14 : a'.tmps.getD 23 undef = .bool true := hd 14 (by decide)
    exact HQ.out _ _ ⟨hsa.size.trans rfl, hsa.defers.trans rfl, hsa.rest 0 (by rfl), hsa.rest 1 (by rfl), hsa.rest 2 (by rfl), hsa.rest 3 (by rfl), hsa.rest 6 (by rfl), hsa.rest 7 (by rfl), hsa.rest 8 (by rfl)⟩ d14 hb
theorem sk_r1c {K : Act → World → Prop} {c : Code} (hc : regOf (Tryz.f137.body.getD .skip) 1 = some c) (a : Act) {v : Vsk} {wq : World} {L : LOC} {G : TG} {ct sb : Nat} {xn xt : ByteArray} {xc xx nn : Int} (hF : Fsk a v) (h1v : v.v1 = .pointer (some ⟨L.b, 0, none⟩)) (h2v : v.v2 = .int .i64 nn) (h3v : v.v3 = .pointer (some ⟨sb, 0, none⟩)) (hT : TAt wq L G) (hk : G.Ok ct) (hS : wq.heap[sb]? = some (.cells #[.string xn, .string xt, .int .i64 xc, .int .i64 xx] 190 (0, 0))) (y1 : (xt.toList == G.name.toList) = true) (y2 : decide (nn < 0) = false) (y3 : decide (nn > (G.fin : Int)) = true)
    (hQ : ∀ a' w', Fsk a' v → a'.tmps.getD 23 undef = .bool true → Below wq.heap.size wq w' → K a' w') :
    Code.wp Tryz.prog c (Exit.then K fun _ _ _ => False) a wq := by
  have HQ := hide hQ
  clear hQ
  obtain ⟨v0, v1, v2, v3, v6, v7, v8⟩ := v
  simp only at h1v h2v h3v HQ
  subst h1v h2v h3v
  obtain ⟨u, rfl⟩ := frx_sk hF
  clear hF
  simp only [Tryz.f137, Option.getD_some, regOf] at hc
  injection hc with hc
  subst hc
  have HS := hide hS
  have HT := hide hT
  have HK := hide hk
  clear hS hT hk
  have HY := hide y1
  have HY2 := hide y2
  have HY3 := hide y3
  clear y1 y2 y3
  refine wp_region_phi (by kernel_rfl) (ns := 30) (uses := (fun i => match i with | 0 => [9] | 1 => [10] | 2 => [11] | 3 => [12] | 4 => [13] | 5 => [14] | 6 => [15] | 7 => [16] | 8 => [17] | 9 => [18] | 10 => [19] | 11 => [20] | 12 => [21] | 13 => [22] | 14 => [23] | _ => [])) (by kernel_rfl) (by kernel_rfl) (fun _ w w' => Below w.heap.size w w') (fun w => Below wq.heap.size wq w) (fun _ _ _ h r => h.trans (r.mono h.size)) ((Below.refl _ _).drew) (fun i => match i with | 0 => fun s w => s 9 = .pointer (some ⟨sb, 1, none⟩) | 1 => fun s w => s 10 = .string xt | 2 => fun s w => s 11 = .pointer (some ⟨L.b, 0, none⟩) | 3 => fun s w => s 12 = .string G.name | 4 => fun s w => s 13 = .bool false | 5 => fun s w => s 14 = .bool false | 6 => fun s w => s 15 = .int .i64 nn | 7 => fun s w => s 16 = .bool false | 8 => fun s w => s 17 = .bool false | 9 => fun s w => s 18 = .bool false | 10 => fun s w => s 19 = .int .i64 nn | 11 => fun s w => s 20 = .pointer (some ⟨L.b, 0, none⟩) | 12 => fun s w => s 21 = .int .i64 (G.fin : Int) | 13 => fun s w => s 22 = .bool true | 14 => fun s w => s 23 = .bool true | _ => fun _ _ => True) ?phc ?phh ?pstep ?pdone
  case phc =>
    intro i s s' w hx h
    match i, hx, h with
    | 0, hx, h => exact (hx 9 (by simp)).symm.trans h
    | 1, hx, h => exact (hx 10 (by simp)).symm.trans h
    | 2, hx, h => exact (hx 11 (by simp)).symm.trans h
    | 3, hx, h => exact (hx 12 (by simp)).symm.trans h
    | 4, hx, h => exact (hx 13 (by simp)).symm.trans h
    | 5, hx, h => exact (hx 14 (by simp)).symm.trans h
    | 6, hx, h => exact (hx 15 (by simp)).symm.trans h
    | 7, hx, h => exact (hx 16 (by simp)).symm.trans h
    | 8, hx, h => exact (hx 17 (by simp)).symm.trans h
    | 9, hx, h => exact (hx 18 (by simp)).symm.trans h
    | 10, hx, h => exact (hx 19 (by simp)).symm.trans h
    | 11, hx, h => exact (hx 20 (by simp)).symm.trans h
    | 12, hx, h => exact (hx 21 (by simp)).symm.trans h
    | 13, hx, h => exact (hx 22 (by simp)).symm.trans h
    | 14, hx, h => exact (hx 23 (by simp)).symm.trans h
    | (n + 15), _, h => exact h
  case phh =>
    intro i j s w w' hij h hb r
    match i, hij, h with
    | 0, hij, h =>
      exact h
    | 1, hij, h =>
      exact h
    | 2, hij, h =>
      exact h
    | 3, hij, h =>
      exact h
    | 4, hij, h =>
      exact h
    | 5, hij, h =>
      exact h
    | 6, hij, h =>
      exact h
    | 7, hij, h =>
      exact h
    | 8, hij, h =>
      exact h
    | 9, hij, h =>
      exact h
    | 10, hij, h =>
      exact h
    | 11, hij, h =>
      exact h
    | 12, hij, h =>
      exact h
    | 13, hij, h =>
      exact h
    | 14, hij, h =>
      exact h
    | (n + 15), _, h => exact h
  case pstep =>
    intro i o ho a' w' hsa hb hd
    match i, ho with
    | 0, ho =>
      obtain rfl := Option.some.inj ho
      try dsimp only at hd
      have g3 : a'.tmps.getD 3 undef = .pointer (some ⟨sb, 0, none⟩) := hsa.rest 3 (by rfl)
      refine wpOp_of rfl rfl ?_
      refine op_run (v := .pointer (some ⟨sb, 1, none⟩)) (w' := w') ?_ ⟨_, rfl, ?_, ?_⟩
      · simp only [execOp, Act.eval, g3]; first | (go_simp; done) | rfl
      · try dsimp only
        exact (slots_put (ns := 30) (hsa.size.trans rfl) (by decide))
      · exact Below.refl _ _
    | 1, ho =>
      obtain rfl := Option.some.inj ho
      try dsimp only at hd
      have d0 : a'.tmps.getD 9 undef = .pointer (some ⟨sb, 1, none⟩) := hd 0 (by rfl)
      have y := box_cell (Below.at hb HS.out) 1 rfl
      refine wpOp_of rfl rfl ?_
      refine op_run (v := .string xt) (w' := w') ?_ ⟨_, rfl, ?_, ?_⟩
      · simp only [execOp, Act.eval, d0, y]; first | (go_simp; done) | rfl
      · try dsimp only
        exact (slots_put (ns := 30) (hsa.size.trans rfl) (by decide))
      · exact Below.refl _ _
    | 2, ho =>
      obtain rfl := Option.some.inj ho
      try dsimp only at hd
      have g1 : a'.tmps.getD 1 undef = .pointer (some ⟨L.b, 0, none⟩) := hsa.rest 1 (by rfl)
      refine wpOp_of rfl rfl ?_
      refine op_run (v := .pointer (some ⟨L.b, 0, none⟩)) (w' := w') ?_ ⟨_, rfl, ?_, ?_⟩
      · simp only [execOp, Act.eval, g1]; first | (go_simp; done) | rfl
      · try dsimp only
        exact (slots_put (ns := 30) (hsa.size.trans rfl) (by decide))
      · exact Below.refl _ _
    | 3, ho =>
      obtain rfl := Option.some.inj ho
      try dsimp only at hd
      have d2 : a'.tmps.getD 11 undef = .pointer (some ⟨L.b, 0, none⟩) := hd 2 (by rfl)
      refine wpOp_of rfl rfl ?_
      refine op_call 131 _ _ rfl (enters_of Tryz.func131 (by kernel_rfl) rfl) [.pointer (some ⟨L.b, 0, none⟩)] (by simp only [List.map, Act.eval, d2]) (tname (HT.out.below hb) HK.out) ?_
      rintro e w'' ⟨rfl, b2⟩
      refine ⟨_, rfl, _, rfl, ?_, ?_⟩
      · try dsimp only
        exact (slots_put (ns := 30) (hsa.size.trans rfl) (by decide))
      · exact b2
    | 4, ho =>
      obtain rfl := Option.some.inj ho
      try dsimp only at hd
      have d1 : a'.tmps.getD 10 undef = .string xt := hd 1 (by rfl)
      have d3 : a'.tmps.getD 12 undef = .string G.name := hd 3 (by rfl)
      have y := HY.out
      refine wpOp_of rfl rfl ?_
      refine op_run (v := .bool false) (w' := w') ?_ ⟨_, rfl, ?_, ?_⟩
      · simp only [execOp, Act.eval, d1, d3, y]; first | (go_simp; done) | rfl
      · try dsimp only
        exact (slots_put (ns := 30) (hsa.size.trans rfl) (by decide))
      · exact Below.refl _ _
    | 5, ho =>
      obtain rfl := Option.some.inj ho
      try dsimp only at hd
      have d4 : a'.tmps.getD 13 undef = .bool false := hd 4 (by rfl)
      refine wpOp_of rfl rfl ?_
      refine op_run (v := .bool false) (w' := w') ?_ ⟨_, rfl, ?_, ?_⟩
      · simp only [execOp, Act.eval, d4]; first | (go_simp; done) | rfl
      · try dsimp only
        exact (slots_put (ns := 30) (hsa.size.trans rfl) (by decide))
      · exact Below.refl _ _
    | 6, ho =>
      obtain rfl := Option.some.inj ho
      try dsimp only at hd
      have d5 : a'.tmps.getD 14 undef = .bool false := hd 5 (by rfl)
      have g2 : a'.tmps.getD 2 undef = .int .i64 nn := hsa.rest 2 (by rfl)
      refine wpOp_on (j := 5) (dj := 14) rfl rfl rfl d5 ?_
      refine op_run (v := .int .i64 nn) (w' := w') ?_ ⟨_, rfl, ?_, ?_⟩
      · simp only [execOp, Act.eval, d5, g2]; first | (go_simp; done) | rfl
      · try dsimp only
        exact (slots_put (ns := 30) (hsa.size.trans rfl) (by decide))
      · exact Below.refl _ _
    | 7, ho =>
      obtain rfl := Option.some.inj ho
      try dsimp only at hd
      have d5 : a'.tmps.getD 14 undef = .bool false := hd 5 (by rfl)
      have d6 : a'.tmps.getD 15 undef = .int .i64 nn := hd 6 (by rfl)
      have y := HY2.out
      refine wpOp_on (j := 5) (dj := 14) rfl rfl rfl d5 ?_
      refine op_run (v := .bool false) (w' := w') ?_ ⟨_, rfl, ?_, ?_⟩
      · simp only [execOp, Act.eval, d5, d6, y]; first | (go_simp; done) | rfl
      · try dsimp only
        exact (slots_put (ns := 30) (hsa.size.trans rfl) (by decide))
      · exact Below.refl _ _
    | 8, ho =>
      obtain rfl := Option.some.inj ho
      try dsimp only at hd
      have d5 : a'.tmps.getD 14 undef = .bool false := hd 5 (by rfl)
      have d7 : a'.tmps.getD 16 undef = .bool false := hd 7 (by rfl)
      refine wpOp_of rfl rfl ?_
      refine op_run (v := .bool false) (w' := w') ?_ ⟨_, rfl, ?_, ?_⟩
      · simp only [execOp, Act.eval, d5, d7]; first | (go_simp; done) | rfl
      · try dsimp only
        exact (slots_put (ns := 30) (hsa.size.trans rfl) (by decide))
      · exact Below.refl _ _
    | 9, ho =>
      obtain rfl := Option.some.inj ho
      try dsimp only at hd
      have d8 : a'.tmps.getD 17 undef = .bool false := hd 8 (by rfl)
      refine wpOp_of rfl rfl ?_
      refine op_run (v := .bool false) (w' := w') ?_ ⟨_, rfl, ?_, ?_⟩
      · simp only [execOp, Act.eval, d8]; first | (go_simp; done) | rfl
      · try dsimp only
        exact (slots_put (ns := 30) (hsa.size.trans rfl) (by decide))
      · exact Below.refl _ _
    | 10, ho =>
      obtain rfl := Option.some.inj ho
      try dsimp only at hd
      have d9 : a'.tmps.getD 18 undef = .bool false := hd 9 (by rfl)
      have g2 : a'.tmps.getD 2 undef = .int .i64 nn := hsa.rest 2 (by rfl)
      refine wpOp_on (j := 9) (dj := 18) rfl rfl rfl d9 ?_
      refine op_run (v := .int .i64 nn) (w' := w') ?_ ⟨_, rfl, ?_, ?_⟩
      · simp only [execOp, Act.eval, d9, g2]; first | (go_simp; done) | rfl
      · try dsimp only
        exact (slots_put (ns := 30) (hsa.size.trans rfl) (by decide))
      · exact Below.refl _ _
    | 11, ho =>
      obtain rfl := Option.some.inj ho
      try dsimp only at hd
      have d9 : a'.tmps.getD 18 undef = .bool false := hd 9 (by rfl)
      have g1 : a'.tmps.getD 1 undef = .pointer (some ⟨L.b, 0, none⟩) := hsa.rest 1 (by rfl)
      refine wpOp_on (j := 9) (dj := 18) rfl rfl rfl d9 ?_
      refine op_run (v := .pointer (some ⟨L.b, 0, none⟩)) (w' := w') ?_ ⟨_, rfl, ?_, ?_⟩
      · simp only [execOp, Act.eval, d9, g1]; first | (go_simp; done) | rfl
      · try dsimp only
        exact (slots_put (ns := 30) (hsa.size.trans rfl) (by decide))
      · exact Below.refl _ _
    | 12, ho =>
      obtain rfl := Option.some.inj ho
      try dsimp only at hd
      have d9 : a'.tmps.getD 18 undef = .bool false := hd 9 (by rfl)
      have d11 : a'.tmps.getD 20 undef = .pointer (some ⟨L.b, 0, none⟩) := hd 11 (by rfl)
      refine wpOp_on (j := 9) (dj := 18) rfl rfl rfl d9 ?_
      refine op_call 23 _ _ rfl (enters_of Tryz.func23 (by kernel_rfl) rfl) [.pointer (some ⟨L.b, 0, none⟩)] (by simp only [List.map, Act.eval, d9, d11]) (tend (HT.out.below hb)) ?_
      rintro e w'' ⟨rfl, rfl⟩
      refine ⟨_, rfl, _, rfl, ?_, ?_⟩
      · try dsimp only
        exact (slots_put (ns := 30) (hsa.size.trans rfl) (by decide))
      · exact Below.refl _ _
    | 13, ho =>
      obtain rfl := Option.some.inj ho
      try dsimp only at hd
      have d9 : a'.tmps.getD 18 undef = .bool false := hd 9 (by rfl)
      have d10 : a'.tmps.getD 19 undef = .int .i64 nn := hd 10 (by rfl)
      have d12 : a'.tmps.getD 21 undef = .int .i64 (G.fin : Int) := hd 12 (by rfl)
      have y := HY3.out
      refine wpOp_on (j := 9) (dj := 18) rfl rfl rfl d9 ?_
      refine op_run (v := .bool true) (w' := w') ?_ ⟨_, rfl, ?_, ?_⟩
      · simp only [execOp, Act.eval, d9, d10, d12, y]; first | (go_simp; done) | rfl
      · try dsimp only
        exact (slots_put (ns := 30) (hsa.size.trans rfl) (by decide))
      · exact Below.refl _ _
    | 14, ho =>
      obtain rfl := Option.some.inj ho
      try dsimp only at hd
      have d9 : a'.tmps.getD 18 undef = .bool false := hd 9 (by rfl)
      have d13 : a'.tmps.getD 22 undef = .bool true := hd 13 (by rfl)
      refine wpOp_of rfl rfl ?_
      refine op_run (v := .bool true) (w' := w') ?_ ⟨_, rfl, ?_, ?_⟩
      · simp only [execOp, Act.eval, d9, d13]; first | (go_simp; done) | rfl
      · try dsimp only
        exact (slots_put (ns := 30) (hsa.size.trans rfl) (by decide))
      · exact Below.refl _ _
    | (n + 15), ho => exact absurd ho (by simp)
  case pdone =>
    intro a' w' hsa hb hd
    have d0 : a'.tmps.getD 9 undef = .pointer (some ⟨sb, 1, none⟩) := hd 0 (by decide)
    have d1 : a'.tmps.getD 10 undef = .string xt := hd 1 (by decide)
    have d2 : a'.tmps.getD 11 undef = .pointer (some ⟨L.b, 0, none⟩) := hd 2 (by decide)
    have d3 : a'.tmps.getD 12 undef = .string G.name := hd 3 (by decide)
    have d4 : a'.tmps.getD 13 undef = .bool false := hd 4 (by decide)
    have d5 : a'.tmps.getD 14 undef = .bool false := hd 5 (by decide)
    have d6 : a'.tmps.getD 15 undef = .int .i64 nn := hd 6 (by decide)
    have d7 : a'.tmps.getD 16 undef = .bool false := hd 7 (by decide)
    have d8 : a'.tmps.getD 17 undef = .bool false := hd 8 (by decide)
    have d9 : a'.tmps.getD 18 undef = .bool false := hd 9 (by decide)
    have d10 : a'.tmps.getD 19 undef = .int .i64 nn := hd 10 (by decide)
    have d11 : a'.tmps.getD 20 undef = .pointer (some ⟨L.b, 0, none⟩) := hd 11 (by decide)
    have d12 : a'.tmps.getD 21 undef = .int .i64 (G.fin : Int) := hd 12 (by decide)
    have d13 : a'.tmps.getD 22 undef = .bool true := hd 13 (by decide)
    have d14 : a'.tmps.getD 23 undef = .bool true := hd 14 (by decide)
    exact HQ.out _ _ ⟨hsa.size.trans rfl, hsa.defers.trans rfl, hsa.rest 0 (by rfl), hsa.rest 1 (by rfl), hsa.rest 2 (by rfl), hsa.rest 3 (by rfl), hsa.rest 6 (by rfl), hsa.rest 7 (by rfl), hsa.rest 8 (by rfl)⟩ d14 hb
theorem sk_r1d {K : Act → World → Prop} {c : Code} (hc : regOf (Tryz.f137.body.getD .skip) 1 = some c) (a : Act) {v : Vsk} {wq : World} {L : LOC} {G : TG} {ct sb : Nat} {xn xt : ByteArray} {xc xx nn : Int} (hF : Fsk a v) (h1v : v.v1 = .pointer (some ⟨L.b, 0, none⟩)) (h2v : v.v2 = .int .i64 nn) (h3v : v.v3 = .pointer (some ⟨sb, 0, none⟩)) (hT : TAt wq L G) (hk : G.Ok ct) (hS : wq.heap[sb]? = some (.cells #[.string xn, .string xt, .int .i64 xc, .int .i64 xx] 190 (0, 0))) (y1 : (xt.toList == G.name.toList) = true) (y2 : decide (nn < 0) = false) (y3 : decide (nn > (G.fin : Int)) = false)
    (hQ : ∀ a' w', Fsk a' v → a'.tmps.getD 23 undef = .bool false → Below wq.heap.size wq w' → K a' w') :
    Code.wp Tryz.prog c (Exit.then K fun _ _ _ => False) a wq := by
  have HQ := hide hQ
  clear hQ
  obtain ⟨v0, v1, v2, v3, v6, v7, v8⟩ := v
  simp only at h1v h2v h3v HQ
  subst h1v h2v h3v
  obtain ⟨u, rfl⟩ := frx_sk hF
  clear hF
  simp only [Tryz.f137, Option.getD_some, regOf] at hc
  injection hc with hc
  subst hc
  have HS := hide hS
  have HT := hide hT
  have HK := hide hk
  clear hS hT hk
  have HY := hide y1
  have HY2 := hide y2
  have HY3 := hide y3
  clear y1 y2 y3
  refine wp_region_phi (by kernel_rfl) (ns := 30) (uses := (fun i => match i with | 0 => [9] | 1 => [10] | 2 => [11] | 3 => [12] | 4 => [13] | 5 => [14] | 6 => [15] | 7 => [16] | 8 => [17] | 9 => [18] | 10 => [19] | 11 => [20] | 12 => [21] | 13 => [22] | 14 => [23] | _ => [])) (by kernel_rfl) (by kernel_rfl) (fun _ w w' => Below w.heap.size w w') (fun w => Below wq.heap.size wq w) (fun _ _ _ h r => h.trans (r.mono h.size)) ((Below.refl _ _).drew) (fun i => match i with | 0 => fun s w => s 9 = .pointer (some ⟨sb, 1, none⟩) | 1 => fun s w => s 10 = .string xt | 2 => fun s w => s 11 = .pointer (some ⟨L.b, 0, none⟩) | 3 => fun s w => s 12 = .string G.name | 4 => fun s w => s 13 = .bool false | 5 => fun s w => s 14 = .bool false | 6 => fun s w => s 15 = .int .i64 nn | 7 => fun s w => s 16 = .bool false | 8 => fun s w => s 17 = .bool false | 9 => fun s w => s 18 = .bool false | 10 => fun s w => s 19 = .int .i64 nn | 11 => fun s w => s 20 = .pointer (some ⟨L.b, 0, none⟩) | 12 => fun s w => s 21 = .int .i64 (G.fin : Int) | 13 => fun s w => s 22 = .bool false | 14 => fun s w => s 23 = .bool false | _ => fun _ _ => True) ?phc ?phh ?pstep ?pdone
  case phc =>
    intro i s s' w hx h
    match i, hx, h with
    | 0, hx, h => exact (hx 9 (by simp)).symm.trans h
    | 1, hx, h => exact (hx 10 (by simp)).symm.trans h
    | 2, hx, h => exact (hx 11 (by simp)).symm.trans h
    | 3, hx, h => exact (hx 12 (by simp)).symm.trans h
    | 4, hx, h => exact (hx 13 (by simp)).symm.trans h
    | 5, hx, h => exact (hx 14 (by simp)).symm.trans h
    | 6, hx, h => exact (hx 15 (by simp)).symm.trans h
    | 7, hx, h => exact (hx 16 (by simp)).symm.trans h
    | 8, hx, h => exact (hx 17 (by simp)).symm.trans h
    | 9, hx, h => exact (hx 18 (by simp)).symm.trans h
    | 10, hx, h => exact (hx 19 (by simp)).symm.trans h
    | 11, hx, h => exact (hx 20 (by simp)).symm.trans h
    | 12, hx, h => exact (hx 21 (by simp)).symm.trans h
    | 13, hx, h => exact (hx 22 (by simp)).symm.trans h
    | 14, hx, h => exact (hx 23 (by simp)).symm.trans h
    | (n + 15), _, h => exact h
  case phh =>
    intro i j s w w' hij h hb r
    match i, hij, h with
    | 0, hij, h =>
      exact h
    | 1, hij, h =>
      exact h
    | 2, hij, h =>
      exact h
    | 3, hij, h =>
      exact h
    | 4, hij, h =>
      exact h
    | 5, hij, h =>
      exact h
    | 6, hij, h =>
      exact h
    | 7, hij, h =>
      exact h
    | 8, hij, h =>
      exact h
    | 9, hij, h =>
      exact h
    | 10, hij, h =>
      exact h
    | 11, hij, h =>
      exact h
    | 12, hij, h =>
      exact h
    | 13, hij, h =>
      exact h
    | 14, hij, h =>
      exact h
    | (n + 15), _, h => exact h
  case pstep =>
    intro i o ho a' w' hsa hb hd
    match i, ho with
    | 0, ho =>
      obtain rfl := Option.some.inj ho
      try dsimp only at hd
      have g3 : a'.tmps.getD 3 undef = .pointer (some ⟨sb, 0, none⟩) := hsa.rest 3 (by rfl)
      refine wpOp_of rfl rfl ?_
      refine op_run (v := .pointer (some ⟨sb, 1, none⟩)) (w' := w') ?_ ⟨_, rfl, ?_, ?_⟩
      · simp only [execOp, Act.eval, g3]; first | (go_simp; done) | rfl
      · try dsimp only
        exact (slots_put (ns := 30) (hsa.size.trans rfl) (by decide))
      · exact Below.refl _ _
    | 1, ho =>
      obtain rfl := Option.some.inj ho
      try dsimp only at hd
      have d0 : a'.tmps.getD 9 undef = .pointer (some ⟨sb, 1, none⟩) := hd 0 (by rfl)
      have y := box_cell (Below.at hb HS.out) 1 rfl
      refine wpOp_of rfl rfl ?_
      refine op_run (v := .string xt) (w' := w') ?_ ⟨_, rfl, ?_, ?_⟩
      · simp only [execOp, Act.eval, d0, y]; first | (go_simp; done) | rfl
      · try dsimp only
        exact (slots_put (ns := 30) (hsa.size.trans rfl) (by decide))
      · exact Below.refl _ _
    | 2, ho =>
      obtain rfl := Option.some.inj ho
      try dsimp only at hd
      have g1 : a'.tmps.getD 1 undef = .pointer (some ⟨L.b, 0, none⟩) := hsa.rest 1 (by rfl)
      refine wpOp_of rfl rfl ?_
      refine op_run (v := .pointer (some ⟨L.b, 0, none⟩)) (w' := w') ?_ ⟨_, rfl, ?_, ?_⟩
      · simp only [execOp, Act.eval, g1]; first | (go_simp; done) | rfl
      · try dsimp only
        exact (slots_put (ns := 30) (hsa.size.trans rfl) (by decide))
      · exact Below.refl _ _
    | 3, ho =>
      obtain rfl := Option.some.inj ho
      try dsimp only at hd
      have d2 : a'.tmps.getD 11 undef = .pointer (some ⟨L.b, 0, none⟩) := hd 2 (by rfl)
      refine wpOp_of rfl rfl ?_
      refine op_call 131 _ _ rfl (enters_of Tryz.func131 (by kernel_rfl) rfl) [.pointer (some ⟨L.b, 0, none⟩)] (by simp only [List.map, Act.eval, d2]) (tname (HT.out.below hb) HK.out) ?_
      rintro e w'' ⟨rfl, b2⟩
      refine ⟨_, rfl, _, rfl, ?_, ?_⟩
      · try dsimp only
        exact (slots_put (ns := 30) (hsa.size.trans rfl) (by decide))
      · exact b2
    | 4, ho =>
      obtain rfl := Option.some.inj ho
      try dsimp only at hd
      have d1 : a'.tmps.getD 10 undef = .string xt := hd 1 (by rfl)
      have d3 : a'.tmps.getD 12 undef = .string G.name := hd 3 (by rfl)
      have y := HY.out
      refine wpOp_of rfl rfl ?_
      refine op_run (v := .bool false) (w' := w') ?_ ⟨_, rfl, ?_, ?_⟩
      · simp only [execOp, Act.eval, d1, d3, y]; first | (go_simp; done) | rfl
      · try dsimp only
        exact (slots_put (ns := 30) (hsa.size.trans rfl) (by decide))
      · exact Below.refl _ _
    | 5, ho =>
      obtain rfl := Option.some.inj ho
      try dsimp only at hd
      have d4 : a'.tmps.getD 13 undef = .bool false := hd 4 (by rfl)
      refine wpOp_of rfl rfl ?_
      refine op_run (v := .bool false) (w' := w') ?_ ⟨_, rfl, ?_, ?_⟩
      · simp only [execOp, Act.eval, d4]; first | (go_simp; done) | rfl
      · try dsimp only
        exact (slots_put (ns := 30) (hsa.size.trans rfl) (by decide))
      · exact Below.refl _ _
    | 6, ho =>
      obtain rfl := Option.some.inj ho
      try dsimp only at hd
      have d5 : a'.tmps.getD 14 undef = .bool false := hd 5 (by rfl)
      have g2 : a'.tmps.getD 2 undef = .int .i64 nn := hsa.rest 2 (by rfl)
      refine wpOp_on (j := 5) (dj := 14) rfl rfl rfl d5 ?_
      refine op_run (v := .int .i64 nn) (w' := w') ?_ ⟨_, rfl, ?_, ?_⟩
      · simp only [execOp, Act.eval, d5, g2]; first | (go_simp; done) | rfl
      · try dsimp only
        exact (slots_put (ns := 30) (hsa.size.trans rfl) (by decide))
      · exact Below.refl _ _
    | 7, ho =>
      obtain rfl := Option.some.inj ho
      try dsimp only at hd
      have d5 : a'.tmps.getD 14 undef = .bool false := hd 5 (by rfl)
      have d6 : a'.tmps.getD 15 undef = .int .i64 nn := hd 6 (by rfl)
      have y := HY2.out
      refine wpOp_on (j := 5) (dj := 14) rfl rfl rfl d5 ?_
      refine op_run (v := .bool false) (w' := w') ?_ ⟨_, rfl, ?_, ?_⟩
      · simp only [execOp, Act.eval, d5, d6, y]; first | (go_simp; done) | rfl
      · try dsimp only
        exact (slots_put (ns := 30) (hsa.size.trans rfl) (by decide))
      · exact Below.refl _ _
    | 8, ho =>
      obtain rfl := Option.some.inj ho
      try dsimp only at hd
      have d5 : a'.tmps.getD 14 undef = .bool false := hd 5 (by rfl)
      have d7 : a'.tmps.getD 16 undef = .bool false := hd 7 (by rfl)
      refine wpOp_of rfl rfl ?_
      refine op_run (v := .bool false) (w' := w') ?_ ⟨_, rfl, ?_, ?_⟩
      · simp only [execOp, Act.eval, d5, d7]; first | (go_simp; done) | rfl
      · try dsimp only
        exact (slots_put (ns := 30) (hsa.size.trans rfl) (by decide))
      · exact Below.refl _ _
    | 9, ho =>
      obtain rfl := Option.some.inj ho
      try dsimp only at hd
      have d8 : a'.tmps.getD 17 undef = .bool false := hd 8 (by rfl)
      refine wpOp_of rfl rfl ?_
      refine op_run (v := .bool false) (w' := w') ?_ ⟨_, rfl, ?_, ?_⟩
      · simp only [execOp, Act.eval, d8]; first | (go_simp; done) | rfl
      · try dsimp only
        exact (slots_put (ns := 30) (hsa.size.trans rfl) (by decide))
      · exact Below.refl _ _
    | 10, ho =>
      obtain rfl := Option.some.inj ho
      try dsimp only at hd
      have d9 : a'.tmps.getD 18 undef = .bool false := hd 9 (by rfl)
      have g2 : a'.tmps.getD 2 undef = .int .i64 nn := hsa.rest 2 (by rfl)
      refine wpOp_on (j := 9) (dj := 18) rfl rfl rfl d9 ?_
      refine op_run (v := .int .i64 nn) (w' := w') ?_ ⟨_, rfl, ?_, ?_⟩
      · simp only [execOp, Act.eval, d9, g2]; first | (go_simp; done) | rfl
      · try dsimp only
        exact (slots_put (ns := 30) (hsa.size.trans rfl) (by decide))
      · exact Below.refl _ _
    | 11, ho =>
      obtain rfl := Option.some.inj ho
      try dsimp only at hd
      have d9 : a'.tmps.getD 18 undef = .bool false := hd 9 (by rfl)
      have g1 : a'.tmps.getD 1 undef = .pointer (some ⟨L.b, 0, none⟩) := hsa.rest 1 (by rfl)
      refine wpOp_on (j := 9) (dj := 18) rfl rfl rfl d9 ?_
      refine op_run (v := .pointer (some ⟨L.b, 0, none⟩)) (w' := w') ?_ ⟨_, rfl, ?_, ?_⟩
      · simp only [execOp, Act.eval, d9, g1]; first | (go_simp; done) | rfl
      · try dsimp only
        exact (slots_put (ns := 30) (hsa.size.trans rfl) (by decide))
      · exact Below.refl _ _
    | 12, ho =>
      obtain rfl := Option.some.inj ho
      try dsimp only at hd
      have d9 : a'.tmps.getD 18 undef = .bool false := hd 9 (by rfl)
      have d11 : a'.tmps.getD 20 undef = .pointer (some ⟨L.b, 0, none⟩) := hd 11 (by rfl)
      refine wpOp_on (j := 9) (dj := 18) rfl rfl rfl d9 ?_
      refine op_call 23 _ _ rfl (enters_of Tryz.func23 (by kernel_rfl) rfl) [.pointer (some ⟨L.b, 0, none⟩)] (by simp only [List.map, Act.eval, d9, d11]) (tend (HT.out.below hb)) ?_
      rintro e w'' ⟨rfl, rfl⟩
      refine ⟨_, rfl, _, rfl, ?_, ?_⟩
      · try dsimp only
        exact (slots_put (ns := 30) (hsa.size.trans rfl) (by decide))
      · exact Below.refl _ _
    | 13, ho =>
      obtain rfl := Option.some.inj ho
      try dsimp only at hd
      have d9 : a'.tmps.getD 18 undef = .bool false := hd 9 (by rfl)
      have d10 : a'.tmps.getD 19 undef = .int .i64 nn := hd 10 (by rfl)
      have d12 : a'.tmps.getD 21 undef = .int .i64 (G.fin : Int) := hd 12 (by rfl)
      have y := HY3.out
      refine wpOp_on (j := 9) (dj := 18) rfl rfl rfl d9 ?_
      refine op_run (v := .bool false) (w' := w') ?_ ⟨_, rfl, ?_, ?_⟩
      · simp only [execOp, Act.eval, d9, d10, d12, y]; first | (go_simp; done) | rfl
      · try dsimp only
        exact (slots_put (ns := 30) (hsa.size.trans rfl) (by decide))
      · exact Below.refl _ _
    | 14, ho =>
      obtain rfl := Option.some.inj ho
      try dsimp only at hd
      have d9 : a'.tmps.getD 18 undef = .bool false := hd 9 (by rfl)
      have d13 : a'.tmps.getD 22 undef = .bool false := hd 13 (by rfl)
      refine wpOp_of rfl rfl ?_
      refine op_run (v := .bool false) (w' := w') ?_ ⟨_, rfl, ?_, ?_⟩
      · simp only [execOp, Act.eval, d9, d13]; first | (go_simp; done) | rfl
      · try dsimp only
        exact (slots_put (ns := 30) (hsa.size.trans rfl) (by decide))
      · exact Below.refl _ _
    | (n + 15), ho => exact absurd ho (by simp)
  case pdone =>
    intro a' w' hsa hb hd
    have d0 : a'.tmps.getD 9 undef = .pointer (some ⟨sb, 1, none⟩) := hd 0 (by decide)
    have d1 : a'.tmps.getD 10 undef = .string xt := hd 1 (by decide)
    have d2 : a'.tmps.getD 11 undef = .pointer (some ⟨L.b, 0, none⟩) := hd 2 (by decide)
    have d3 : a'.tmps.getD 12 undef = .string G.name := hd 3 (by decide)
    have d4 : a'.tmps.getD 13 undef = .bool false := hd 4 (by decide)
    have d5 : a'.tmps.getD 14 undef = .bool false := hd 5 (by decide)
    have d6 : a'.tmps.getD 15 undef = .int .i64 nn := hd 6 (by decide)
    have d7 : a'.tmps.getD 16 undef = .bool false := hd 7 (by decide)
    have d8 : a'.tmps.getD 17 undef = .bool false := hd 8 (by decide)
    have d9 : a'.tmps.getD 18 undef = .bool false := hd 9 (by decide)
    have d10 : a'.tmps.getD 19 undef = .int .i64 nn := hd 10 (by decide)
    have d11 : a'.tmps.getD 20 undef = .pointer (some ⟨L.b, 0, none⟩) := hd 11 (by decide)
    have d12 : a'.tmps.getD 21 undef = .int .i64 (G.fin : Int) := hd 12 (by decide)
    have d13 : a'.tmps.getD 22 undef = .bool false := hd 13 (by decide)
    have d14 : a'.tmps.getD 23 undef = .bool false := hd 14 (by decide)
    exact HQ.out _ _ ⟨hsa.size.trans rfl, hsa.defers.trans rfl, hsa.rest 0 (by rfl), hsa.rest 1 (by rfl), hsa.rest 2 (by rfl), hsa.rest 3 (by rfl), hsa.rest 6 (by rfl), hsa.rest 7 (by rfl), hsa.rest 8 (by rfl)⟩ d14 hb
theorem sk_r2 {K : Act → World → Prop} {c : Code} (hc : regOf (Tryz.f137.body.getD .skip) 2 = some c) (a : Act) {v : Vsk} {wq : World} {sb rb : Nat} {xn xt : ByteArray} {xc xx : Int} (hF : Fsk a v) (h3v : v.v3 = .pointer (some ⟨sb, 0, none⟩)) (h6v : v.v6 = .pointer (some ⟨rb, 0, none⟩)) (hS : wq.heap[sb]? = some (.cells #[.string xn, .string xt, .int .i64 xc, .int .i64 xx] 190 (0, 0))) (hR : wq.heap[rb]? = some (.cells #[.string ⟨#[]⟩, .string ⟨#[]⟩, .int .i64 0, .int .i64 0] 190 (0, 0)))
    (hQ : ∀ a', Fsk a' { v with v7 := .slice none 0 0, v8 := .bool false } → K a' (set4 wq rb (.string xn) (.string xt) (.int .i64 xc) (.int .i64 xx))) :
    Code.wp Tryz.prog c (Exit.then K fun _ _ _ => False) a wq := by
  have HQ := hide hQ
  clear hQ
  obtain ⟨v0, v1, v2, v3, v6, v7, v8⟩ := v
  simp only at h3v h6v HQ
  subst h3v h6v
  obtain ⟨u, rfl⟩ := frx_sk hF
  clear hF
  simp only [Tryz.f137, Option.getD_some, regOf] at hc
  injection hc with hc
  subst hc
  obtain ⟨⟨c0, c1, c2, c3⟩, _⟩ := box4 hS
  obtain ⟨⟨d0, d1, d2, d3⟩, f0, f1, f2, f3⟩ := box4 hR
  unfold set4 at HQ
  clear hS hR
  go_wp2
  exact HQ.out _ ⟨rfl, rfl, rfl, rfl, rfl, rfl, rfl, rfl, rfl⟩
theorem sk_r3 {K : Act → World → Prop} {c : Code} (hc : regOf (Tryz.f137.body.getD .skip) 3 = some c) (a : Act) {v : Vsk} {wq : World} {sb : Nat} {xn xt : ByteArray} {xc xx nn : Int} (hF : Fsk a v) (h2v : v.v2 = .int .i64 nn) (h3v : v.v3 = .pointer (some ⟨sb, 0, none⟩)) (hS : wq.heap[sb]? = some (.cells #[.string xn, .string xt, .int .i64 xc, .int .i64 xx] 190 (0, 0)))
    (hQ : ∀ a' w', Fsk a' v → w' = wq.setCell ⟨sb, 2, none⟩ (.int .i64 nn) → K a' w') :
    Code.wp Tryz.prog c (Exit.then K fun _ _ _ => False) a wq := by
  have HQ := hide hQ
  clear hQ
  obtain ⟨v0, v1, v2, v3, v6, v7, v8⟩ := v
  simp only at h2v h3v HQ
  subst h2v h3v
  obtain ⟨u, rfl⟩ := frx_sk hF
  clear hF
  simp only [Tryz.f137, Option.getD_some, regOf] at hc
  injection hc with hc
  subst hc
  have c2 := box_cell hS 2 rfl
  have f2 := box_free hS 2
  clear hS
  go_wp2
  exact HQ.out _ _ ⟨rfl, rfl, rfl, rfl, rfl, rfl, rfl, rfl, rfl⟩ rfl
theorem sk_r4 {K : Act → World → Prop} {c : Code} (hc : regOf (Tryz.f137.body.getD .skip) 4 = some c) (a : Act) {v : Vsk} {wq : World} {sb rb : Nat} {xn xt : ByteArray} {xc xx nn : Int} (hF : Fsk a v) (h2v : v.v2 = .int .i64 nn) (h3v : v.v3 = .pointer (some ⟨sb, 0, none⟩)) (h6v : v.v6 = .pointer (some ⟨rb, 0, none⟩)) (hS : wq.heap[sb]? = some (.cells #[.string xn, .string xt, .int .i64 xc, .int .i64 xx] 190 (0, 0))) (hR : wq.heap[rb]? = some (.cells #[.string ⟨#[]⟩, .string ⟨#[]⟩, .int .i64 0, .int .i64 0] 190 (0, 0)))
    (hQ : ∀ a' w1, Fsk a' { v with v7 := .slice none 0 0, v8 := .bool true } → Below wq.heap.size wq w1 → K a' (set4 w1 rb (.string xn) (.string xt) (.int .i64 xc) (.int .i64 nn))) :
    Code.wp Tryz.prog c (Exit.then K fun _ _ _ => False) a wq := by
  have HQ := hide hQ
  clear hQ
  obtain ⟨v0, v1, v2, v3, v6, v7, v8⟩ := v
  simp only at h2v h3v h6v HQ
  subst h2v h3v h6v
  obtain ⟨u, rfl⟩ := frx_sk hF
  clear hF
  simp only [Tryz.f137, Option.getD_some, regOf] at hc
  injection hc with hc
  subst hc
  obtain ⟨⟨c0, c1, c2, c3⟩, _⟩ := box4 hS
  have HR := hide hR
  have HF := hide (fun W => sfrom ⟨xn, xt, xc, xx⟩ nn W)
  simp only [SB.v] at HF
  clear hS hR
  unfold set4 at HQ
  go_wp2_with (go_at_call 132; refine (HF.out _).mono ?_; rintro e w1 ⟨rfl, b1⟩; have hR1 := Below.at b1 HR.out; obtain ⟨⟨d0, d1, d2, d3⟩, f0, f1, f2, f3⟩ := box4 hR1; have B1 := hide b1; clear b1 hR1)
  exact HQ.out _ _ ⟨rfl, rfl, rfl, rfl, rfl, rfl, rfl, rfl, rfl⟩ B1.out
end Go.Proofs.YtlfodldlkchmoaaGreat.Y
