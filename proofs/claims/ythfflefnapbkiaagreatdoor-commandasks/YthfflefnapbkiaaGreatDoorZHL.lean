/-
  carillonref14's Request and Asked: their regions (mkasks.py)
-/
import Derived.Test.YthfflefnapbkiaaGreatDoorZHC
import Derived.Test.YthfflefnapbkiaaGreatDoorZCA
import Derived.Test.YthfflefnapbkiaaGreatDoorZHG
import Derived.Test.YthfflefnapbkiaaGreatDoorZHJ
import Derived.Test.YthfflefnapbkiaaGreatDoorZHK
import Derived.Test.YthfflefnapbkiaaGreatDoorZCC
namespace Go.Proofs.YthfflefnapbkiaaGreatDoor
open Go.RowKit

attribute [local go_sem ↓] Go.wp_at_zero Go.wp_at_succ
set_option linter.unusedSimpArgs false
set_option linter.unusedVariables false
set_option maxRecDepth 100000 in
theorem frame_rq (t : Array Value) (h : t.size = 26) : ∃ u : Nat → Value, t = List.toArray (u 0 :: u 1 :: u 2 :: u 3 :: u 4 :: u 5 :: u 6 :: u 7 :: u 8 :: u 9 :: u 10 :: u 11 :: u 12 :: u 13 :: u 14 :: u 15 :: u 16 :: u 17 :: u 18 :: u 19 :: u 20 :: u 21 :: u 22 :: u 23 :: u 24 :: u 25 :: []) := by
  refine ⟨fun i => t.getD i undef, ?_⟩
  have e : (List.toArray ((fun i => t.getD i undef) 0 :: (fun i => t.getD i undef) 1 :: (fun i => t.getD i undef) 2 :: (fun i => t.getD i undef) 3 :: (fun i => t.getD i undef) 4 :: (fun i => t.getD i undef) 5 :: (fun i => t.getD i undef) 6 :: (fun i => t.getD i undef) 7 :: (fun i => t.getD i undef) 8 :: (fun i => t.getD i undef) 9 :: (fun i => t.getD i undef) 10 :: (fun i => t.getD i undef) 11 :: (fun i => t.getD i undef) 12 :: (fun i => t.getD i undef) 13 :: (fun i => t.getD i undef) 14 :: (fun i => t.getD i undef) 15 :: (fun i => t.getD i undef) 16 :: (fun i => t.getD i undef) 17 :: (fun i => t.getD i undef) 18 :: (fun i => t.getD i undef) 19 :: (fun i => t.getD i undef) 20 :: (fun i => t.getD i undef) 21 :: (fun i => t.getD i undef) 22 :: (fun i => t.getD i undef) 23 :: (fun i => t.getD i undef) 24 :: (fun i => t.getD i undef) 25 :: []) : Array Value) = ((List.range 26).map fun i => t.getD i undef).toArray := rfl
  refine Eq.trans ?_ e.symm
  apply Array.ext
  · simp [h]
  · intro k h1 h2
    simp [Array.getD, h1]
/-- The slots that matter. -/
structure Vrq where
  v0 : Value
  v1 : Value
  v2 : Value
  v3 : Value
  v4 : Value
  v5 : Value
  v6 : Value
  v19 : Value
structure Frq (a : Act) (v : Vrq) : Prop where
  size : a.tmps.size = 26
  defers : a.defers = []
  s0 : a.tmps.getD 0 undef = v.v0
  s1 : a.tmps.getD 1 undef = v.v1
  s2 : a.tmps.getD 2 undef = v.v2
  s3 : a.tmps.getD 3 undef = v.v3
  s4 : a.tmps.getD 4 undef = v.v4
  s5 : a.tmps.getD 5 undef = v.v5
  s6 : a.tmps.getD 6 undef = v.v6
  s19 : a.tmps.getD 19 undef = v.v19
set_option maxHeartbeats 8000000 in
set_option maxRecDepth 100000 in
theorem rq_r0 {K : Act → World → Prop} {c : Code} (hc : regOf (Tryz.f7.body.getD .skip) 0 = some c) (a : Act) {v : Vrq} {wq : World} {x : CM} (hF : Frq a v) (h0v : v.v0 = x.v) (hQ : ∀ a' w' b, Frq a' { v with v1 := .pointer (some ⟨b, 0, none⟩), v2 := .string ⟨#[]⟩, v3 := .bool false } → w'.heap[b]? = some (.cells x.cells 23 (0, 0)) → Below wq.heap.size wq w' → K a' w') :
    Code.wp Tryz.prog c (Exit.then K fun _ _ _ => False) a wq := by
  have HQ := hide hQ
  clear hQ
  obtain ⟨t', d'⟩ := a
  obtain ⟨v0, v1, v2, v3, v4, v5, v6, v19⟩ := v
  simp only at h0v HQ
  subst h0v
  obtain ⟨hs1, hd1, q0, q1, q2, q3, q4, q5, q6, q19⟩ := hF
  obtain ⟨u, hu⟩ := frame_rq t' hs1
  simp only at hd1 q0 q1 q2 q3 q4 q5 q6 q19
  subst hu hd1
  have e0 : u 0 = x.v := q0
  have e1 : u 1 = v1 := q1
  have e2 : u 2 = v2 := q2
  have e3 : u 3 = v3 := q3
  have e4 : u 4 = v4 := q4
  have e5 : u 5 = v5 := q5
  have e6 : u 6 = v6 := q6
  have e19 : u 19 = v19 := q19
  rw [e0, e1, e2, e3, e4, e5, e6, e19]
  clear q0 e0 q1 e1 q2 e2 q3 e3 q4 e4 q5 e5 q6 e6 q19 e19 hs1
  simp only [Tryz.f7, Option.getD_some, regOf] at hc
  injection hc with hc
  subst hc
  generalize u 7 = u7
  generalize u 8 = u8
  generalize u 9 = u9
  generalize u 10 = u10
  generalize u 11 = u11
  generalize u 12 = u12
  generalize u 13 = u13
  generalize u 14 = u14
  generalize u 15 = u15
  generalize u 16 = u16
  generalize u 17 = u17
  generalize u 18 = u18
  generalize u 20 = u20
  generalize u 21 = u21
  generalize u 22 = u22
  generalize u 23 = u23
  generalize u 24 = u24
  generalize u 25 = u25
  clear u
  simp only [CM.v, CM.cells] at *
  go_wp2
  exact HQ.out _ _ wq.heap.size ⟨rfl, rfl, rfl, rfl, rfl, rfl, rfl, rfl, rfl, rfl⟩ (heap_alloc_new _ _) ((Below.refl _ _).alloc (Nat.le_refl _) _)
set_option maxHeartbeats 8000000 in
set_option maxRecDepth 100000 in
theorem rq_r1 {K : Act → World → Prop} {c : Code} (hc : regOf (Tryz.f7.body.getD .skip) 1 = some c) (a : Act) {v : Vrq} {wq : World} {b : Nat} {x : CM} {T : ByteArray} {rr : Bool} (hF : Frq a v) (h1v : v.v1 = .pointer (some ⟨b, 0, none⟩)) (hB : wq.heap[b]? = some (.cells x.cells 23 (0, 0))) (hC : ∀ W, Below wq.heap.size wq W → Calls Tryz.prog 20 #[x.v] W fun e w' => e = .returned (.tuple #[.string T, .bool rr]) ∧ Below W.heap.size W w')
    (hQ : ∀ a' w', Frq a' { v with v4 := .string T, v5 := .bool rr } → Below wq.heap.size wq w' → K a' w') :
    Code.wp Tryz.prog c (Exit.then K fun _ _ _ => False) a wq := by
  have HQ := hide hQ
  clear hQ
  obtain ⟨t', d'⟩ := a
  obtain ⟨v0, v1, v2, v3, v4, v5, v6, v19⟩ := v
  simp only at h1v HQ
  subst h1v
  obtain ⟨hs1, hd1, q0, q1, q2, q3, q4, q5, q6, q19⟩ := hF
  obtain ⟨u, hu⟩ := frame_rq t' hs1
  simp only at hd1 q0 q1 q2 q3 q4 q5 q6 q19
  subst hu hd1
  have e0 : u 0 = v0 := q0
  have e1 : u 1 = .pointer (some ⟨b, 0, none⟩) := q1
  have e2 : u 2 = v2 := q2
  have e3 : u 3 = v3 := q3
  have e4 : u 4 = v4 := q4
  have e5 : u 5 = v5 := q5
  have e6 : u 6 = v6 := q6
  have e19 : u 19 = v19 := q19
  rw [e0, e1, e2, e3, e4, e5, e6, e19]
  clear q0 e0 q1 e1 q2 e2 q3 e3 q4 e4 q5 e5 q6 e6 q19 e19 hs1
  simp only [Tryz.f7, Option.getD_some, regOf] at hc
  injection hc with hc
  subst hc
  generalize u 7 = u7
  generalize u 8 = u8
  generalize u 9 = u9
  generalize u 10 = u10
  generalize u 11 = u11
  generalize u 12 = u12
  generalize u 13 = u13
  generalize u 14 = u14
  generalize u 15 = u15
  generalize u 16 = u16
  generalize u 17 = u17
  generalize u 18 = u18
  generalize u 20 = u20
  generalize u 21 = u21
  generalize u 22 = u22
  generalize u 23 = u23
  generalize u 24 = u24
  generalize u 25 = u25
  clear u
  have HC := hide hC
  have c0 := box_cell hB 0 rfl
  have c1 := box_cell hB 1 rfl
  have c2 := box_cell hB 2 rfl
  have c3 := box_cell hB 3 rfl
  have c4 := box_cell hB 4 rfl
  have c5 := box_cell hB 5 rfl
  have c6 := box_cell hB 6 rfl
  have c7 := box_cell hB 7 rfl
  have c8 := box_cell hB 8 rfl
  clear hC hB
  simp only [CM.v, CM.cells] at *
  go_wp2_with (go_at_call 20; refine (HC.out _ (Below.refl _ _)).mono ?_; rintro e w1 ⟨rfl, b1⟩)
  exact HQ.out _ _ ⟨rfl, rfl, rfl, rfl, rfl, rfl, rfl, rfl, rfl, rfl⟩ b1
set_option maxHeartbeats 8000000 in
set_option maxRecDepth 100000 in
theorem rq_r2 {K : Act → World → Prop} {c : Code} (hc : regOf (Tryz.f7.body.getD .skip) 2 = some c) (a : Act) {v : Vrq} {wq : World} {b : Nat} {x : CM} {rr p : Bool} (hF : Frq a v) (h1v : v.v1 = .pointer (some ⟨b, 0, none⟩)) (h5v : v.v5 = .bool rr) (hB : wq.heap[b]? = some (.cells x.cells 23 (0, 0))) (h3 : (x.node != 0) = p)
    (hQ : ∀ a', Frq a' { v with v19 := .bool (!rr || p) } → K a' wq) :
    Code.wp Tryz.prog c (Exit.then K fun _ _ _ => False) a wq := by
  have HQ := hide hQ
  clear hQ
  obtain ⟨t', d'⟩ := a
  obtain ⟨v0, v1, v2, v3, v4, v5, v6, v19⟩ := v
  simp only at h1v h5v HQ
  subst h1v h5v
  obtain ⟨hs1, hd1, q0, q1, q2, q3, q4, q5, q6, q19⟩ := hF
  obtain ⟨u, hu⟩ := frame_rq t' hs1
  simp only at hd1 q0 q1 q2 q3 q4 q5 q6 q19
  subst hu hd1
  have e0 : u 0 = v0 := q0
  have e1 : u 1 = .pointer (some ⟨b, 0, none⟩) := q1
  have e2 : u 2 = v2 := q2
  have e3 : u 3 = v3 := q3
  have e4 : u 4 = v4 := q4
  have e5 : u 5 = .bool rr := q5
  have e6 : u 6 = v6 := q6
  have e19 : u 19 = v19 := q19
  rw [e0, e1, e2, e3, e4, e5, e6, e19]
  clear q0 e0 q1 e1 q2 e2 q3 e3 q4 e4 q5 e5 q6 e6 q19 e19 hs1
  simp only [Tryz.f7, Option.getD_some, regOf] at hc
  injection hc with hc
  subst hc
  generalize u 7 = u7
  generalize u 8 = u8
  generalize u 9 = u9
  generalize u 10 = u10
  generalize u 11 = u11
  generalize u 12 = u12
  generalize u 13 = u13
  generalize u 14 = u14
  generalize u 15 = u15
  generalize u 16 = u16
  generalize u 17 = u17
  generalize u 18 = u18
  generalize u 20 = u20
  generalize u 21 = u21
  generalize u 22 = u22
  generalize u 23 = u23
  generalize u 24 = u24
  generalize u 25 = u25
  clear u
  obtain ⟨xk, xt, xm, xs, xy, xv, xn, xo, xa⟩ := x
  simp only [CM.cells] at hB h3
  have c0 := box_cell hB 0 rfl
  have c1 := box_cell hB 1 rfl
  have c2 := box_cell hB 2 rfl
  have c3 := box_cell hB 3 rfl
  have c4 := box_cell hB 4 rfl
  have c5 := box_cell hB 5 rfl
  have c6 := box_cell hB 6 rfl
  have c7 := box_cell hB 7 rfl
  have c8 := box_cell hB 8 rfl
  clear hB
  cases rr
  · go_wp2
    exact HQ.out _ ⟨rfl, rfl, rfl, rfl, rfl, rfl, rfl, rfl, rfl, rfl⟩
  · go_wp2
    exact HQ.out _ ⟨rfl, rfl, rfl, rfl, rfl, rfl, rfl, rfl, rfl, rfl⟩
set_option maxHeartbeats 8000000 in
set_option maxRecDepth 100000 in
theorem rq_r3 {K : Act → World → Prop} {c : Code} (hc : regOf (Tryz.f7.body.getD .skip) 3 = some c) (a : Act) {v : Vrq} {wq : World}  (hF : Frq a v) (hQ : ∀ a', Frq a' { v with v2 := .string ⟨#[]⟩, v3 := .bool false } → K a' wq) :
    Code.wp Tryz.prog c (Exit.then K fun _ _ _ => False) a wq := by
  have HQ := hide hQ
  clear hQ
  obtain ⟨t', d'⟩ := a
  obtain ⟨v0, v1, v2, v3, v4, v5, v6, v19⟩ := v
  obtain ⟨hs1, hd1, q0, q1, q2, q3, q4, q5, q6, q19⟩ := hF
  obtain ⟨u, hu⟩ := frame_rq t' hs1
  simp only at hd1 q0 q1 q2 q3 q4 q5 q6 q19
  subst hu hd1
  have e0 : u 0 = v0 := q0
  have e1 : u 1 = v1 := q1
  have e2 : u 2 = v2 := q2
  have e3 : u 3 = v3 := q3
  have e4 : u 4 = v4 := q4
  have e5 : u 5 = v5 := q5
  have e6 : u 6 = v6 := q6
  have e19 : u 19 = v19 := q19
  rw [e0, e1, e2, e3, e4, e5, e6, e19]
  clear q0 e0 q1 e1 q2 e2 q3 e3 q4 e4 q5 e5 q6 e6 q19 e19 hs1
  simp only [Tryz.f7, Option.getD_some, regOf] at hc
  injection hc with hc
  subst hc
  generalize u 7 = u7
  generalize u 8 = u8
  generalize u 9 = u9
  generalize u 10 = u10
  generalize u 11 = u11
  generalize u 12 = u12
  generalize u 13 = u13
  generalize u 14 = u14
  generalize u 15 = u15
  generalize u 16 = u16
  generalize u 17 = u17
  generalize u 18 = u18
  generalize u 20 = u20
  generalize u 21 = u21
  generalize u 22 = u22
  generalize u 23 = u23
  generalize u 24 = u24
  generalize u 25 = u25
  clear u
  go_wp2
  exact HQ.out _ ⟨rfl, rfl, rfl, rfl, rfl, rfl, rfl, rfl, rfl, rfl⟩
set_option maxHeartbeats 8000000 in
set_option maxRecDepth 100000 in
theorem rq_r4 {K : Act → World → Prop} {c : Code} (hc : regOf (Tryz.f7.body.getD .skip) 4 = some c) (a : Act) {v : Vrq} {wq : World} {T U : ByteArray} {p : Bool} (hF : Frq a v) (h4v : v.v4 = .string T) (hC : ∀ W, Below wq.heap.size wq W → Calls Tryz.prog 21 #[.string T] W fun e w' => e = .returned (.tuple #[.string U, .bool p]) ∧ Below W.heap.size W w')
    (hQ : ∀ a' w', Frq a' { v with v6 := .string U } → Below wq.heap.size wq w' → K a' w') :
    Code.wp Tryz.prog c (Exit.then K fun _ _ _ => False) a wq := by
  have HQ := hide hQ
  clear hQ
  obtain ⟨t', d'⟩ := a
  obtain ⟨v0, v1, v2, v3, v4, v5, v6, v19⟩ := v
  simp only at h4v HQ
  subst h4v
  obtain ⟨hs1, hd1, q0, q1, q2, q3, q4, q5, q6, q19⟩ := hF
  obtain ⟨u, hu⟩ := frame_rq t' hs1
  simp only at hd1 q0 q1 q2 q3 q4 q5 q6 q19
  subst hu hd1
  have e0 : u 0 = v0 := q0
  have e1 : u 1 = v1 := q1
  have e2 : u 2 = v2 := q2
  have e3 : u 3 = v3 := q3
  have e4 : u 4 = .string T := q4
  have e5 : u 5 = v5 := q5
  have e6 : u 6 = v6 := q6
  have e19 : u 19 = v19 := q19
  rw [e0, e1, e2, e3, e4, e5, e6, e19]
  clear q0 e0 q1 e1 q2 e2 q3 e3 q4 e4 q5 e5 q6 e6 q19 e19 hs1
  simp only [Tryz.f7, Option.getD_some, regOf] at hc
  injection hc with hc
  subst hc
  generalize u 7 = u7
  generalize u 8 = u8
  generalize u 9 = u9
  generalize u 10 = u10
  generalize u 11 = u11
  generalize u 12 = u12
  generalize u 13 = u13
  generalize u 14 = u14
  generalize u 15 = u15
  generalize u 16 = u16
  generalize u 17 = u17
  generalize u 18 = u18
  generalize u 20 = u20
  generalize u 21 = u21
  generalize u 22 = u22
  generalize u 23 = u23
  generalize u 24 = u24
  generalize u 25 = u25
  clear u
  have HC := hide hC
  clear hC
  go_wp2_with (go_at_call 21; refine (HC.out _ (Below.refl _ _)).mono ?_; rintro e w1 ⟨rfl, b1⟩)
  exact HQ.out _ _ ⟨rfl, rfl, rfl, rfl, rfl, rfl, rfl, rfl, rfl, rfl⟩ b1
set_option maxHeartbeats 8000000 in
set_option maxRecDepth 100000 in
theorem rq_r5 {K : Act → World → Prop} {c : Code} (hc : regOf (Tryz.f7.body.getD .skip) 5 = some c) (a : Act) {v : Vrq} {wq : World} {T : ByteArray} (hF : Frq a v) (h6v : v.v6 = .string T) (hQ : ∀ a', Frq a' { v with v2 := .string T, v3 := .bool true } → K a' wq) :
    Code.wp Tryz.prog c (Exit.then K fun _ _ _ => False) a wq := by
  have HQ := hide hQ
  clear hQ
  obtain ⟨t', d'⟩ := a
  obtain ⟨v0, v1, v2, v3, v4, v5, v6, v19⟩ := v
  simp only at h6v HQ
  subst h6v
  obtain ⟨hs1, hd1, q0, q1, q2, q3, q4, q5, q6, q19⟩ := hF
  obtain ⟨u, hu⟩ := frame_rq t' hs1
  simp only at hd1 q0 q1 q2 q3 q4 q5 q6 q19
  subst hu hd1
  have e0 : u 0 = v0 := q0
  have e1 : u 1 = v1 := q1
  have e2 : u 2 = v2 := q2
  have e3 : u 3 = v3 := q3
  have e4 : u 4 = v4 := q4
  have e5 : u 5 = v5 := q5
  have e6 : u 6 = .string T := q6
  have e19 : u 19 = v19 := q19
  rw [e0, e1, e2, e3, e4, e5, e6, e19]
  clear q0 e0 q1 e1 q2 e2 q3 e3 q4 e4 q5 e5 q6 e6 q19 e19 hs1
  simp only [Tryz.f7, Option.getD_some, regOf] at hc
  injection hc with hc
  subst hc
  generalize u 7 = u7
  generalize u 8 = u8
  generalize u 9 = u9
  generalize u 10 = u10
  generalize u 11 = u11
  generalize u 12 = u12
  generalize u 13 = u13
  generalize u 14 = u14
  generalize u 15 = u15
  generalize u 16 = u16
  generalize u 17 = u17
  generalize u 18 = u18
  generalize u 20 = u20
  generalize u 21 = u21
  generalize u 22 = u22
  generalize u 23 = u23
  generalize u 24 = u24
  generalize u 25 = u25
  clear u
  go_wp2
  exact HQ.out _ ⟨rfl, rfl, rfl, rfl, rfl, rfl, rfl, rfl, rfl, rfl⟩
theorem rq_ret {W : World} {a : Act} {v : Vrq} {T : ByteArray} {p : Bool} {R : Ending → World → Prop} (hF : Frq a v) (h0 : v.v2 = .string T) (h1 : v.v3 = .bool p) (h : R (.returned (.tuple #[.string T, .bool p])) W) :
    bodyPost Tryz.prog Tryz.f7 R .ret a W := by
  have g0 := slot_get (hF.s2.trans h0)
  have g1 := slot_get (hF.s3.trans h1)
  refine bodyPost_ret (v := .tuple #[.string T, .bool p]) ?_ hF.defers h
  simp [results, Tryz.results7, go_sem, g0, g1]
set_option maxRecDepth 100000 in
theorem frame_ra (t : Array Value) (h : t.size = 39) : ∃ u : Nat → Value, t = List.toArray (u 0 :: u 1 :: u 2 :: u 3 :: u 4 :: u 5 :: u 6 :: u 7 :: u 8 :: u 9 :: u 10 :: u 11 :: u 12 :: u 13 :: u 14 :: u 15 :: u 16 :: u 17 :: u 18 :: u 19 :: u 20 :: u 21 :: u 22 :: u 23 :: u 24 :: u 25 :: u 26 :: u 27 :: u 28 :: u 29 :: u 30 :: u 31 :: u 32 :: u 33 :: u 34 :: u 35 :: u 36 :: u 37 :: u 38 :: []) := by
  refine ⟨fun i => t.getD i undef, ?_⟩
  have e : (List.toArray ((fun i => t.getD i undef) 0 :: (fun i => t.getD i undef) 1 :: (fun i => t.getD i undef) 2 :: (fun i => t.getD i undef) 3 :: (fun i => t.getD i undef) 4 :: (fun i => t.getD i undef) 5 :: (fun i => t.getD i undef) 6 :: (fun i => t.getD i undef) 7 :: (fun i => t.getD i undef) 8 :: (fun i => t.getD i undef) 9 :: (fun i => t.getD i undef) 10 :: (fun i => t.getD i undef) 11 :: (fun i => t.getD i undef) 12 :: (fun i => t.getD i undef) 13 :: (fun i => t.getD i undef) 14 :: (fun i => t.getD i undef) 15 :: (fun i => t.getD i undef) 16 :: (fun i => t.getD i undef) 17 :: (fun i => t.getD i undef) 18 :: (fun i => t.getD i undef) 19 :: (fun i => t.getD i undef) 20 :: (fun i => t.getD i undef) 21 :: (fun i => t.getD i undef) 22 :: (fun i => t.getD i undef) 23 :: (fun i => t.getD i undef) 24 :: (fun i => t.getD i undef) 25 :: (fun i => t.getD i undef) 26 :: (fun i => t.getD i undef) 27 :: (fun i => t.getD i undef) 28 :: (fun i => t.getD i undef) 29 :: (fun i => t.getD i undef) 30 :: (fun i => t.getD i undef) 31 :: (fun i => t.getD i undef) 32 :: (fun i => t.getD i undef) 33 :: (fun i => t.getD i undef) 34 :: (fun i => t.getD i undef) 35 :: (fun i => t.getD i undef) 36 :: (fun i => t.getD i undef) 37 :: (fun i => t.getD i undef) 38 :: []) : Array Value) = ((List.range 39).map fun i => t.getD i undef).toArray := rfl
  refine Eq.trans ?_ e.symm
  apply Array.ext
  · simp [h]
  · intro k h1 h2
    simp [Array.getD, h1]
/-- The slots that matter. -/
structure Vra where
  v0 : Value
  v2 : Value
  v3 : Value
  v4 : Value
  v5 : Value
  v6 : Value
  v7 : Value
  v8 : Value
  v16 : Value
  v36 : Value
structure Fra (a : Act) (v : Vra) : Prop where
  size : a.tmps.size = 39
  defers : a.defers = []
  s0 : a.tmps.getD 0 undef = v.v0
  s2 : a.tmps.getD 2 undef = v.v2
  s3 : a.tmps.getD 3 undef = v.v3
  s4 : a.tmps.getD 4 undef = v.v4
  s5 : a.tmps.getD 5 undef = v.v5
  s6 : a.tmps.getD 6 undef = v.v6
  s7 : a.tmps.getD 7 undef = v.v7
  s8 : a.tmps.getD 8 undef = v.v8
  s16 : a.tmps.getD 16 undef = v.v16
  s36 : a.tmps.getD 36 undef = v.v36
set_option maxHeartbeats 8000000 in
set_option maxRecDepth 100000 in
theorem ra_r0 {K : Act → World → Prop} {c : Code} (hc : regOf (Tryz.f9.body.getD .skip) 0 = some c) (a : Act) {v : Vra} {wq : World}  (hF : Fra a v) (hQ : ∀ a' w' b, Fra a' { v with v2 := .pointer (some ⟨b, 0, none⟩), v3 := .int .i64 0 } → w'.heap[b]? = some (.cells CM.zero.cells 23 (0, 0)) → wq.heap.size ≤ b → Below wq.heap.size wq w' → K a' w') :
    Code.wp Tryz.prog c (Exit.then K fun _ _ _ => False) a wq := by
  have HQ := hide hQ
  clear hQ
  obtain ⟨t', d'⟩ := a
  obtain ⟨v0, v2, v3, v4, v5, v6, v7, v8, v16, v36⟩ := v
  obtain ⟨hs1, hd1, q0, q2, q3, q4, q5, q6, q7, q8, q16, q36⟩ := hF
  obtain ⟨u, hu⟩ := frame_ra t' hs1
  simp only at hd1 q0 q2 q3 q4 q5 q6 q7 q8 q16 q36
  subst hu hd1
  have e0 : u 0 = v0 := q0
  have e2 : u 2 = v2 := q2
  have e3 : u 3 = v3 := q3
  have e4 : u 4 = v4 := q4
  have e5 : u 5 = v5 := q5
  have e6 : u 6 = v6 := q6
  have e7 : u 7 = v7 := q7
  have e8 : u 8 = v8 := q8
  have e16 : u 16 = v16 := q16
  have e36 : u 36 = v36 := q36
  rw [e0, e2, e3, e4, e5, e6, e7, e8, e16, e36]
  clear q0 e0 q2 e2 q3 e3 q4 e4 q5 e5 q6 e6 q7 e7 q8 e8 q16 e16 q36 e36 hs1
  simp only [Tryz.f9, Option.getD_some, regOf] at hc
  injection hc with hc
  subst hc
  generalize u 1 = u1
  generalize u 9 = u9
  generalize u 10 = u10
  generalize u 11 = u11
  generalize u 12 = u12
  generalize u 13 = u13
  generalize u 14 = u14
  generalize u 15 = u15
  generalize u 17 = u17
  generalize u 18 = u18
  generalize u 19 = u19
  generalize u 20 = u20
  generalize u 21 = u21
  generalize u 22 = u22
  generalize u 23 = u23
  generalize u 24 = u24
  generalize u 25 = u25
  generalize u 26 = u26
  generalize u 27 = u27
  generalize u 28 = u28
  generalize u 29 = u29
  generalize u 30 = u30
  generalize u 31 = u31
  generalize u 32 = u32
  generalize u 33 = u33
  generalize u 34 = u34
  generalize u 35 = u35
  generalize u 37 = u37
  generalize u 38 = u38
  clear u
  go_wp2
  exact HQ.out _ _ wq.heap.size ⟨rfl, rfl, rfl, rfl, rfl, rfl, rfl, rfl, rfl, rfl, rfl, rfl⟩ (heap_alloc_new _ _) (Nat.le_refl _) ((Below.refl _ _).alloc (Nat.le_refl _) _)
set_option maxHeartbeats 8000000 in
set_option maxRecDepth 100000 in
theorem ra_r1 {K : Act → World → Prop} {c : Code} (hc : regOf (Tryz.f9.body.getD .skip) 1 = some c) (a : Act) {v : Vra} {wq : World} {s T : ByteArray} {n er : Int} (hF : Fra a v) (h0v : v.v0 = .string s) (hC : ∀ W, Below wq.heap.size wq W → Calls Tryz.prog 23 #[.string s] W fun e w' => e = .returned (.tuple #[.string T, .int .i64 n, .int .i64 er]) ∧ Below W.heap.size W w')
    (hQ : ∀ a' w', Fra a' { v with v4 := .string T, v5 := .int .i64 n, v6 := .int .i64 er } → Below wq.heap.size wq w' → K a' w') :
    Code.wp Tryz.prog c (Exit.then K fun _ _ _ => False) a wq := by
  have HQ := hide hQ
  clear hQ
  obtain ⟨t', d'⟩ := a
  obtain ⟨v0, v2, v3, v4, v5, v6, v7, v8, v16, v36⟩ := v
  simp only at h0v HQ
  subst h0v
  obtain ⟨hs1, hd1, q0, q2, q3, q4, q5, q6, q7, q8, q16, q36⟩ := hF
  obtain ⟨u, hu⟩ := frame_ra t' hs1
  simp only at hd1 q0 q2 q3 q4 q5 q6 q7 q8 q16 q36
  subst hu hd1
  have e0 : u 0 = .string s := q0
  have e2 : u 2 = v2 := q2
  have e3 : u 3 = v3 := q3
  have e4 : u 4 = v4 := q4
  have e5 : u 5 = v5 := q5
  have e6 : u 6 = v6 := q6
  have e7 : u 7 = v7 := q7
  have e8 : u 8 = v8 := q8
  have e16 : u 16 = v16 := q16
  have e36 : u 36 = v36 := q36
  rw [e0, e2, e3, e4, e5, e6, e7, e8, e16, e36]
  clear q0 e0 q2 e2 q3 e3 q4 e4 q5 e5 q6 e6 q7 e7 q8 e8 q16 e16 q36 e36 hs1
  simp only [Tryz.f9, Option.getD_some, regOf] at hc
  injection hc with hc
  subst hc
  generalize u 1 = u1
  generalize u 9 = u9
  generalize u 10 = u10
  generalize u 11 = u11
  generalize u 12 = u12
  generalize u 13 = u13
  generalize u 14 = u14
  generalize u 15 = u15
  generalize u 17 = u17
  generalize u 18 = u18
  generalize u 19 = u19
  generalize u 20 = u20
  generalize u 21 = u21
  generalize u 22 = u22
  generalize u 23 = u23
  generalize u 24 = u24
  generalize u 25 = u25
  generalize u 26 = u26
  generalize u 27 = u27
  generalize u 28 = u28
  generalize u 29 = u29
  generalize u 30 = u30
  generalize u 31 = u31
  generalize u 32 = u32
  generalize u 33 = u33
  generalize u 34 = u34
  generalize u 35 = u35
  generalize u 37 = u37
  generalize u 38 = u38
  clear u
  have HC := hide hC
  clear hC
  go_wp2_with (go_at_call 23; refine (HC.out _ (Below.refl _ _)).mono ?_; rintro e w1 ⟨rfl, b1⟩)
  exact HQ.out _ _ ⟨rfl, rfl, rfl, rfl, rfl, rfl, rfl, rfl, rfl, rfl, rfl, rfl⟩ b1
set_option maxHeartbeats 8000000 in
set_option maxRecDepth 100000 in
theorem ra_r2 {K : Act → World → Prop} {c : Code} (hc : regOf (Tryz.f9.body.getD .skip) 2 = some c) (a : Act) {v : Vra} {wq : World} {er : Int} {bb : Bool} (hF : Fra a v) (h6v : v.v6 = .int .i64 er) (hz : (er != 0) = bb)
    (hQ : ∀ a', Fra a' { v with v16 := .bool bb } → K a' wq) :
    Code.wp Tryz.prog c (Exit.then K fun _ _ _ => False) a wq := by
  have HQ := hide hQ
  clear hQ
  obtain ⟨t', d'⟩ := a
  obtain ⟨v0, v2, v3, v4, v5, v6, v7, v8, v16, v36⟩ := v
  simp only at h6v HQ
  subst h6v
  obtain ⟨hs1, hd1, q0, q2, q3, q4, q5, q6, q7, q8, q16, q36⟩ := hF
  obtain ⟨u, hu⟩ := frame_ra t' hs1
  simp only at hd1 q0 q2 q3 q4 q5 q6 q7 q8 q16 q36
  subst hu hd1
  have e0 : u 0 = v0 := q0
  have e2 : u 2 = v2 := q2
  have e3 : u 3 = v3 := q3
  have e4 : u 4 = v4 := q4
  have e5 : u 5 = v5 := q5
  have e6 : u 6 = .int .i64 er := q6
  have e7 : u 7 = v7 := q7
  have e8 : u 8 = v8 := q8
  have e16 : u 16 = v16 := q16
  have e36 : u 36 = v36 := q36
  rw [e0, e2, e3, e4, e5, e6, e7, e8, e16, e36]
  clear q0 e0 q2 e2 q3 e3 q4 e4 q5 e5 q6 e6 q7 e7 q8 e8 q16 e16 q36 e36 hs1
  simp only [Tryz.f9, Option.getD_some, regOf] at hc
  injection hc with hc
  subst hc
  generalize u 1 = u1
  generalize u 9 = u9
  generalize u 10 = u10
  generalize u 11 = u11
  generalize u 12 = u12
  generalize u 13 = u13
  generalize u 14 = u14
  generalize u 15 = u15
  generalize u 17 = u17
  generalize u 18 = u18
  generalize u 19 = u19
  generalize u 20 = u20
  generalize u 21 = u21
  generalize u 22 = u22
  generalize u 23 = u23
  generalize u 24 = u24
  generalize u 25 = u25
  generalize u 26 = u26
  generalize u 27 = u27
  generalize u 28 = u28
  generalize u 29 = u29
  generalize u 30 = u30
  generalize u 31 = u31
  generalize u 32 = u32
  generalize u 33 = u33
  generalize u 34 = u34
  generalize u 35 = u35
  generalize u 37 = u37
  generalize u 38 = u38
  clear u
  go_wp2
  exact HQ.out _ ⟨rfl, rfl, rfl, rfl, rfl, rfl, rfl, rfl, rfl, rfl, rfl, rfl⟩
set_option maxHeartbeats 8000000 in
set_option maxRecDepth 100000 in
theorem ra_r3 {K : Act → World → Prop} {c : Code} (hc : regOf (Tryz.f9.body.getD .skip) 3 = some c) (a : Act) {v : Vra} {wq : World} {rb B : Nat} {er : Int} (hF : Fra a v) (h2v : v.v2 = .pointer (some ⟨rb, 0, none⟩)) (h6v : v.v6 = .int .i64 er) (hB : wq.heap[rb]? = some (.cells CM.zero.cells 23 (0, 0))) (hrb : B ≤ rb)
    (hQ : ∀ a' w', Fra a' { v with v3 := .int .i64 er } → w'.heap[rb]? = some (.cells CM.zero.cells 23 (0, 0)) → Below B wq w' → K a' w') :
    Code.wp Tryz.prog c (Exit.then K fun _ _ _ => False) a wq := by
  have HQ := hide hQ
  clear hQ
  obtain ⟨t', d'⟩ := a
  obtain ⟨v0, v2, v3, v4, v5, v6, v7, v8, v16, v36⟩ := v
  simp only at h2v h6v HQ
  subst h2v h6v
  obtain ⟨hs1, hd1, q0, q2, q3, q4, q5, q6, q7, q8, q16, q36⟩ := hF
  obtain ⟨u, hu⟩ := frame_ra t' hs1
  simp only at hd1 q0 q2 q3 q4 q5 q6 q7 q8 q16 q36
  subst hu hd1
  have e0 : u 0 = v0 := q0
  have e2 : u 2 = .pointer (some ⟨rb, 0, none⟩) := q2
  have e3 : u 3 = v3 := q3
  have e4 : u 4 = v4 := q4
  have e5 : u 5 = v5 := q5
  have e6 : u 6 = .int .i64 er := q6
  have e7 : u 7 = v7 := q7
  have e8 : u 8 = v8 := q8
  have e16 : u 16 = v16 := q16
  have e36 : u 36 = v36 := q36
  rw [e0, e2, e3, e4, e5, e6, e7, e8, e16, e36]
  clear q0 e0 q2 e2 q3 e3 q4 e4 q5 e5 q6 e6 q7 e7 q8 e8 q16 e16 q36 e36 hs1
  simp only [Tryz.f9, Option.getD_some, regOf] at hc
  injection hc with hc
  subst hc
  generalize u 1 = u1
  generalize u 9 = u9
  generalize u 10 = u10
  generalize u 11 = u11
  generalize u 12 = u12
  generalize u 13 = u13
  generalize u 14 = u14
  generalize u 15 = u15
  generalize u 17 = u17
  generalize u 18 = u18
  generalize u 19 = u19
  generalize u 20 = u20
  generalize u 21 = u21
  generalize u 22 = u22
  generalize u 23 = u23
  generalize u 24 = u24
  generalize u 25 = u25
  generalize u 26 = u26
  generalize u 27 = u27
  generalize u 28 = u28
  generalize u 29 = u29
  generalize u 30 = u30
  generalize u 31 = u31
  generalize u 32 = u32
  generalize u 33 = u33
  generalize u 34 = u34
  generalize u 35 = u35
  generalize u 37 = u37
  generalize u 38 = u38
  clear u
  have H1 := hide (set9_box (c := CM.zero) hB)
  have H2 := hide (set9_below (B := B) (c := CM.zero) (Below.refl _ wq) hrb)
  simp only [CM.zero, CM.cells] at hB
  have c0 := box_cell hB 0 rfl
  have f0 := box_free hB 0
  have c1 := box_cell hB 1 rfl
  have f1 := box_free hB 1
  have c2 := box_cell hB 2 rfl
  have f2 := box_free hB 2
  have c3 := box_cell hB 3 rfl
  have f3 := box_free hB 3
  have c4 := box_cell hB 4 rfl
  have f4 := box_free hB 4
  have c5 := box_cell hB 5 rfl
  have f5 := box_free hB 5
  have c6 := box_cell hB 6 rfl
  have f6 := box_free hB 6
  have c7 := box_cell hB 7 rfl
  have f7 := box_free hB 7
  have c8 := box_cell hB 8 rfl
  have f8 := box_free hB 8
  clear hB hrb
  go_wp2
  exact HQ.out _ _ ⟨rfl, rfl, rfl, rfl, rfl, rfl, rfl, rfl, rfl, rfl, rfl, rfl⟩ H1.out H2.out
set_option maxHeartbeats 8000000 in
set_option maxRecDepth 100000 in
theorem ra_r6 {K : Act → World → Prop} {c : Code} (hc : regOf (Tryz.f9.body.getD .skip) 6 = some c) (a : Act) {v : Vra} {wq : World} {rb B : Nat} (hF : Fra a v) (h2v : v.v2 = .pointer (some ⟨rb, 0, none⟩)) (hB : wq.heap[rb]? = some (.cells CM.zero.cells 23 (0, 0))) (hrb : B ≤ rb)
    (hQ : ∀ a' w', Fra a' { v with v3 := .int .i64 10 } → w'.heap[rb]? = some (.cells CM.zero.cells 23 (0, 0)) → Below B wq w' → K a' w') :
    Code.wp Tryz.prog c (Exit.then K fun _ _ _ => False) a wq := by
  have HQ := hide hQ
  clear hQ
  obtain ⟨t', d'⟩ := a
  obtain ⟨v0, v2, v3, v4, v5, v6, v7, v8, v16, v36⟩ := v
  simp only at h2v HQ
  subst h2v
  obtain ⟨hs1, hd1, q0, q2, q3, q4, q5, q6, q7, q8, q16, q36⟩ := hF
  obtain ⟨u, hu⟩ := frame_ra t' hs1
  simp only at hd1 q0 q2 q3 q4 q5 q6 q7 q8 q16 q36
  subst hu hd1
  have e0 : u 0 = v0 := q0
  have e2 : u 2 = .pointer (some ⟨rb, 0, none⟩) := q2
  have e3 : u 3 = v3 := q3
  have e4 : u 4 = v4 := q4
  have e5 : u 5 = v5 := q5
  have e6 : u 6 = v6 := q6
  have e7 : u 7 = v7 := q7
  have e8 : u 8 = v8 := q8
  have e16 : u 16 = v16 := q16
  have e36 : u 36 = v36 := q36
  rw [e0, e2, e3, e4, e5, e6, e7, e8, e16, e36]
  clear q0 e0 q2 e2 q3 e3 q4 e4 q5 e5 q6 e6 q7 e7 q8 e8 q16 e16 q36 e36 hs1
  simp only [Tryz.f9, Option.getD_some, regOf] at hc
  injection hc with hc
  subst hc
  generalize u 1 = u1
  generalize u 9 = u9
  generalize u 10 = u10
  generalize u 11 = u11
  generalize u 12 = u12
  generalize u 13 = u13
  generalize u 14 = u14
  generalize u 15 = u15
  generalize u 17 = u17
  generalize u 18 = u18
  generalize u 19 = u19
  generalize u 20 = u20
  generalize u 21 = u21
  generalize u 22 = u22
  generalize u 23 = u23
  generalize u 24 = u24
  generalize u 25 = u25
  generalize u 26 = u26
  generalize u 27 = u27
  generalize u 28 = u28
  generalize u 29 = u29
  generalize u 30 = u30
  generalize u 31 = u31
  generalize u 32 = u32
  generalize u 33 = u33
  generalize u 34 = u34
  generalize u 35 = u35
  generalize u 37 = u37
  generalize u 38 = u38
  clear u
  have H1 := hide (set9_box (c := CM.zero) hB)
  have H2 := hide (set9_below (B := B) (c := CM.zero) (Below.refl _ wq) hrb)
  simp only [CM.zero, CM.cells] at hB
  have c0 := box_cell hB 0 rfl
  have f0 := box_free hB 0
  have c1 := box_cell hB 1 rfl
  have f1 := box_free hB 1
  have c2 := box_cell hB 2 rfl
  have f2 := box_free hB 2
  have c3 := box_cell hB 3 rfl
  have f3 := box_free hB 3
  have c4 := box_cell hB 4 rfl
  have f4 := box_free hB 4
  have c5 := box_cell hB 5 rfl
  have f5 := box_free hB 5
  have c6 := box_cell hB 6 rfl
  have f6 := box_free hB 6
  have c7 := box_cell hB 7 rfl
  have f7 := box_free hB 7
  have c8 := box_cell hB 8 rfl
  have f8 := box_free hB 8
  clear hB hrb
  go_wp2
  exact HQ.out _ _ ⟨rfl, rfl, rfl, rfl, rfl, rfl, rfl, rfl, rfl, rfl, rfl, rfl⟩ H1.out H2.out
set_option maxHeartbeats 8000000 in
set_option maxRecDepth 100000 in
theorem ra_r4 {K : Act → World → Prop} {c : Code} (hc : regOf (Tryz.f9.body.getD .skip) 4 = some c) (a : Act) {v : Vra} {wq : World} {T : ByteArray} {x : CM} {er : Int} (hF : Fra a v) (h4v : v.v4 = .string T) (hC : ∀ W, Below wq.heap.size wq W → Calls Tryz.prog 24 #[.string T] W fun e w' => e = .returned (.tuple #[x.v, .int .i64 er]) ∧ Below W.heap.size W w')
    (hQ : ∀ a' w' b, Fra a' { v with v7 := .pointer (some ⟨b, 0, none⟩), v8 := .int .i64 er } → w'.heap[b]? = some (.cells x.cells 23 (0, 0)) → wq.heap.size ≤ b → Below wq.heap.size wq w' → K a' w') :
    Code.wp Tryz.prog c (Exit.then K fun _ _ _ => False) a wq := by
  have HQ := hide hQ
  clear hQ
  obtain ⟨t', d'⟩ := a
  obtain ⟨v0, v2, v3, v4, v5, v6, v7, v8, v16, v36⟩ := v
  simp only at h4v HQ
  subst h4v
  obtain ⟨hs1, hd1, q0, q2, q3, q4, q5, q6, q7, q8, q16, q36⟩ := hF
  obtain ⟨u, hu⟩ := frame_ra t' hs1
  simp only at hd1 q0 q2 q3 q4 q5 q6 q7 q8 q16 q36
  subst hu hd1
  have e0 : u 0 = v0 := q0
  have e2 : u 2 = v2 := q2
  have e3 : u 3 = v3 := q3
  have e4 : u 4 = .string T := q4
  have e5 : u 5 = v5 := q5
  have e6 : u 6 = v6 := q6
  have e7 : u 7 = v7 := q7
  have e8 : u 8 = v8 := q8
  have e16 : u 16 = v16 := q16
  have e36 : u 36 = v36 := q36
  rw [e0, e2, e3, e4, e5, e6, e7, e8, e16, e36]
  clear q0 e0 q2 e2 q3 e3 q4 e4 q5 e5 q6 e6 q7 e7 q8 e8 q16 e16 q36 e36 hs1
  simp only [Tryz.f9, Option.getD_some, regOf] at hc
  injection hc with hc
  subst hc
  generalize u 1 = u1
  generalize u 9 = u9
  generalize u 10 = u10
  generalize u 11 = u11
  generalize u 12 = u12
  generalize u 13 = u13
  generalize u 14 = u14
  generalize u 15 = u15
  generalize u 17 = u17
  generalize u 18 = u18
  generalize u 19 = u19
  generalize u 20 = u20
  generalize u 21 = u21
  generalize u 22 = u22
  generalize u 23 = u23
  generalize u 24 = u24
  generalize u 25 = u25
  generalize u 26 = u26
  generalize u 27 = u27
  generalize u 28 = u28
  generalize u 29 = u29
  generalize u 30 = u30
  generalize u 31 = u31
  generalize u 32 = u32
  generalize u 33 = u33
  generalize u 34 = u34
  generalize u 35 = u35
  generalize u 37 = u37
  generalize u 38 = u38
  clear u
  have HC := hide hC
  clear hC
  simp only [CM.v, CM.cells] at *
  go_wp2_with (go_at_call 24; refine (HC.out _ (Below.refl _ _)).mono ?_; rintro e w1 ⟨rfl, b1⟩)
  exact HQ.out _ _ w1.heap.size ⟨rfl, rfl, rfl, rfl, rfl, rfl, rfl, rfl, rfl, rfl, rfl, rfl⟩ (heap_alloc_new _ _) b1.size (b1.alloc b1.size _)
set_option maxHeartbeats 8000000 in
set_option maxRecDepth 100000 in
theorem ra_r5 {K : Act → World → Prop} {c : Code} (hc : regOf (Tryz.f9.body.getD .skip) 5 = some c) (a : Act) {v : Vra} {wq : World} {b : Nat} {x : CM} {s : ByteArray} {n f : Int} {p1 p2 p3 : Bool} (hF : Fra a v) (h0v : v.v0 = .string s) (h5v : v.v5 = .int .i64 n) (h7v : v.v7 = .pointer (some ⟨b, 0, none⟩)) (h8v : v.v8 = .int .i64 f) (hB : wq.heap[b]? = some (.cells x.cells 23 (0, 0))) (h6 : s.size ≤ 9223372036854775807) (h1 : (f != 0) = p1) (h2 : (n != (s.size : Int)) = p2) (h3 : (x.node != 0) = p3)
    (hQ : ∀ a', Fra a' { v with v36 := .bool (p1 || (p2 || p3)) } → K a' wq) :
    Code.wp Tryz.prog c (Exit.then K fun _ _ _ => False) a wq := by
  have HQ := hide hQ
  clear hQ
  obtain ⟨t', d'⟩ := a
  obtain ⟨v0, v2, v3, v4, v5, v6, v7, v8, v16, v36⟩ := v
  simp only at h0v h5v h7v h8v HQ
  subst h0v h5v h7v h8v
  obtain ⟨hs1, hd1, q0, q2, q3, q4, q5, q6, q7, q8, q16, q36⟩ := hF
  obtain ⟨u, hu⟩ := frame_ra t' hs1
  simp only at hd1 q0 q2 q3 q4 q5 q6 q7 q8 q16 q36
  subst hu hd1
  have e0 : u 0 = .string s := q0
  have e2 : u 2 = v2 := q2
  have e3 : u 3 = v3 := q3
  have e4 : u 4 = v4 := q4
  have e5 : u 5 = .int .i64 n := q5
  have e6 : u 6 = v6 := q6
  have e7 : u 7 = .pointer (some ⟨b, 0, none⟩) := q7
  have e8 : u 8 = .int .i64 f := q8
  have e16 : u 16 = v16 := q16
  have e36 : u 36 = v36 := q36
  rw [e0, e2, e3, e4, e5, e6, e7, e8, e16, e36]
  clear q0 e0 q2 e2 q3 e3 q4 e4 q5 e5 q6 e6 q7 e7 q8 e8 q16 e16 q36 e36 hs1
  simp only [Tryz.f9, Option.getD_some, regOf] at hc
  injection hc with hc
  subst hc
  generalize u 1 = u1
  generalize u 9 = u9
  generalize u 10 = u10
  generalize u 11 = u11
  generalize u 12 = u12
  generalize u 13 = u13
  generalize u 14 = u14
  generalize u 15 = u15
  generalize u 17 = u17
  generalize u 18 = u18
  generalize u 19 = u19
  generalize u 20 = u20
  generalize u 21 = u21
  generalize u 22 = u22
  generalize u 23 = u23
  generalize u 24 = u24
  generalize u 25 = u25
  generalize u 26 = u26
  generalize u 27 = u27
  generalize u 28 = u28
  generalize u 29 = u29
  generalize u 30 = u30
  generalize u 31 = u31
  generalize u 32 = u32
  generalize u 33 = u33
  generalize u 34 = u34
  generalize u 35 = u35
  generalize u 37 = u37
  generalize u 38 = u38
  clear u
  obtain ⟨xk, xt, xm, xs, xy, xv, xn, xo, xa⟩ := x
  simp only [CM.cells] at hB h3
  have c0 := box_cell hB 0 rfl
  have c1 := box_cell hB 1 rfl
  have c2 := box_cell hB 2 rfl
  have c3 := box_cell hB 3 rfl
  have c4 := box_cell hB 4 rfl
  have c5 := box_cell hB 5 rfl
  have c6 := box_cell hB 6 rfl
  have c7 := box_cell hB 7 rfl
  have c8 := box_cell hB 8 rfl
  clear hB
  cases p1
  · cases p2
    · go_wp2
      exact HQ.out _ ⟨rfl, rfl, rfl, rfl, rfl, rfl, rfl, rfl, rfl, rfl, rfl, rfl⟩
    · go_wp2
      exact HQ.out _ ⟨rfl, rfl, rfl, rfl, rfl, rfl, rfl, rfl, rfl, rfl, rfl, rfl⟩
  · go_wp2
    exact HQ.out _ ⟨rfl, rfl, rfl, rfl, rfl, rfl, rfl, rfl, rfl, rfl, rfl, rfl⟩
set_option maxHeartbeats 8000000 in
set_option maxRecDepth 100000 in
theorem ra_r7 {K : Act → World → Prop} {c : Code} (hc : regOf (Tryz.f9.body.getD .skip) 7 = some c) (a : Act) {v : Vra} {wq : World} {rb q B : Nat} {x : CM} (hF : Fra a v) (h2v : v.v2 = .pointer (some ⟨rb, 0, none⟩)) (h7v : v.v7 = .pointer (some ⟨q, 0, none⟩)) (hB : wq.heap[rb]? = some (.cells CM.zero.cells 23 (0, 0))) (hrb : B ≤ rb)
    (hX : wq.heap[q]? = some (.cells x.cells 23 (0, 0))) (hne : rb ≠ q) (hQ : ∀ a' w', Fra a' { v with v3 := .int .i64 0 } → w'.heap[rb]? = some (.cells x.cells 23 (0, 0)) → Below B wq w' → K a' w') :
    Code.wp Tryz.prog c (Exit.then K fun _ _ _ => False) a wq := by
  have HQ := hide hQ
  clear hQ
  obtain ⟨t', d'⟩ := a
  obtain ⟨v0, v2, v3, v4, v5, v6, v7, v8, v16, v36⟩ := v
  simp only at h2v h7v HQ
  subst h2v h7v
  obtain ⟨hs1, hd1, q0, q2, q3, q4, q5, q6, q7, q8, q16, q36⟩ := hF
  obtain ⟨u, hu⟩ := frame_ra t' hs1
  simp only at hd1 q0 q2 q3 q4 q5 q6 q7 q8 q16 q36
  subst hu hd1
  have e0 : u 0 = v0 := q0
  have e2 : u 2 = .pointer (some ⟨rb, 0, none⟩) := q2
  have e3 : u 3 = v3 := q3
  have e4 : u 4 = v4 := q4
  have e5 : u 5 = v5 := q5
  have e6 : u 6 = v6 := q6
  have e7 : u 7 = .pointer (some ⟨q, 0, none⟩) := q7
  have e8 : u 8 = v8 := q8
  have e16 : u 16 = v16 := q16
  have e36 : u 36 = v36 := q36
  rw [e0, e2, e3, e4, e5, e6, e7, e8, e16, e36]
  clear q0 e0 q2 e2 q3 e3 q4 e4 q5 e5 q6 e6 q7 e7 q8 e8 q16 e16 q36 e36 hs1
  simp only [Tryz.f9, Option.getD_some, regOf] at hc
  injection hc with hc
  subst hc
  generalize u 1 = u1
  generalize u 9 = u9
  generalize u 10 = u10
  generalize u 11 = u11
  generalize u 12 = u12
  generalize u 13 = u13
  generalize u 14 = u14
  generalize u 15 = u15
  generalize u 17 = u17
  generalize u 18 = u18
  generalize u 19 = u19
  generalize u 20 = u20
  generalize u 21 = u21
  generalize u 22 = u22
  generalize u 23 = u23
  generalize u 24 = u24
  generalize u 25 = u25
  generalize u 26 = u26
  generalize u 27 = u27
  generalize u 28 = u28
  generalize u 29 = u29
  generalize u 30 = u30
  generalize u 31 = u31
  generalize u 32 = u32
  generalize u 33 = u33
  generalize u 34 = u34
  generalize u 35 = u35
  generalize u 37 = u37
  generalize u 38 = u38
  clear u
  have H1 := hide (set9_box (c := x) hB)
  have H2 := hide (set9_below (B := B) (c := x) (Below.refl _ wq) hrb)
  simp only [CM.zero, CM.cells] at hB hX
  have c0 := box_cell hB 0 rfl
  have f0 := box_free hB 0
  have c1 := box_cell hB 1 rfl
  have f1 := box_free hB 1
  have c2 := box_cell hB 2 rfl
  have f2 := box_free hB 2
  have c3 := box_cell hB 3 rfl
  have f3 := box_free hB 3
  have c4 := box_cell hB 4 rfl
  have f4 := box_free hB 4
  have c5 := box_cell hB 5 rfl
  have f5 := box_free hB 5
  have c6 := box_cell hB 6 rfl
  have f6 := box_free hB 6
  have c7 := box_cell hB 7 rfl
  have f7 := box_free hB 7
  have c8 := box_cell hB 8 rfl
  have f8 := box_free hB 8
  have d0 := box_cell hX 0 rfl
  have d1 := box_cell hX 1 rfl
  have d2 := box_cell hX 2 rfl
  have d3 := box_cell hX 3 rfl
  have d4 := box_cell hX 4 rfl
  have d5 := box_cell hX 5 rfl
  have d6 := box_cell hX 6 rfl
  have d7 := box_cell hX 7 rfl
  have d8 := box_cell hX 8 rfl
  clear hB hrb hX
  go_wp2
  exact HQ.out _ _ ⟨rfl, rfl, rfl, rfl, rfl, rfl, rfl, rfl, rfl, rfl, rfl, rfl⟩ H1.out H2.out
theorem ra_ret {W : World} {a : Act} {v : Vra} {rb : Nat} {c : CM} {er : Int} {R : Ending → World → Prop} (hF : Fra a v) (h2 : v.v2 = .pointer (some ⟨rb, 0, none⟩)) (h3 : v.v3 = .int .i64 er) (hR : W.heap[rb]? = some (.cells c.cells 23 (0, 0))) (h : R (.returned (.tuple #[c.v, .int .i64 er])) W) :
    bodyPost Tryz.prog Tryz.f9 R .ret a W := by
  have g2 := slot_get (hF.s2.trans h2)
  have g3 := slot_get (hF.s3.trans h3)
  have c0 := box_cell hR 0 rfl
  have c1 := box_cell hR 1 rfl
  have c2 := box_cell hR 2 rfl
  have c3 := box_cell hR 3 rfl
  have c4 := box_cell hR 4 rfl
  have c5 := box_cell hR 5 rfl
  have c6 := box_cell hR 6 rfl
  have c7 := box_cell hR 7 rfl
  have c8 := box_cell hR 8 rfl
  refine bodyPost_ret (v := .tuple #[c.v, .int .i64 er]) ?_ hF.defers h
  simp [results, Tryz.results9, go_sem, g2, g3, c0, c1, c2, c3, c4, c5, c6, c7, c8, CM.v, CM.cells]
end Go.Proofs.YthfflefnapbkiaaGreatDoor
/-
  carillonref14's Request and Asked (mkasks.py)
-/
namespace Go.Proofs.YthfflefnapbkiaaGreatDoor
open Go.RowKit

attribute [local go_sem ↓] Go.wp_at_zero Go.wp_at_succ
set_option linter.unusedSimpArgs false
set_option linter.unusedVariables false
/-- carillonref14's Request. -/
def reqP (x : CM) : ByteArray := if x.right && !(x.node != 0) then ⟨(oneC x).toArray⟩ else ⟨#[]⟩
set_option maxHeartbeats 4000000 in
set_option maxRecDepth 100000 in
theorem rreq (x : CM) (hx : x.ok) (w : World) :
    Calls Tryz.prog 7 #[x.v] w fun e w' => e = .returned (.tuple #[.string (reqP x), .bool (x.right && !(x.node != 0))]) ∧ Below w.heap.size w w' := by
  have hR := renc x hx
  have hE : rencP x = if x.right then ⟨(codeC x).toArray⟩ else ⟨#[]⟩ := rfl
  have hQ : reqP x = if x.right && !(x.node != 0) then ⟨(oneC x).toArray⟩ else ⟨#[]⟩ := rfl
  have hF : x.right = true → ∀ W, Calls Tryz.prog 21 #[.string ⟨(codeC x).toArray⟩] W fun e w' => e = .returned (.tuple #[.string ⟨(oneC x).toArray⟩, .bool (decide ((codeC x).toArray.size ≤ 400000))]) ∧ Below W.heap.size W w' := fun hr W => by
    have hs := codeC_le (x.small hr)
    have := rframe_any ⟨(codeC x).toArray⟩ W (by show (codeC x).toArray.size ≤ _; simp; omega)
    have e : frameF (codeC x) = (frameB (codeC x), 0) := by
      unfold frameF
      rw [if_neg (by omega)]
    rw [show ((⟨(codeC x).toArray⟩ : ByteArray).data.toList) = codeC x by simp, e] at this
    exact this
  obtain ⟨p, hp⟩ : ∃ p, (x.node != 0) = p := ⟨_, rfl⟩
  rw [hp] at hQ ⊢
  generalize rencP x = T at *
  generalize reqP x = U at *
  generalize x.right = rr at *
  go_enter Tryz.func7, Tryz.ntmps7
  refine wp_seq (reg_mono (rq_r0 (x := x) (by kernel_rfl) _ (v := ⟨_, _, _, _, _, _, _, _⟩) ⟨rfl, rfl, rfl, rfl, rfl, rfl, rfl, rfl, rfl, rfl⟩ rfl ?_))
  intro a1 w1 b F1 D1 B1
  refine wp_seq (reg_mono (rq_r1 (by kernel_rfl) _ F1 rfl D1 (fun W _ => hR W) ?_))
  intro a2 w2 F2 b2
  have D2 := (b2.block _ (heap_lt D1)).trans D1
  have B2 := B1.trans (b2.mono B1.size)
  refine wp_seq (wp_seq (reg_mono (rq_r2 (by kernel_rfl) _ F2 rfl rfl D2 hp ?_)))
  intro a3 F3
  obtain ⟨g, hg⟩ : ∃ g, (rr && !p) = g := ⟨_, rfl⟩
  have hg2 : (!rr || p) = !g := by rw [← hg]; cases rr <;> cases p <;> rfl
  have s19 := F3.s19
  simp only [hg2] at s19
  rw [hg] at hQ ⊢
  cases g with
  | false =>
    obtain rfl : U = ⟨#[]⟩ := hQ
    refine wp_cond_true s19 ?_
    refine wp_seq (reg_mono (rq_r3 (by kernel_rfl) _ F3 ?_))
    intro a4 F4
    refine wp_ret ?_
    exact rq_ret (R := fun e w' => e = .returned (.tuple #[.string ⟨#[]⟩, .bool false]) ∧ Below w.heap.size w w') F4 rfl rfl ⟨rfl, B2⟩
  | true =>
    obtain rfl : U = ⟨(oneC x).toArray⟩ := hQ
    have hrr : rr = true := by cases rr; cases hg; rfl
    subst hrr
    obtain rfl : T = ⟨(codeC x).toArray⟩ := hE
    refine wp_cond_false s19 (wp_skip ?_)
    refine wp_seq (reg_mono (rq_r4 (by kernel_rfl) _ F3 rfl (fun W _ => hF rfl W) ?_))
    intro a4 w4 F4 b4
    refine wp_seq (reg_mono (rq_r5 (by kernel_rfl) _ F4 rfl ?_))
    intro a5 F5
    refine wp_ret ?_
    exact rq_ret (R := fun e w' => e = .returned (.tuple #[.string ⟨(oneC x).toArray⟩, .bool true]) ∧ Below w.heap.size w w') F5 rfl rfl ⟨rfl, B2.trans (b4.mono B2.size)⟩
theorem askC_says (s : List UInt8) : askC s = if (takeF s).2.2 ≠ 0 then (CM.zero, (takeF s).2.2) else if (takeF s).2.1 ≠ s.length then (CM.zero, 10) else if (decC (takeF s).1).2 ≠ 0 then (CM.zero, 10) else if (decC (takeF s).1).1.node ≠ 0 then (CM.zero, 10) else decC (takeF s).1 := rfl
set_option maxHeartbeats 4000000 in
set_option maxRecDepth 100000 in
theorem rasked (s : ByteArray) (h63 : s.size ≤ 9223372036854775807) (w : World) :
    Calls Tryz.prog 9 #[.string s] w fun e w' => e = .returned (.tuple #[(askC s.data.toList).1.v, .int .i64 (askC s.data.toList).2]) ∧ Below w.heap.size w w' := by
  have HC := fun W => rtake_any s W h63
  have hsm := takeF_small s.data.toList
  have hA := askC_says s.data.toList
  rw [show s.data.toList.length = s.size by simp] at hA
  generalize askC s.data.toList = A at *
  generalize takeF s.data.toList = T at *
  obtain ⟨b, n, er⟩ := T
  simp only at HC hsm hA
  have HD := rdec ⟨b.toArray⟩ (by show b.toArray.size ≤ _; simp; omega)
  rw [show ((⟨b.toArray⟩ : ByteArray).data.toList) = b by simp] at HD
  generalize decC b = D at *
  obtain ⟨x, f⟩ := D
  simp only at HD hA
  go_enter Tryz.func9, Tryz.ntmps9
  refine wp_seq (reg_mono (ra_r0 (by kernel_rfl) _ (v := ⟨_, _, _, _, _, _, _, _, _, _⟩) ⟨rfl, rfl, rfl, rfl, rfl, rfl, rfl, rfl, rfl, rfl, rfl, rfl⟩ ?_))
  intro a1 w1 rb F1 D1 hrb B1
  refine wp_seq (reg_mono (ra_r1 (by kernel_rfl) _ F1 rfl (fun W _ => HC W) ?_))
  intro a2 w2 F2 b2
  have D2 := (b2.block _ (heap_lt D1)).trans D1
  have B2 := B1.trans (b2.mono B1.size)
  obtain ⟨p0, hp0⟩ : ∃ p, (er != 0) = p := ⟨_, rfl⟩
  refine wp_seq (wp_seq (reg_mono (ra_r2 (by kernel_rfl) _ F2 rfl hp0 ?_)))
  intro a3 F3
  cases p0 with
  | true =>
    have he : er ≠ 0 := by simpa using hp0
    rw [if_pos he] at hA
    subst hA
    refine wp_cond_true F3.s16 ?_
    refine wp_seq (reg_mono (ra_r3 (B := w.heap.size) (by kernel_rfl) _ F3 rfl rfl D2 hrb ?_))
    intro a4 w4 F4 D4 B4
    refine wp_ret ?_
    exact ra_ret (R := fun e w' => e = .returned (.tuple #[CM.zero.v, .int .i64 er]) ∧ Below w.heap.size w w') F4 rfl rfl D4 ⟨rfl, B2.trans B4⟩
  | false =>
  have he : er = 0 := by simpa using hp0
  rw [if_neg (fun e => e he)] at hA
  refine wp_cond_false F3.s16 (wp_skip ?_)
  refine wp_seq (reg_mono (ra_r4 (by kernel_rfl) _ F3 rfl (fun W _ => HD W) ?_))
  intro a4 w4 q F4 X4 hq b4
  have D4 := (b4.block _ (heap_lt D2)).trans D2
  have B4 := B2.trans (b4.mono B2.size)
  obtain ⟨p1, hp1⟩ : ∃ p, (f != 0) = p := ⟨_, rfl⟩
  obtain ⟨p2, hp2⟩ : ∃ p, ((n : Int) != (s.size : Int)) = p := ⟨_, rfl⟩
  obtain ⟨p3, hp3⟩ : ∃ p, (x.node != 0) = p := ⟨_, rfl⟩
  refine wp_seq (wp_seq (reg_mono (ra_r5 (by kernel_rfl) _ F4 rfl rfl rfl rfl X4 h63 hp1 hp2 hp3 ?_)))
  intro a5 F5
  have hne : rb ≠ q := Nat.ne_of_lt (Nat.lt_of_lt_of_le (heap_lt D2) hq)
  obtain ⟨g, hg⟩ : ∃ g, (p1 || (p2 || p3)) = g := ⟨_, rfl⟩
  have s36 := F5.s36
  simp only [hg] at s36
  cases g with
  | true =>
    have hA2 : A = (CM.zero, 10) := by
      rw [hA]
      by_cases e2 : n = s.size
      · rw [if_neg (fun e => e e2)]
        by_cases e1 : f = 0
        · rw [if_neg (fun e => e e1)]
          refine if_pos ?_
          obtain rfl : p1 = false := by rw [← hp1, e1]; rfl
          obtain rfl : p2 = false := by rw [← hp2, e2]; simp
          have : p3 = true := hg
          rw [this] at hp3
          simpa using hp3
        · rw [if_pos e1]
      · rw [if_pos e2]
    clear hA
    subst hA2
    refine wp_cond_true s36 ?_
    refine wp_seq (reg_mono (ra_r6 (B := w.heap.size) (by kernel_rfl) _ F5 rfl D4 hrb ?_))
    intro a6 w6 F6 D6 B6
    refine wp_ret ?_
    exact ra_ret (R := fun e w' => e = .returned (.tuple #[CM.zero.v, .int .i64 10]) ∧ Below w.heap.size w w') F6 rfl rfl D6 ⟨rfl, B4.trans B6⟩
  | false =>
    obtain ⟨rfl, rfl, rfl⟩ : p1 = false ∧ p2 = false ∧ p3 = false := by cases p1 <;> cases p2 <;> cases p3 <;> simp_all
    have e1 : f = 0 := by simpa using hp1
    have e2 : n = s.size := by simp at hp2; omega
    have e3 : x.node = 0 := by simpa using hp3
    rw [if_neg (fun e => e e2), if_neg (fun e => e e1), if_neg (fun e => e e3)] at hA
    subst hA e1
    refine wp_cond_false s36 (wp_skip ?_)
    refine wp_seq (reg_mono (ra_r7 (B := w.heap.size) (by kernel_rfl) _ F5 rfl rfl D4 hrb X4 hne ?_))
    intro a6 w6 F6 D6 B6
    refine wp_ret ?_
    exact ra_ret (R := fun e w' => e = .returned (.tuple #[x.v, .int .i64 0]) ∧ Below w.heap.size w w') F6 rfl rfl D6 ⟨rfl, B4.trans B6⟩
end Go.Proofs.YthfflefnapbkiaaGreatDoor
