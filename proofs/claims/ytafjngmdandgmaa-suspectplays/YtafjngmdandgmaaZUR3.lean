/-
  carillonref13's Alive (mkur.py).
-/
import Derived.Test.YtafjngmdandgmaaZUR1
namespace Go.Proofs.Ytafjngmdandgmaa
open Go.RowKit

attribute [local go_sem ↓] Go.wp_at_zero Go.wp_at_succ
set_option linter.unusedSimpArgs false
set_option linter.unusedVariables false
theorem infoSM : (Try.prog.info? tMember).map (fun i => (i.zero, i.size, i.bytes)) = some (some (.agg #[.int .i64 0, .int .i64 0]), 2, 16) := by kernel_rfl
set_option maxRecDepth 100000 in
theorem frame_ra (t : Array Value) (h : t.size = 40) : ∃ u : Nat → Value, t = List.toArray (u 0 :: u 1 :: u 2 :: u 3 :: u 4 :: u 5 :: u 6 :: u 7 :: u 8 :: u 9 :: u 10 :: u 11 :: u 12 :: u 13 :: u 14 :: u 15 :: u 16 :: u 17 :: u 18 :: u 19 :: u 20 :: u 21 :: u 22 :: u 23 :: u 24 :: u 25 :: u 26 :: u 27 :: u 28 :: u 29 :: u 30 :: u 31 :: u 32 :: u 33 :: u 34 :: u 35 :: u 36 :: u 37 :: u 38 :: u 39 :: []) := by
  refine ⟨fun i => t.getD i undef, ?_⟩
  have e : (List.toArray ((fun i => t.getD i undef) 0 :: (fun i => t.getD i undef) 1 :: (fun i => t.getD i undef) 2 :: (fun i => t.getD i undef) 3 :: (fun i => t.getD i undef) 4 :: (fun i => t.getD i undef) 5 :: (fun i => t.getD i undef) 6 :: (fun i => t.getD i undef) 7 :: (fun i => t.getD i undef) 8 :: (fun i => t.getD i undef) 9 :: (fun i => t.getD i undef) 10 :: (fun i => t.getD i undef) 11 :: (fun i => t.getD i undef) 12 :: (fun i => t.getD i undef) 13 :: (fun i => t.getD i undef) 14 :: (fun i => t.getD i undef) 15 :: (fun i => t.getD i undef) 16 :: (fun i => t.getD i undef) 17 :: (fun i => t.getD i undef) 18 :: (fun i => t.getD i undef) 19 :: (fun i => t.getD i undef) 20 :: (fun i => t.getD i undef) 21 :: (fun i => t.getD i undef) 22 :: (fun i => t.getD i undef) 23 :: (fun i => t.getD i undef) 24 :: (fun i => t.getD i undef) 25 :: (fun i => t.getD i undef) 26 :: (fun i => t.getD i undef) 27 :: (fun i => t.getD i undef) 28 :: (fun i => t.getD i undef) 29 :: (fun i => t.getD i undef) 30 :: (fun i => t.getD i undef) 31 :: (fun i => t.getD i undef) 32 :: (fun i => t.getD i undef) 33 :: (fun i => t.getD i undef) 34 :: (fun i => t.getD i undef) 35 :: (fun i => t.getD i undef) 36 :: (fun i => t.getD i undef) 37 :: (fun i => t.getD i undef) 38 :: (fun i => t.getD i undef) 39 :: []) : Array Value) = ((List.range 40).map fun i => t.getD i undef).toArray := rfl
  refine Eq.trans ?_ e.symm
  apply Array.ext
  · simp [h]
  · intro k h1 h2
    simp [Array.getD, h1]
/-- The slots that matter. -/
structure Vra where
  v0 : Value
  v2 : Value
  v3 : Value
  v4 : Value
  v5 : Value
  v6 : Value
structure Fra (a : Act) (v : Vra) : Prop where
  size : a.tmps.size = 40
  defers : a.defers = []
  s0 : a.tmps.getD 0 undef = v.v0
  s2 : a.tmps.getD 2 undef = v.v2
  s3 : a.tmps.getD 3 undef = v.v3
  s4 : a.tmps.getD 4 undef = v.v4
  s5 : a.tmps.getD 5 undef = v.v5
  s6 : a.tmps.getD 6 undef = v.v6
set_option maxHeartbeats 8000000 in
set_option maxRecDepth 100000 in
theorem ra_r1 {K : Act → World → Prop} {c : Code} (hc : regOf (Try.f14.body.getD .skip) 1 = some c) (a : Act) {v : Vra} {wq : World}  (hF : Fra a v) (hQ : ∀ a', Fra a' { v with v3 := .slice none 0 0 } → K a' wq) :
    Code.wp Try.prog c (Exit.then K fun _ _ _ => False) a wq := by
  have HQ := hide hQ
  clear hQ
  obtain ⟨t', d'⟩ := a
  obtain ⟨v0, v2, v3, v4, v5, v6⟩ := v
  obtain ⟨hs1, hd1, q0, q2, q3, q4, q5, q6⟩ := hF
  obtain ⟨u, hu⟩ := frame_ra t' hs1
  simp only at hd1 q0 q2 q3 q4 q5 q6
  subst hu hd1
  have e0 : u 0 = v0 := q0
  have e2 : u 2 = v2 := q2
  have e3 : u 3 = v3 := q3
  have e4 : u 4 = v4 := q4
  have e5 : u 5 = v5 := q5
  have e6 : u 6 = v6 := q6
  rw [e0, e2, e3, e4, e5, e6]
  clear q0 e0 q2 e2 q3 e3 q4 e4 q5 e5 q6 e6 hs1
  simp only [Try.f14, Option.getD_some, regOf] at hc
  injection hc with hc
  subst hc
  generalize u 1 = u1
  generalize u 7 = u7
  generalize u 8 = u8
  generalize u 9 = u9
  generalize u 10 = u10
  generalize u 11 = u11
  generalize u 12 = u12
  generalize u 13 = u13
  generalize u 14 = u14
  generalize u 15 = u15
  generalize u 16 = u16
  generalize u 17 = u17
  generalize u 18 = u18
  generalize u 19 = u19
  generalize u 20 = u20
  generalize u 21 = u21
  generalize u 22 = u22
  generalize u 23 = u23
  generalize u 24 = u24
  generalize u 25 = u25
  generalize u 26 = u26
  generalize u 27 = u27
  generalize u 28 = u28
  generalize u 29 = u29
  generalize u 30 = u30
  generalize u 31 = u31
  generalize u 32 = u32
  generalize u 33 = u33
  generalize u 34 = u34
  generalize u 35 = u35
  generalize u 36 = u36
  generalize u 37 = u37
  generalize u 38 = u38
  generalize u 39 = u39
  clear u
  go_wp2
  exact HQ.out _ ⟨rfl, rfl, rfl, rfl, rfl, rfl, rfl, rfl⟩
set_option maxHeartbeats 8000000 in
set_option maxRecDepth 100000 in
theorem ra_r2 {K : Act → World → Prop} {c : Code} (hc : regOf (Try.f14.body.getD .skip) 2 = some c) (a : Act) {v : Vra} {wq : World}  (hF : Fra a v) (hQ : ∀ a', Fra a' { v with v4 := .int .i64 ((0 : Nat) : Int) } → K a' wq) :
    Code.wp Try.prog c (Exit.then K fun _ _ _ => False) a wq := by
  have HQ := hide hQ
  clear hQ
  obtain ⟨t', d'⟩ := a
  obtain ⟨v0, v2, v3, v4, v5, v6⟩ := v
  obtain ⟨hs1, hd1, q0, q2, q3, q4, q5, q6⟩ := hF
  obtain ⟨u, hu⟩ := frame_ra t' hs1
  simp only at hd1 q0 q2 q3 q4 q5 q6
  subst hu hd1
  have e0 : u 0 = v0 := q0
  have e2 : u 2 = v2 := q2
  have e3 : u 3 = v3 := q3
  have e4 : u 4 = v4 := q4
  have e5 : u 5 = v5 := q5
  have e6 : u 6 = v6 := q6
  rw [e0, e2, e3, e4, e5, e6]
  clear q0 e0 q2 e2 q3 e3 q4 e4 q5 e5 q6 e6 hs1
  simp only [Try.f14, Option.getD_some, regOf] at hc
  injection hc with hc
  subst hc
  generalize u 1 = u1
  generalize u 7 = u7
  generalize u 8 = u8
  generalize u 9 = u9
  generalize u 10 = u10
  generalize u 11 = u11
  generalize u 12 = u12
  generalize u 13 = u13
  generalize u 14 = u14
  generalize u 15 = u15
  generalize u 16 = u16
  generalize u 17 = u17
  generalize u 18 = u18
  generalize u 19 = u19
  generalize u 20 = u20
  generalize u 21 = u21
  generalize u 22 = u22
  generalize u 23 = u23
  generalize u 24 = u24
  generalize u 25 = u25
  generalize u 26 = u26
  generalize u 27 = u27
  generalize u 28 = u28
  generalize u 29 = u29
  generalize u 30 = u30
  generalize u 31 = u31
  generalize u 32 = u32
  generalize u 33 = u33
  generalize u 34 = u34
  generalize u 35 = u35
  generalize u 36 = u36
  generalize u 37 = u37
  generalize u 38 = u38
  generalize u 39 = u39
  clear u
  go_wp2
  exact HQ.out _ ⟨rfl, rfl, rfl, rfl, rfl, rfl, rfl, rfl⟩
set_option maxHeartbeats 8000000 in
set_option maxRecDepth 100000 in
theorem ra_r3 {K : Act → World → Prop} {c : Code} (hc : regOf (Try.f14.body.getD .skip) 3 = some c) (a : Act) {v : Vra} {wq : World} {i : Nat} (hF : Fra a v) (h4v : v.v4 = .int .i64 (i : Int)) (hQ : ∀ a', Fra a' v → a'.tmps.getD 8 undef = .bool (decide (i < 7)) → K a' wq) :
    Code.wp Try.prog c (Exit.then K fun _ _ _ => False) a wq := by
  have HQ := hide hQ
  clear hQ
  obtain ⟨t', d'⟩ := a
  obtain ⟨v0, v2, v3, v4, v5, v6⟩ := v
  simp only at h4v HQ
  subst h4v
  obtain ⟨hs1, hd1, q0, q2, q3, q4, q5, q6⟩ := hF
  obtain ⟨u, hu⟩ := frame_ra t' hs1
  simp only at hd1 q0 q2 q3 q4 q5 q6
  subst hu hd1
  have e0 : u 0 = v0 := q0
  have e2 : u 2 = v2 := q2
  have e3 : u 3 = v3 := q3
  have e4 : u 4 = .int .i64 (i : Int) := q4
  have e5 : u 5 = v5 := q5
  have e6 : u 6 = v6 := q6
  rw [e0, e2, e3, e4, e5, e6]
  clear q0 e0 q2 e2 q3 e3 q4 e4 q5 e5 q6 e6 hs1
  simp only [Try.f14, Option.getD_some, regOf] at hc
  injection hc with hc
  subst hc
  generalize u 1 = u1
  generalize u 7 = u7
  generalize u 8 = u8
  generalize u 9 = u9
  generalize u 10 = u10
  generalize u 11 = u11
  generalize u 12 = u12
  generalize u 13 = u13
  generalize u 14 = u14
  generalize u 15 = u15
  generalize u 16 = u16
  generalize u 17 = u17
  generalize u 18 = u18
  generalize u 19 = u19
  generalize u 20 = u20
  generalize u 21 = u21
  generalize u 22 = u22
  generalize u 23 = u23
  generalize u 24 = u24
  generalize u 25 = u25
  generalize u 26 = u26
  generalize u 27 = u27
  generalize u 28 = u28
  generalize u 29 = u29
  generalize u 30 = u30
  generalize u 31 = u31
  generalize u 32 = u32
  generalize u 33 = u33
  generalize u 34 = u34
  generalize u 35 = u35
  generalize u 36 = u36
  generalize u 37 = u37
  generalize u 38 = u38
  generalize u 39 = u39
  clear u
  by_cases h1 : i < 7
  · rw [decide_eq_true h1] at HQ
    have g : (i : Int) < 7 := by omega
    go_wp2
    exact HQ.out _ ⟨rfl, rfl, rfl, rfl, rfl, rfl, rfl, rfl⟩ (by first | rfl | (simp; done) | (simp; omega))
  · rw [decide_eq_false h1] at HQ
    have g : ¬ (i : Int) < 7 := by omega
    go_wp2
    exact HQ.out _ ⟨rfl, rfl, rfl, rfl, rfl, rfl, rfl, rfl⟩ (by first | rfl | (simp; done) | (simp; omega))
set_option maxHeartbeats 8000000 in
set_option maxRecDepth 100000 in
theorem ra_r4 {K : Act → World → Prop} {c : Code} (hc : regOf (Try.f14.body.getD .skip) 4 = some c) (a : Act) {v : Vra} {wq : World} {i : Nat} (hF : Fra a v) (h4v : v.v4 = .int .i64 (i : Int)) (hn : i ≤ 4611686018427387904) (hQ : ∀ a', Fra a' { v with v4 := .int .i64 ((i + 1 : Nat) : Int) } → K a' wq) :
    Code.wp Try.prog c (Exit.then K fun _ _ _ => False) a wq := by
  have HQ := hide hQ
  clear hQ
  obtain ⟨t', d'⟩ := a
  obtain ⟨v0, v2, v3, v4, v5, v6⟩ := v
  simp only at h4v HQ
  subst h4v
  obtain ⟨hs1, hd1, q0, q2, q3, q4, q5, q6⟩ := hF
  obtain ⟨u, hu⟩ := frame_ra t' hs1
  simp only at hd1 q0 q2 q3 q4 q5 q6
  subst hu hd1
  have e0 : u 0 = v0 := q0
  have e2 : u 2 = v2 := q2
  have e3 : u 3 = v3 := q3
  have e4 : u 4 = .int .i64 (i : Int) := q4
  have e5 : u 5 = v5 := q5
  have e6 : u 6 = v6 := q6
  rw [e0, e2, e3, e4, e5, e6]
  clear q0 e0 q2 e2 q3 e3 q4 e4 q5 e5 q6 e6 hs1
  simp only [Try.f14, Option.getD_some, regOf] at hc
  injection hc with hc
  subst hc
  generalize u 1 = u1
  generalize u 7 = u7
  generalize u 8 = u8
  generalize u 9 = u9
  generalize u 10 = u10
  generalize u 11 = u11
  generalize u 12 = u12
  generalize u 13 = u13
  generalize u 14 = u14
  generalize u 15 = u15
  generalize u 16 = u16
  generalize u 17 = u17
  generalize u 18 = u18
  generalize u 19 = u19
  generalize u 20 = u20
  generalize u 21 = u21
  generalize u 22 = u22
  generalize u 23 = u23
  generalize u 24 = u24
  generalize u 25 = u25
  generalize u 26 = u26
  generalize u 27 = u27
  generalize u 28 = u28
  generalize u 29 = u29
  generalize u 30 = u30
  generalize u 31 = u31
  generalize u 32 = u32
  generalize u 33 = u33
  generalize u 34 = u34
  generalize u 35 = u35
  generalize u 36 = u36
  generalize u 37 = u37
  generalize u 38 = u38
  generalize u 39 = u39
  clear u
  have hj1 : ((i + 1 : Nat) : Int) = (i : Int) + 1 := by omega
  rw [hj1] at HQ
  clear hj1
  go_wp2
  exact HQ.out _ ⟨rfl, rfl, rfl, rfl, rfl, rfl, rfl, rfl⟩
set_option maxHeartbeats 8000000 in
set_option maxRecDepth 100000 in
theorem ra_r5 {K : Act → World → Prop} {c : Code} (hc : regOf (Try.f14.body.getD .skip) 5 = some c) (a : Act) {v : Vra} {wq : World} {b b1 i : Nat} {x : Int} (hF : Fra a v) (h0v : v.v0 = .pointer (some ⟨b, 0, none⟩)) (h4v : v.v4 = .int .i64 (i : Int)) (hi : i < 7) (z2 : wq.cell? ⟨b, 2, none⟩ = some (.slice (some ⟨b1, 0, none⟩) 7 7)) (t1 : wq.cell? ⟨b1, i, none⟩ = some (.int .i64 x))
    (hQ : ∀ a', Fra a' { v with v5 := .pointer (some ⟨wq.heap.size, 0, none⟩) } → K a' (wq.alloc (.cells #[.int .i64 (i : Int), .int .i64 x] tMember))) :
    Code.wp Try.prog c (Exit.then K fun _ _ _ => False) a wq := by
  have HQ := hide hQ
  clear hQ
  obtain ⟨t', d'⟩ := a
  obtain ⟨v0, v2, v3, v4, v5, v6⟩ := v
  simp only at h0v h4v HQ
  subst h0v h4v
  obtain ⟨hs1, hd1, q0, q2, q3, q4, q5, q6⟩ := hF
  obtain ⟨u, hu⟩ := frame_ra t' hs1
  simp only at hd1 q0 q2 q3 q4 q5 q6
  subst hu hd1
  have e0 : u 0 = .pointer (some ⟨b, 0, none⟩) := q0
  have e2 : u 2 = v2 := q2
  have e3 : u 3 = v3 := q3
  have e4 : u 4 = .int .i64 (i : Int) := q4
  have e5 : u 5 = v5 := q5
  have e6 : u 6 = v6 := q6
  rw [e0, e2, e3, e4, e5, e6]
  clear q0 e0 q2 e2 q3 e3 q4 e4 q5 e5 q6 e6 hs1
  simp only [Try.f14, Option.getD_some, regOf] at hc
  injection hc with hc
  subst hc
  generalize u 1 = u1
  generalize u 7 = u7
  generalize u 8 = u8
  generalize u 9 = u9
  generalize u 10 = u10
  generalize u 11 = u11
  generalize u 12 = u12
  generalize u 13 = u13
  generalize u 14 = u14
  generalize u 15 = u15
  generalize u 16 = u16
  generalize u 17 = u17
  generalize u 18 = u18
  generalize u 19 = u19
  generalize u 20 = u20
  generalize u 21 = u21
  generalize u 22 = u22
  generalize u 23 = u23
  generalize u 24 = u24
  generalize u 25 = u25
  generalize u 26 = u26
  generalize u 27 = u27
  generalize u 28 = u28
  generalize u 29 = u29
  generalize u 30 = u30
  generalize u 31 = u31
  generalize u 32 = u32
  generalize u 33 = u33
  generalize u 34 = u34
  generalize u 35 = u35
  generalize u 36 = u36
  generalize u 37 = u37
  generalize u 38 = u38
  generalize u 39 = u39
  clear u
  have hi0 : (0 : Int) ≤ (i : Int) := by omega
  have hi1 : (i : Int) < 7 := by omega
  go_wp2
  exact HQ.out _ ⟨rfl, rfl, rfl, rfl, rfl, rfl, rfl, rfl⟩
set_option maxHeartbeats 8000000 in
set_option maxRecDepth 100000 in
theorem ra_r6 {K : Act → World → Prop} {c : Code} (hc : regOf (Try.f14.body.getD .skip) 6 = some c) (a : Act) {v : Vra} {wq : World} {b i : Nat} {y : Int} (hF : Fra a v) (h0v : v.v0 = .pointer (some ⟨b, 0, none⟩)) (h4v : v.v4 = .int .i64 (i : Int)) (z0 : wq.cell? ⟨b, 0, none⟩ = some (.int .i64 y)) (hQ : ∀ a', Fra a' v → a'.tmps.getD 26 undef = .bool ((i : Int) == y) → K a' wq) :
    Code.wp Try.prog c (Exit.then K fun _ _ _ => False) a wq := by
  have HQ := hide hQ
  clear hQ
  obtain ⟨t', d'⟩ := a
  obtain ⟨v0, v2, v3, v4, v5, v6⟩ := v
  simp only at h0v h4v HQ
  subst h0v h4v
  obtain ⟨hs1, hd1, q0, q2, q3, q4, q5, q6⟩ := hF
  obtain ⟨u, hu⟩ := frame_ra t' hs1
  simp only at hd1 q0 q2 q3 q4 q5 q6
  subst hu hd1
  have e0 : u 0 = .pointer (some ⟨b, 0, none⟩) := q0
  have e2 : u 2 = v2 := q2
  have e3 : u 3 = v3 := q3
  have e4 : u 4 = .int .i64 (i : Int) := q4
  have e5 : u 5 = v5 := q5
  have e6 : u 6 = v6 := q6
  rw [e0, e2, e3, e4, e5, e6]
  clear q0 e0 q2 e2 q3 e3 q4 e4 q5 e5 q6 e6 hs1
  simp only [Try.f14, Option.getD_some, regOf] at hc
  injection hc with hc
  subst hc
  generalize u 1 = u1
  generalize u 7 = u7
  generalize u 8 = u8
  generalize u 9 = u9
  generalize u 10 = u10
  generalize u 11 = u11
  generalize u 12 = u12
  generalize u 13 = u13
  generalize u 14 = u14
  generalize u 15 = u15
  generalize u 16 = u16
  generalize u 17 = u17
  generalize u 18 = u18
  generalize u 19 = u19
  generalize u 20 = u20
  generalize u 21 = u21
  generalize u 22 = u22
  generalize u 23 = u23
  generalize u 24 = u24
  generalize u 25 = u25
  generalize u 26 = u26
  generalize u 27 = u27
  generalize u 28 = u28
  generalize u 29 = u29
  generalize u 30 = u30
  generalize u 31 = u31
  generalize u 32 = u32
  generalize u 33 = u33
  generalize u 34 = u34
  generalize u 35 = u35
  generalize u 36 = u36
  generalize u 37 = u37
  generalize u 38 = u38
  generalize u 39 = u39
  clear u
  go_wp2
  exact HQ.out _ ⟨rfl, rfl, rfl, rfl, rfl, rfl, rfl, rfl⟩ (by first | rfl | (simp; done))
set_option maxHeartbeats 8000000 in
set_option maxRecDepth 100000 in
theorem ra_r7 {K : Act → World → Prop} {c : Code} (hc : regOf (Try.f14.body.getD .skip) 7 = some c) (a : Act) {v : Vra} {wq : World} {b d : Nat} {y y1 p1 p2 : Int} (hF : Fra a v) (h0v : v.v0 = .pointer (some ⟨b, 0, none⟩)) (h5v : v.v5 = .pointer (some ⟨d, 0, none⟩)) (z0 : wq.cell? ⟨b, 0, none⟩ = some (.int .i64 y)) (z1 : wq.cell? ⟨b, 1, none⟩ = some (.int .i64 y1)) (hD : wq.heap[d]? = some (.cells #[.int .i64 p1, .int .i64 p2] tMember (0, 0)))
    (hQ : ∀ a', Fra a' v → K a' ((wq.setCell ⟨d, 0, none⟩ (.int .i64 y)).setCell ⟨d, 1, none⟩ (.int .i64 y1))) :
    Code.wp Try.prog c (Exit.then K fun _ _ _ => False) a wq := by
  have HQ := hide hQ
  clear hQ
  obtain ⟨t', d'⟩ := a
  obtain ⟨v0, v2, v3, v4, v5, v6⟩ := v
  simp only at h0v h5v HQ
  subst h0v h5v
  obtain ⟨hs1, hd1, q0, q2, q3, q4, q5, q6⟩ := hF
  obtain ⟨u, hu⟩ := frame_ra t' hs1
  simp only at hd1 q0 q2 q3 q4 q5 q6
  subst hu hd1
  have e0 : u 0 = .pointer (some ⟨b, 0, none⟩) := q0
  have e2 : u 2 = v2 := q2
  have e3 : u 3 = v3 := q3
  have e4 : u 4 = v4 := q4
  have e5 : u 5 = .pointer (some ⟨d, 0, none⟩) := q5
  have e6 : u 6 = v6 := q6
  rw [e0, e2, e3, e4, e5, e6]
  clear q0 e0 q2 e2 q3 e3 q4 e4 q5 e5 q6 e6 hs1
  simp only [Try.f14, Option.getD_some, regOf] at hc
  injection hc with hc
  subst hc
  generalize u 1 = u1
  generalize u 7 = u7
  generalize u 8 = u8
  generalize u 9 = u9
  generalize u 10 = u10
  generalize u 11 = u11
  generalize u 12 = u12
  generalize u 13 = u13
  generalize u 14 = u14
  generalize u 15 = u15
  generalize u 16 = u16
  generalize u 17 = u17
  generalize u 18 = u18
  generalize u 19 = u19
  generalize u 20 = u20
  generalize u 21 = u21
  generalize u 22 = u22
  generalize u 23 = u23
  generalize u 24 = u24
  generalize u 25 = u25
  generalize u 26 = u26
  generalize u 27 = u27
  generalize u 28 = u28
  generalize u 29 = u29
  generalize u 30 = u30
  generalize u 31 = u31
  generalize u 32 = u32
  generalize u 33 = u33
  generalize u 34 = u34
  generalize u 35 = u35
  generalize u 36 = u36
  generalize u 37 = u37
  generalize u 38 = u38
  generalize u 39 = u39
  clear u
  have c0 := box_cell hD 0 rfl
  have c1 := box_cell hD 1 rfl
  have f0 := box_free hD 0
  have f1 := box_free hD 1
  clear hD
  go_wp2
  exact HQ.out _ ⟨rfl, rfl, rfl, rfl, rfl, rfl, rfl, rfl⟩
set_option maxHeartbeats 8000000 in
set_option maxRecDepth 100000 in
theorem ra_r8 {K : Act → World → Prop} {c : Code} (hc : regOf (Try.f14.body.getD .skip) 8 = some c) (a : Act) {v : Vra} {wq : World} {b d : Nat} {m : MB} {r : Bool} (hF : Fra a v) (h0v : v.v0 = .pointer (some ⟨b, 0, none⟩)) (h5v : v.v5 = .pointer (some ⟨d, 0, none⟩)) (hD : wq.heap[d]? = some (.cells #[.int .i64 m.node, .int .i64 m.life] tMember (0, 0))) (hE : Calls Try.prog 16 #[.pointer (some ⟨b, 0, none⟩), m.v] wq fun e w' => e = .returned (.bool r) ∧ Below wq.heap.size wq w')
    (hQ : ∀ a' w', Fra a' { v with v6 := .bool r } → Below wq.heap.size wq w' → K a' w') :
    Code.wp Try.prog c (Exit.then K fun _ _ _ => False) a wq := by
  have HQ := hide hQ
  clear hQ
  obtain ⟨t', d'⟩ := a
  obtain ⟨v0, v2, v3, v4, v5, v6⟩ := v
  simp only at h0v h5v HQ
  subst h0v h5v
  obtain ⟨hs1, hd1, q0, q2, q3, q4, q5, q6⟩ := hF
  obtain ⟨u, hu⟩ := frame_ra t' hs1
  simp only at hd1 q0 q2 q3 q4 q5 q6
  subst hu hd1
  have e0 : u 0 = .pointer (some ⟨b, 0, none⟩) := q0
  have e2 : u 2 = v2 := q2
  have e3 : u 3 = v3 := q3
  have e4 : u 4 = v4 := q4
  have e5 : u 5 = .pointer (some ⟨d, 0, none⟩) := q5
  have e6 : u 6 = v6 := q6
  rw [e0, e2, e3, e4, e5, e6]
  clear q0 e0 q2 e2 q3 e3 q4 e4 q5 e5 q6 e6 hs1
  simp only [Try.f14, Option.getD_some, regOf] at hc
  injection hc with hc
  subst hc
  generalize u 1 = u1
  generalize u 7 = u7
  generalize u 8 = u8
  generalize u 9 = u9
  generalize u 10 = u10
  generalize u 11 = u11
  generalize u 12 = u12
  generalize u 13 = u13
  generalize u 14 = u14
  generalize u 15 = u15
  generalize u 16 = u16
  generalize u 17 = u17
  generalize u 18 = u18
  generalize u 19 = u19
  generalize u 20 = u20
  generalize u 21 = u21
  generalize u 22 = u22
  generalize u 23 = u23
  generalize u 24 = u24
  generalize u 25 = u25
  generalize u 26 = u26
  generalize u 27 = u27
  generalize u 28 = u28
  generalize u 29 = u29
  generalize u 30 = u30
  generalize u 31 = u31
  generalize u 32 = u32
  generalize u 33 = u33
  generalize u 34 = u34
  generalize u 35 = u35
  generalize u 36 = u36
  generalize u 37 = u37
  generalize u 38 = u38
  generalize u 39 = u39
  clear u
  have HE := hide hE
  have c0 := box_cell hD 0 rfl
  have c1 := box_cell hD 1 rfl
  clear hD hE
  unfold MB.v at HE
  go_wp2_with fail
  refine HE.out.mono ?_
  rintro e w1 ⟨rfl, b1⟩
  have B1 := hide b1
  clear b1 HE
  go_wp2
  exact HQ.out _ _ ⟨rfl, rfl, rfl, rfl, rfl, rfl, rfl, rfl⟩ B1.out
set_option maxHeartbeats 8000000 in
set_option maxRecDepth 100000 in
theorem ra_r9 {K : Act → World → Prop} {c : Code} (hc : regOf (Try.f14.body.getD .skip) 9 = some c) (a : Act) {v : Vra} {wq : World} {r : Bool} (hF : Fra a v) (h6v : v.v6 = .bool r) (hQ : ∀ a', Fra a' v → a'.tmps.getD 34 undef = .bool r → K a' wq) :
    Code.wp Try.prog c (Exit.then K fun _ _ _ => False) a wq := by
  have HQ := hide hQ
  clear hQ
  obtain ⟨t', d'⟩ := a
  obtain ⟨v0, v2, v3, v4, v5, v6⟩ := v
  simp only at h6v HQ
  subst h6v
  obtain ⟨hs1, hd1, q0, q2, q3, q4, q5, q6⟩ := hF
  obtain ⟨u, hu⟩ := frame_ra t' hs1
  simp only at hd1 q0 q2 q3 q4 q5 q6
  subst hu hd1
  have e0 : u 0 = v0 := q0
  have e2 : u 2 = v2 := q2
  have e3 : u 3 = v3 := q3
  have e4 : u 4 = v4 := q4
  have e5 : u 5 = v5 := q5
  have e6 : u 6 = .bool r := q6
  rw [e0, e2, e3, e4, e5, e6]
  clear q0 e0 q2 e2 q3 e3 q4 e4 q5 e5 q6 e6 hs1
  simp only [Try.f14, Option.getD_some, regOf] at hc
  injection hc with hc
  subst hc
  generalize u 1 = u1
  generalize u 7 = u7
  generalize u 8 = u8
  generalize u 9 = u9
  generalize u 10 = u10
  generalize u 11 = u11
  generalize u 12 = u12
  generalize u 13 = u13
  generalize u 14 = u14
  generalize u 15 = u15
  generalize u 16 = u16
  generalize u 17 = u17
  generalize u 18 = u18
  generalize u 19 = u19
  generalize u 20 = u20
  generalize u 21 = u21
  generalize u 22 = u22
  generalize u 23 = u23
  generalize u 24 = u24
  generalize u 25 = u25
  generalize u 26 = u26
  generalize u 27 = u27
  generalize u 28 = u28
  generalize u 29 = u29
  generalize u 30 = u30
  generalize u 31 = u31
  generalize u 32 = u32
  generalize u 33 = u33
  generalize u 34 = u34
  generalize u 35 = u35
  generalize u 36 = u36
  generalize u 37 = u37
  generalize u 38 = u38
  generalize u 39 = u39
  clear u
  go_wp2
  exact HQ.out _ ⟨rfl, rfl, rfl, rfl, rfl, rfl, rfl, rfl⟩ (by first | rfl | (simp; done))
set_option maxHeartbeats 8000000 in
set_option maxRecDepth 100000 in
theorem ra_r10 {K : Act → World → Prop} {c : Code} (hc : regOf (Try.f14.body.getD .skip) 10 = some c) (a : Act) {v : Vra} {wq : World} {d n oc B : Nat} {oo : Option Addr} {m : MB} {D : List MB} (hF : Fra a v) (h3v : v.v3 = .slice oo n oc) (h5v : v.v5 = .pointer (some ⟨d, 0, none⟩)) (hD : wq.heap[d]? = some (.cells #[.int .i64 m.node, .int .i64 m.life] tMember (0, 0))) (hR : wq.ownsRow B tMember 2 (.slice oo n oc) n (mbCells D)) (hl : n ≤ 7) (hB : B ≤ wq.heap.size)
    (hQ : ∀ a' w' oo' oc', Fra a' { v with v3 := .slice oo' (n + 1) oc' } → Touch (fun j => (Value.slice oo n oc).ownBlock = some j) wq w' → w'.ownsRow B tMember 2 (.slice oo' (n + 1) oc') (n + 1) (mbCells (D ++ [m])) → K a' w') :
    Code.wp Try.prog c (Exit.then K fun _ _ _ => False) a wq := by
  have HQ := hide hQ
  clear hQ
  obtain ⟨t', d'⟩ := a
  obtain ⟨v0, v2, v3, v4, v5, v6⟩ := v
  simp only at h3v h5v HQ
  subst h3v h5v
  obtain ⟨hs1, hd1, q0, q2, q3, q4, q5, q6⟩ := hF
  obtain ⟨u, hu⟩ := frame_ra t' hs1
  simp only at hd1 q0 q2 q3 q4 q5 q6
  subst hu hd1
  have e0 : u 0 = v0 := q0
  have e2 : u 2 = v2 := q2
  have e3 : u 3 = .slice oo n oc := q3
  have e4 : u 4 = v4 := q4
  have e5 : u 5 = .pointer (some ⟨d, 0, none⟩) := q5
  have e6 : u 6 = v6 := q6
  rw [e0, e2, e3, e4, e5, e6]
  clear q0 e0 q2 e2 q3 e3 q4 e4 q5 e5 q6 e6 hs1
  simp only [Try.f14, Option.getD_some, regOf] at hc
  injection hc with hc
  subst hc
  generalize u 1 = u1
  generalize u 7 = u7
  generalize u 8 = u8
  generalize u 9 = u9
  generalize u 10 = u10
  generalize u 11 = u11
  generalize u 12 = u12
  generalize u 13 = u13
  generalize u 14 = u14
  generalize u 15 = u15
  generalize u 16 = u16
  generalize u 17 = u17
  generalize u 18 = u18
  generalize u 19 = u19
  generalize u 20 = u20
  generalize u 21 = u21
  generalize u 22 = u22
  generalize u 23 = u23
  generalize u 24 = u24
  generalize u 25 = u25
  generalize u 26 = u26
  generalize u 27 = u27
  generalize u 28 = u28
  generalize u 29 = u29
  generalize u 30 = u30
  generalize u 31 = u31
  generalize u 32 = u32
  generalize u 33 = u33
  generalize u 34 = u34
  generalize u 35 = u35
  generalize u 36 = u36
  generalize u 37 = u37
  generalize u 38 = u38
  generalize u 39 = u39
  clear u
  obtain ⟨i0, hi0, hz0, hz1, hz2⟩ := info_parts infoSM
  have c0 := box_cell hD 0 rfl
  have c1 := box_cell hD 1 rfl
  have RO := hide hR
  clear hD hR
  go_wp2_with (first | (at_builtin; refine wpList_append_own_at _ rfl _ _ 35 rfl B tMember i0 _ 2 16 Try.underlying35 hi0 hz0 hz1 hz2 rfl (by omega) (.slice oo n oc) n (mbCells D) rfl (RO.out.alloc _) ⟨wq.heap.size, 0, none⟩ 1 1 [.int .i64 m.node, .int .i64 m.life] rfl rfl (World.news_of_block (cs := #[.int .i64 m.node, .int .i64 m.life]) (t := tMember) (fr := (0, 0)) (heap_alloc_new wq _)) (by simp [Value.oneCell']) (by unfold maxLen; omega) (by omega) (by simp; omega) ?_; intro v4 w4 hown4 hgrow4 hnil4 hloc4; obtain ⟨a4, c4, rfl⟩ := row_slice hown4) | go_in)
  exact HQ.out _ _ a4 c4 ⟨rfl, rfl, rfl, rfl, rfl, rfl, rfl, rfl⟩ (((Touch.refl _ wq).alloc _).grown hgrow4 fun j e _ => e) (by rw [mbCells_append]; exact hown4)
set_option maxHeartbeats 8000000 in
set_option maxRecDepth 100000 in
theorem ra_r11 {K : Act → World → Prop} {c : Code} (hc : regOf (Try.f14.body.getD .skip) 11 = some c) (a : Act) {v : Vra} {wq : World}  (hF : Fra a v) (hQ : ∀ a', Fra a' { v with v2 := v.v3 } → K a' wq) :
    Code.wp Try.prog c (Exit.then K fun _ _ _ => False) a wq := by
  have HQ := hide hQ
  clear hQ
  obtain ⟨t', d'⟩ := a
  obtain ⟨v0, v2, v3, v4, v5, v6⟩ := v
  obtain ⟨hs1, hd1, q0, q2, q3, q4, q5, q6⟩ := hF
  obtain ⟨u, hu⟩ := frame_ra t' hs1
  simp only at hd1 q0 q2 q3 q4 q5 q6
  subst hu hd1
  have e0 : u 0 = v0 := q0
  have e2 : u 2 = v2 := q2
  have e3 : u 3 = v3 := q3
  have e4 : u 4 = v4 := q4
  have e5 : u 5 = v5 := q5
  have e6 : u 6 = v6 := q6
  rw [e0, e2, e3, e4, e5, e6]
  clear q0 e0 q2 e2 q3 e3 q4 e4 q5 e5 q6 e6 hs1
  simp only [Try.f14, Option.getD_some, regOf] at hc
  injection hc with hc
  subst hc
  generalize u 1 = u1
  generalize u 7 = u7
  generalize u 8 = u8
  generalize u 9 = u9
  generalize u 10 = u10
  generalize u 11 = u11
  generalize u 12 = u12
  generalize u 13 = u13
  generalize u 14 = u14
  generalize u 15 = u15
  generalize u 16 = u16
  generalize u 17 = u17
  generalize u 18 = u18
  generalize u 19 = u19
  generalize u 20 = u20
  generalize u 21 = u21
  generalize u 22 = u22
  generalize u 23 = u23
  generalize u 24 = u24
  generalize u 25 = u25
  generalize u 26 = u26
  generalize u 27 = u27
  generalize u 28 = u28
  generalize u 29 = u29
  generalize u 30 = u30
  generalize u 31 = u31
  generalize u 32 = u32
  generalize u 33 = u33
  generalize u 34 = u34
  generalize u 35 = u35
  generalize u 36 = u36
  generalize u 37 = u37
  generalize u 38 = u38
  generalize u 39 = u39
  clear u
  go_wp2
  exact HQ.out _ ⟨rfl, rfl, rfl, rfl, rfl, rfl, rfl, rfl⟩
theorem ra_ret {W : World} {a : Act} {v : Vra} {x : Value} {R : Ending → World → Prop} (hF : Fra a v) (h2 : v.v2 = x) (hB : R (.returned x) W) : bodyPost Try.prog Try.f14 R .ret a W := by
  have g2 := slot_get (hF.s2.trans h2)
  refine bodyPost_ret (v := x) ?_ hF.defers hB
  simp [results, Try.results14, go_sem, g2]
theorem wp_fin {P : Program} {c : Code} {Q : Exit → Act → World → Prop} {a : Act} {w : World} (Mid : Act → World → Prop) (h1 : Code.wp P c (Exit.then Mid fun _ _ _ => False) a w) (h2 : ∀ a w, Mid a w → Q .normal a w) : Code.wp P c Q a w :=
  wp_mono h1 fun e a w q => by
    cases e with
    | normal => exact h2 a w q
    | _ => exact False.elim q
set_option maxHeartbeats 4000000 in
set_option maxRecDepth 100000 in
theorem ralive {w : World} {b b1 b2 : Nat} {S : SU} (h : RAt w b b1 b2 S) (hn : S.now ≤ 2000000) : Calls Try.prog 14 #[.pointer (some ⟨b, 0, none⟩)] w fun e w' => ∃ ro rc, e = .returned (.slice ro S.alive.length rc) ∧ MemsAt w' ro S.alive ∧ Below w.heap.size w w' := by
  have H := hide h
  clear h
  go_enter Try.func14, Try.ntmps14
  go_upto_region 1 with fail
  rename_i Ko hKo
  refine reg_mono (ra_r1 (by kernel_rfl) _ (v := ⟨_, _, _, _, _, _⟩) ⟨rfl, rfl, rfl, rfl, rfl, rfl, rfl, rfl⟩ ?_)
  intro a1 F1
  refine hKo _ _ ?_
  refine wp_seq (wp_seq (reg_mono (ra_r2 (by kernel_rfl) _ F1 ?_)))
  intro a2 F2
  refine wp_block (wp_loop (fun a W => ∃ (i : Nat) (v : Vra) (oo : Option Addr) (oc : Nat), i ≤ 7 ∧ Fra a v ∧ v.v0 = .pointer (some ⟨b, 0, none⟩) ∧ v.v3 = .slice oo (S.upto i).length oc ∧ v.v4 = .int .i64 (i : Int) ∧ W.ownsRow w.heap.size tMember 2 (.slice oo (S.upto i).length oc) (S.upto i).length (mbCells (S.upto i)) ∧ Below w.heap.size w W) (fun a _ => 7 - (intOf (a.tmps.getD 4 undef)).toNat) ⟨0, _, none, 0, Nat.zero_le _, F2, rfl, rfl, rfl, World.ownsRow_nil _ _ _ _, Below.refl _ _⟩ ?_)
  clear F1 F2
  rintro a3 w3 ⟨i, v3, oo, oc, hi, F3, g0, g3, g4, R3, B3⟩
  have hm3 : (intOf (a3.tmps.getD 4 undef)).toNat = i := by rw [F3.s4, g4]; simp [intOf]
  refine wp_seq (wp_seq (reg_mono (ra_r3 (by kernel_rfl) _ F3 g4 ?_)))
  intro a4 F4 h8
  by_cases hlt : i < 7
  case neg =>
    rw [decide_eq_false hlt] at h8
    refine wp_cond_false h8 (wp_exit ?_)
    show Code.wp _ _ _ _ _
    obtain rfl : i = 7 := by omega
    refine wp_seq (reg_mono (ra_r11 (by kernel_rfl) _ F4 ?_))
    intro a5 F5
    exact wp_ret (ra_ret F5 g3 ⟨oo, oc, rfl, mems_of_row R3 rfl, B3⟩)
  rw [decide_eq_true hlt] at h8
  refine wp_cond_true h8 (wp_skip ?_)
  show Code.wp _ _ _ _ _
  have T3 := H.out.below B3
  refine wp_seq (wp_block (wp_seq (reg_mono (ra_r5 (by kernel_rfl) _ F4 g0 g4 hlt T3.c2 (T3.t1 hlt) ?_))))
  intro a5 F5
  have D5 := heap_alloc_new w3 (.cells #[.int .i64 (i : Int), .int .i64 (S.life i)] tMember)
  have B5 := B3.alloc B3.size (.cells #[.int .i64 (i : Int), .int .i64 (S.life i)] tMember)
  have R5 := R3.alloc (.cells #[.int .i64 (i : Int), .int .i64 (S.life i)] tMember)
  have hd : w.heap.size ≤ w3.heap.size := B3.size
  have hne : ∀ j, (Value.slice oo (S.upto i).length oc).ownBlock = some j → j ≠ w3.heap.size := fun j e => by have := (R3.lt j e).2; omega
  generalize w3.alloc (.cells #[.int .i64 (i : Int), .int .i64 (S.life i)] tMember) = w5 at *
  generalize w3.heap.size = d at *
  refine wp_mid (fun a W => ∃ v : Vra, Fra a v ∧ v.v0 = .pointer (some ⟨b, 0, none⟩) ∧ v.v3 = .slice oo (S.upto i).length oc ∧ v.v4 = .int .i64 (i : Int) ∧ v.v5 = .pointer (some ⟨d, 0, none⟩) ∧ W.heap[d]? = some (.cells #[.int .i64 (S.at i).node, .int .i64 (S.at i).life] tMember (0, 0)) ∧ W.ownsRow w.heap.size tMember 2 (.slice oo (S.upto i).length oc) (S.upto i).length (mbCells (S.upto i)) ∧ Below w.heap.size w W) ?_ ?_
  · have T5 := H.out.below B5
    refine wp_seq (reg_mono (ra_r6 (by kernel_rfl) _ F5 g0 g4 T5.c0 ?_))
    intro a6 F6 h26
    by_cases hq : (i : Int) = S.self.node
    · rw [show ((i : Int) == S.self.node) = true by simpa using hq] at h26
      refine wp_cond_true h26 (ra_r7 (by kernel_rfl) _ F6 g0 rfl T5.c0 T5.c1 D5 ?_)
      intro a7 F7
      refine ⟨_, F7, g0, g3, g4, rfl, ?_, ?_, ?_⟩
      · have h1 := box_set (box_set D5 0 (.int .i64 S.self.node)) 1 (.int .i64 S.self.life)
        rw [show S.at i = S.self by unfold SU.at; rw [if_pos hq]]
        simpa using h1
      · exact set_row (set_row R5 d 0 _ fun e => hne _ e rfl) d 1 _ fun e => hne _ e rfl
      · exact (B5.setCell (p := ⟨d, 0, none⟩) hd _).setCell (p := ⟨d, 1, none⟩) hd _
    · rw [show ((i : Int) == S.self.node) = false by simpa using hq] at h26
      refine wp_cond_false h26 (wp_skip ?_)
      refine ⟨_, F6, g0, g3, g4, rfl, ?_, R5, B5⟩
      rw [show S.at i = ⟨i, S.life i⟩ by unfold SU.at; rw [if_neg hq]]
      exact D5
  clear F3 F4 F5 g0 g3 g4 h8 T3 D5 B5 R5
  rintro a6 w6 ⟨v6, F6, g0, g3, g4, g5, D6, R6, B6⟩
  refine wp_seq (reg_mono (ra_r8 (m := S.at i) (by kernel_rfl) _ F6 g0 g5 D6 (ris (H.out.below B6) hn (S.at i)) ?_))
  intro a7 w7 F7 b7
  have D7 := (b7.block _ (heap_lt D6)).trans D6
  have R7 := below_row b7 R6
  have B7 := B6.trans (b7.mono B6.size)
  refine wp_fin (fun a W => ∃ (v : Vra) (oo : Option Addr) (oc : Nat), Fra a v ∧ v.v0 = .pointer (some ⟨b, 0, none⟩) ∧ v.v3 = .slice oo (S.upto (i + 1)).length oc ∧ v.v4 = .int .i64 (i : Int) ∧ W.ownsRow w.heap.size tMember 2 (.slice oo (S.upto (i + 1)).length oc) (S.upto (i + 1)).length (mbCells (S.upto (i + 1))) ∧ Below w.heap.size w W) ?_ ?_
  · refine wp_seq (reg_mono (ra_r9 (by kernel_rfl) _ F7 rfl ?_))
    intro a8 F8 h34
    cases hI : S.is (S.at i) with
    | true =>
      rw [hI] at h34
      have hu : S.upto (i + 1) = S.upto i ++ [S.at i] := by rw [SU.upto_succ, if_pos hI]
      have hul : (S.upto (i + 1)).length = (S.upto i).length + 1 := by rw [hu]; simp
      refine wp_cond_true h34 (ra_r10 (m := S.at i) (by kernel_rfl) _ F8 g3 g5 D7 R7 (by have := SU.upto_len S i; omega) B7.size ?_)
      intro a9 w9 oo9 oc9 F9 t9 R9
      refine ⟨_, oo9, oc9, F9, g0, by rw [hul], g4, ?_, B7.trans (t9.toBelow B7.size fun j hj e => by have := (R7.lt j e).1; omega)⟩
      rw [hul, hu]
      exact R9
    | false =>
      rw [hI] at h34
      have hu : S.upto (i + 1) = S.upto i := by rw [SU.upto_succ, if_neg (by rw [hI]; simp), List.append_nil]
      refine wp_cond_false h34 (wp_skip ?_)
      rw [hu]
      exact ⟨_, oo, oc, F8, g0, g3, g4, R7, B7⟩
  clear F6 F7 g0 g3 g4 g5 D6 D7 R6 R7 B6 B7 b7
  rintro a8 w8 ⟨v8, oo8, oc8, F8, g0, g3, g4, R8, B8⟩
  show Code.wp _ _ _ _ _
  refine reg_all (ra_r4 (by kernel_rfl) _ F8 g4 (by omega) ?_)
  intro a9 F9
  refine ⟨⟨i + 1, _, oo8, oc8, by omega, F9, g0, g3, rfl, R8, B8⟩, ?_⟩
  have hm9 : (intOf (a9.tmps.getD 4 undef)).toNat = i + 1 := by rw [F9.s4]; simp only [intOf]; omega
  rw [hm9, hm3]
  omega
end Go.Proofs.Ytafjngmdandgmaa
