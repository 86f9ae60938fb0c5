/-
  carillonref13's Is (mkur.py).
-/
import Derived.Test.YtafjngmdandgmaaZUR0
namespace Go.Proofs.Ytafjngmdandgmaa
open Go.RowKit

attribute [local go_sem ↓] Go.wp_at_zero Go.wp_at_succ
set_option linter.unusedSimpArgs false
set_option linter.unusedVariables false
set_option maxRecDepth 100000 in
theorem frame_ri (t : Array Value) (h : t.size = 51) : ∃ u : Nat → Value, t = List.toArray (u 0 :: u 1 :: u 2 :: u 3 :: u 4 :: u 5 :: u 6 :: u 7 :: u 8 :: u 9 :: u 10 :: u 11 :: u 12 :: u 13 :: u 14 :: u 15 :: u 16 :: u 17 :: u 18 :: u 19 :: u 20 :: u 21 :: u 22 :: u 23 :: u 24 :: u 25 :: u 26 :: u 27 :: u 28 :: u 29 :: u 30 :: u 31 :: u 32 :: u 33 :: u 34 :: u 35 :: u 36 :: u 37 :: u 38 :: u 39 :: u 40 :: u 41 :: u 42 :: u 43 :: u 44 :: u 45 :: u 46 :: u 47 :: u 48 :: u 49 :: u 50 :: []) := by
  refine ⟨fun i => t.getD i undef, ?_⟩
  have e : (List.toArray ((fun i => t.getD i undef) 0 :: (fun i => t.getD i undef) 1 :: (fun i => t.getD i undef) 2 :: (fun i => t.getD i undef) 3 :: (fun i => t.getD i undef) 4 :: (fun i => t.getD i undef) 5 :: (fun i => t.getD i undef) 6 :: (fun i => t.getD i undef) 7 :: (fun i => t.getD i undef) 8 :: (fun i => t.getD i undef) 9 :: (fun i => t.getD i undef) 10 :: (fun i => t.getD i undef) 11 :: (fun i => t.getD i undef) 12 :: (fun i => t.getD i undef) 13 :: (fun i => t.getD i undef) 14 :: (fun i => t.getD i undef) 15 :: (fun i => t.getD i undef) 16 :: (fun i => t.getD i undef) 17 :: (fun i => t.getD i undef) 18 :: (fun i => t.getD i undef) 19 :: (fun i => t.getD i undef) 20 :: (fun i => t.getD i undef) 21 :: (fun i => t.getD i undef) 22 :: (fun i => t.getD i undef) 23 :: (fun i => t.getD i undef) 24 :: (fun i => t.getD i undef) 25 :: (fun i => t.getD i undef) 26 :: (fun i => t.getD i undef) 27 :: (fun i => t.getD i undef) 28 :: (fun i => t.getD i undef) 29 :: (fun i => t.getD i undef) 30 :: (fun i => t.getD i undef) 31 :: (fun i => t.getD i undef) 32 :: (fun i => t.getD i undef) 33 :: (fun i => t.getD i undef) 34 :: (fun i => t.getD i undef) 35 :: (fun i => t.getD i undef) 36 :: (fun i => t.getD i undef) 37 :: (fun i => t.getD i undef) 38 :: (fun i => t.getD i undef) 39 :: (fun i => t.getD i undef) 40 :: (fun i => t.getD i undef) 41 :: (fun i => t.getD i undef) 42 :: (fun i => t.getD i undef) 43 :: (fun i => t.getD i undef) 44 :: (fun i => t.getD i undef) 45 :: (fun i => t.getD i undef) 46 :: (fun i => t.getD i undef) 47 :: (fun i => t.getD i undef) 48 :: (fun i => t.getD i undef) 49 :: (fun i => t.getD i undef) 50 :: []) : Array Value) = ((List.range 51).map fun i => t.getD i undef).toArray := rfl
  refine Eq.trans ?_ e.symm
  apply Array.ext
  · simp [h]
  · intro k h1 h2
    simp [Array.getD, h1]
/-- The slots that matter. -/
structure Vri where
  v0 : Value
  v3 : Value
  v4 : Value
  v5 : Value
structure Fri (a : Act) (v : Vri) : Prop where
  size : a.tmps.size = 51
  defers : a.defers = []
  s0 : a.tmps.getD 0 undef = v.v0
  s3 : a.tmps.getD 3 undef = v.v3
  s4 : a.tmps.getD 4 undef = v.v4
  s5 : a.tmps.getD 5 undef = v.v5
set_option maxHeartbeats 8000000 in
set_option maxRecDepth 100000 in
theorem ri_r1 {K : Act → World → Prop} {c : Code} (hc : regOf (Try.f16.body.getD .skip) 1 = some c) (a : Act) {v : Vri} {wq : World} {d : Nat} {m : MB} (hF : Fri a v) (h3v : v.v3 = .pointer (some ⟨d, 0, none⟩)) (hD : wq.heap[d]? = some (.cells #[.int .i64 m.node, .int .i64 m.life] tMember (0, 0)))
    (hQ : ∀ a' w', Fri a' { v with v5 := .bool (decide m.right) } → Below wq.heap.size wq w' → K a' w') :
    Code.wp Try.prog c (Exit.then K fun _ _ _ => False) a wq := by
  have HQ := hide hQ
  clear hQ
  obtain ⟨t', d'⟩ := a
  obtain ⟨v0, v3, v4, v5⟩ := v
  simp only at h3v HQ
  subst h3v
  obtain ⟨hs1, hd1, q0, q3, q4, q5⟩ := hF
  obtain ⟨u, hu⟩ := frame_ri t' hs1
  simp only at hd1 q0 q3 q4 q5
  subst hu hd1
  have e0 : u 0 = v0 := q0
  have e3 : u 3 = .pointer (some ⟨d, 0, none⟩) := q3
  have e4 : u 4 = v4 := q4
  have e5 : u 5 = v5 := q5
  rw [e0, e3, e4, e5]
  clear q0 e0 q3 e3 q4 e4 q5 e5 hs1
  simp only [Try.f16, Option.getD_some, regOf] at hc
  injection hc with hc
  subst hc
  generalize u 1 = u1
  generalize u 2 = u2
  generalize u 6 = u6
  generalize u 7 = u7
  generalize u 8 = u8
  generalize u 9 = u9
  generalize u 10 = u10
  generalize u 11 = u11
  generalize u 12 = u12
  generalize u 13 = u13
  generalize u 14 = u14
  generalize u 15 = u15
  generalize u 16 = u16
  generalize u 17 = u17
  generalize u 18 = u18
  generalize u 19 = u19
  generalize u 20 = u20
  generalize u 21 = u21
  generalize u 22 = u22
  generalize u 23 = u23
  generalize u 24 = u24
  generalize u 25 = u25
  generalize u 26 = u26
  generalize u 27 = u27
  generalize u 28 = u28
  generalize u 29 = u29
  generalize u 30 = u30
  generalize u 31 = u31
  generalize u 32 = u32
  generalize u 33 = u33
  generalize u 34 = u34
  generalize u 35 = u35
  generalize u 36 = u36
  generalize u 37 = u37
  generalize u 38 = u38
  generalize u 39 = u39
  generalize u 40 = u40
  generalize u 41 = u41
  generalize u 42 = u42
  generalize u 43 = u43
  generalize u 44 = u44
  generalize u 45 = u45
  generalize u 46 = u46
  generalize u 47 = u47
  generalize u 48 = u48
  generalize u 49 = u49
  generalize u 50 = u50
  clear u
  have HE := hide (rmember m wq)
  have c0 := box_cell hD 0 rfl
  have c1 := box_cell hD 1 rfl
  clear hD
  unfold MB.v at HE
  go_wp2_with fail
  refine HE.out.mono ?_
  rintro e w1 ⟨rfl, b1⟩
  have B1 := hide b1
  clear b1 HE
  generalize decide m.right = r at *
  go_wp2
  exact HQ.out _ _ ⟨rfl, rfl, rfl, rfl, rfl, rfl⟩ B1.out
set_option maxHeartbeats 8000000 in
set_option maxRecDepth 100000 in
theorem ri_r2 {K : Act → World → Prop} {c : Code} (hc : regOf (Try.f16.body.getD .skip) 2 = some c) (a : Act) {v : Vri} {wq : World} {r : Bool} (hF : Fri a v) (h5v : v.v5 = .bool r) (hQ : ∀ a', Fri a' v → a'.tmps.getD 9 undef = .bool (!r) → K a' wq) :
    Code.wp Try.prog c (Exit.then K fun _ _ _ => False) a wq := by
  have HQ := hide hQ
  clear hQ
  obtain ⟨t', d'⟩ := a
  obtain ⟨v0, v3, v4, v5⟩ := v
  simp only at h5v HQ
  subst h5v
  obtain ⟨hs1, hd1, q0, q3, q4, q5⟩ := hF
  obtain ⟨u, hu⟩ := frame_ri t' hs1
  simp only at hd1 q0 q3 q4 q5
  subst hu hd1
  have e0 : u 0 = v0 := q0
  have e3 : u 3 = v3 := q3
  have e4 : u 4 = v4 := q4
  have e5 : u 5 = .bool r := q5
  rw [e0, e3, e4, e5]
  clear q0 e0 q3 e3 q4 e4 q5 e5 hs1
  simp only [Try.f16, Option.getD_some, regOf] at hc
  injection hc with hc
  subst hc
  generalize u 1 = u1
  generalize u 2 = u2
  generalize u 6 = u6
  generalize u 7 = u7
  generalize u 8 = u8
  generalize u 9 = u9
  generalize u 10 = u10
  generalize u 11 = u11
  generalize u 12 = u12
  generalize u 13 = u13
  generalize u 14 = u14
  generalize u 15 = u15
  generalize u 16 = u16
  generalize u 17 = u17
  generalize u 18 = u18
  generalize u 19 = u19
  generalize u 20 = u20
  generalize u 21 = u21
  generalize u 22 = u22
  generalize u 23 = u23
  generalize u 24 = u24
  generalize u 25 = u25
  generalize u 26 = u26
  generalize u 27 = u27
  generalize u 28 = u28
  generalize u 29 = u29
  generalize u 30 = u30
  generalize u 31 = u31
  generalize u 32 = u32
  generalize u 33 = u33
  generalize u 34 = u34
  generalize u 35 = u35
  generalize u 36 = u36
  generalize u 37 = u37
  generalize u 38 = u38
  generalize u 39 = u39
  generalize u 40 = u40
  generalize u 41 = u41
  generalize u 42 = u42
  generalize u 43 = u43
  generalize u 44 = u44
  generalize u 45 = u45
  generalize u 46 = u46
  generalize u 47 = u47
  generalize u 48 = u48
  generalize u 49 = u49
  generalize u 50 = u50
  clear u
  go_wp2
  exact HQ.out _ ⟨rfl, rfl, rfl, rfl, rfl, rfl⟩ (by simp)
set_option maxHeartbeats 8000000 in
set_option maxRecDepth 100000 in
theorem ri_r3 {K : Act → World → Prop} {c : Code} (hc : regOf (Try.f16.body.getD .skip) 3 = some c) (a : Act) {v : Vri} {wq : World}  (hF : Fri a v) (hQ : ∀ a', Fri a' { v with v4 := .bool false } → K a' wq) :
    Code.wp Try.prog c (Exit.then K fun _ _ _ => False) a wq := by
  have HQ := hide hQ
  clear hQ
  obtain ⟨t', d'⟩ := a
  obtain ⟨v0, v3, v4, v5⟩ := v
  obtain ⟨hs1, hd1, q0, q3, q4, q5⟩ := hF
  obtain ⟨u, hu⟩ := frame_ri t' hs1
  simp only at hd1 q0 q3 q4 q5
  subst hu hd1
  have e0 : u 0 = v0 := q0
  have e3 : u 3 = v3 := q3
  have e4 : u 4 = v4 := q4
  have e5 : u 5 = v5 := q5
  rw [e0, e3, e4, e5]
  clear q0 e0 q3 e3 q4 e4 q5 e5 hs1
  simp only [Try.f16, Option.getD_some, regOf] at hc
  injection hc with hc
  subst hc
  generalize u 1 = u1
  generalize u 2 = u2
  generalize u 6 = u6
  generalize u 7 = u7
  generalize u 8 = u8
  generalize u 9 = u9
  generalize u 10 = u10
  generalize u 11 = u11
  generalize u 12 = u12
  generalize u 13 = u13
  generalize u 14 = u14
  generalize u 15 = u15
  generalize u 16 = u16
  generalize u 17 = u17
  generalize u 18 = u18
  generalize u 19 = u19
  generalize u 20 = u20
  generalize u 21 = u21
  generalize u 22 = u22
  generalize u 23 = u23
  generalize u 24 = u24
  generalize u 25 = u25
  generalize u 26 = u26
  generalize u 27 = u27
  generalize u 28 = u28
  generalize u 29 = u29
  generalize u 30 = u30
  generalize u 31 = u31
  generalize u 32 = u32
  generalize u 33 = u33
  generalize u 34 = u34
  generalize u 35 = u35
  generalize u 36 = u36
  generalize u 37 = u37
  generalize u 38 = u38
  generalize u 39 = u39
  generalize u 40 = u40
  generalize u 41 = u41
  generalize u 42 = u42
  generalize u 43 = u43
  generalize u 44 = u44
  generalize u 45 = u45
  generalize u 46 = u46
  generalize u 47 = u47
  generalize u 48 = u48
  generalize u 49 = u49
  generalize u 50 = u50
  clear u
  go_wp2
  exact HQ.out _ ⟨rfl, rfl, rfl, rfl, rfl, rfl⟩
set_option maxHeartbeats 8000000 in
set_option maxRecDepth 100000 in
theorem ri_r4 {K : Act → World → Prop} {c : Code} (hc : regOf (Try.f16.body.getD .skip) 4 = some c) (a : Act) {v : Vri} {wq : World} {b d : Nat} {x y : Int} (hF : Fri a v) (h0v : v.v0 = .pointer (some ⟨b, 0, none⟩)) (h3v : v.v3 = .pointer (some ⟨d, 0, none⟩)) (c0 : wq.cell? ⟨d, 0, none⟩ = some (.int .i64 x)) (z0 : wq.cell? ⟨b, 0, none⟩ = some (.int .i64 y))
    (hQ : ∀ a' w', Fri a' v → a'.tmps.getD 17 undef = .bool (x == y) → Below wq.heap.size wq w' → K a' w') :
    Code.wp Try.prog c (Exit.then K fun _ _ _ => False) a wq := by
  have HQ := hide hQ
  clear hQ
  obtain ⟨t', d'⟩ := a
  obtain ⟨v0, v3, v4, v5⟩ := v
  simp only at h0v h3v HQ
  subst h0v h3v
  obtain ⟨hs1, hd1, q0, q3, q4, q5⟩ := hF
  obtain ⟨u, hu⟩ := frame_ri t' hs1
  simp only at hd1 q0 q3 q4 q5
  subst hu hd1
  have e0 : u 0 = .pointer (some ⟨b, 0, none⟩) := q0
  have e3 : u 3 = .pointer (some ⟨d, 0, none⟩) := q3
  have e4 : u 4 = v4 := q4
  have e5 : u 5 = v5 := q5
  rw [e0, e3, e4, e5]
  clear q0 e0 q3 e3 q4 e4 q5 e5 hs1
  simp only [Try.f16, Option.getD_some, regOf] at hc
  injection hc with hc
  subst hc
  generalize u 1 = u1
  generalize u 2 = u2
  generalize u 6 = u6
  generalize u 7 = u7
  generalize u 8 = u8
  generalize u 9 = u9
  generalize u 10 = u10
  generalize u 11 = u11
  generalize u 12 = u12
  generalize u 13 = u13
  generalize u 14 = u14
  generalize u 15 = u15
  generalize u 16 = u16
  generalize u 17 = u17
  generalize u 18 = u18
  generalize u 19 = u19
  generalize u 20 = u20
  generalize u 21 = u21
  generalize u 22 = u22
  generalize u 23 = u23
  generalize u 24 = u24
  generalize u 25 = u25
  generalize u 26 = u26
  generalize u 27 = u27
  generalize u 28 = u28
  generalize u 29 = u29
  generalize u 30 = u30
  generalize u 31 = u31
  generalize u 32 = u32
  generalize u 33 = u33
  generalize u 34 = u34
  generalize u 35 = u35
  generalize u 36 = u36
  generalize u 37 = u37
  generalize u 38 = u38
  generalize u 39 = u39
  generalize u 40 = u40
  generalize u 41 = u41
  generalize u 42 = u42
  generalize u 43 = u43
  generalize u 44 = u44
  generalize u 45 = u45
  generalize u 46 = u46
  generalize u 47 = u47
  generalize u 48 = u48
  generalize u 49 = u49
  generalize u 50 = u50
  clear u
  go_quiet (fail)
  go_wp2
  exact HQ.out _ _ ⟨rfl, rfl, rfl, rfl, rfl, rfl⟩ (by first | rfl | (simp; done)) (below_drewN (Below.refl _ _) _)
set_option maxHeartbeats 8000000 in
set_option maxRecDepth 100000 in
theorem ri_r5 {K : Act → World → Prop} {c : Code} (hc : regOf (Try.f16.body.getD .skip) 5 = some c) (a : Act) {v : Vri} {wq : World} {b d : Nat} {x y x1 y1 : Int} (hF : Fri a v) (h0v : v.v0 = .pointer (some ⟨b, 0, none⟩)) (h3v : v.v3 = .pointer (some ⟨d, 0, none⟩)) (c0 : wq.cell? ⟨d, 0, none⟩ = some (.int .i64 x)) (c1 : wq.cell? ⟨d, 1, none⟩ = some (.int .i64 x1)) (z0 : wq.cell? ⟨b, 0, none⟩ = some (.int .i64 y)) (z1 : wq.cell? ⟨b, 1, none⟩ = some (.int .i64 y1))
    (hQ : ∀ a' w', Fri a' { v with v4 := .bool (x == y && x1 == y1) } → Below wq.heap.size wq w' → K a' w') :
    Code.wp Try.prog c (Exit.then K fun _ _ _ => False) a wq := by
  have HQ := hide hQ
  clear hQ
  obtain ⟨t', d'⟩ := a
  obtain ⟨v0, v3, v4, v5⟩ := v
  simp only at h0v h3v HQ
  subst h0v h3v
  obtain ⟨hs1, hd1, q0, q3, q4, q5⟩ := hF
  obtain ⟨u, hu⟩ := frame_ri t' hs1
  simp only at hd1 q0 q3 q4 q5
  subst hu hd1
  have e0 : u 0 = .pointer (some ⟨b, 0, none⟩) := q0
  have e3 : u 3 = .pointer (some ⟨d, 0, none⟩) := q3
  have e4 : u 4 = v4 := q4
  have e5 : u 5 = v5 := q5
  rw [e0, e3, e4, e5]
  clear q0 e0 q3 e3 q4 e4 q5 e5 hs1
  simp only [Try.f16, Option.getD_some, regOf] at hc
  injection hc with hc
  subst hc
  generalize u 1 = u1
  generalize u 2 = u2
  generalize u 6 = u6
  generalize u 7 = u7
  generalize u 8 = u8
  generalize u 9 = u9
  generalize u 10 = u10
  generalize u 11 = u11
  generalize u 12 = u12
  generalize u 13 = u13
  generalize u 14 = u14
  generalize u 15 = u15
  generalize u 16 = u16
  generalize u 17 = u17
  generalize u 18 = u18
  generalize u 19 = u19
  generalize u 20 = u20
  generalize u 21 = u21
  generalize u 22 = u22
  generalize u 23 = u23
  generalize u 24 = u24
  generalize u 25 = u25
  generalize u 26 = u26
  generalize u 27 = u27
  generalize u 28 = u28
  generalize u 29 = u29
  generalize u 30 = u30
  generalize u 31 = u31
  generalize u 32 = u32
  generalize u 33 = u33
  generalize u 34 = u34
  generalize u 35 = u35
  generalize u 36 = u36
  generalize u 37 = u37
  generalize u 38 = u38
  generalize u 39 = u39
  generalize u 40 = u40
  generalize u 41 = u41
  generalize u 42 = u42
  generalize u 43 = u43
  generalize u 44 = u44
  generalize u 45 = u45
  generalize u 46 = u46
  generalize u 47 = u47
  generalize u 48 = u48
  generalize u 49 = u49
  generalize u 50 = u50
  clear u
  cases g1 : (x == y)
  · rw [g1] at HQ
    go_quiet (fail)
    go_wp2
    exact HQ.out _ _ ⟨rfl, rfl, rfl, rfl, (by first | rfl | (simp; done)), rfl⟩ (below_drewN (Below.refl _ _) _)
  · cases g2 : (x1 == y1)
    · rw [g1, g2] at HQ
      go_quiet (fail)
      go_wp2
      exact HQ.out _ _ ⟨rfl, rfl, rfl, rfl, (by first | rfl | (simp; done)), rfl⟩ (below_drewN (Below.refl _ _) _)
    · rw [g1, g2] at HQ
      go_quiet (fail)
      go_wp2
      exact HQ.out _ _ ⟨rfl, rfl, rfl, rfl, (by first | rfl | (simp; done)), rfl⟩ (below_drewN (Below.refl _ _) _)
set_option maxHeartbeats 8000000 in
set_option maxRecDepth 100000 in
theorem ri_r6 {K : Act → World → Prop} {c : Code} (hc : regOf (Try.f16.body.getD .skip) 6 = some c) (a : Act) {v : Vri} {wq : World} {b d b1 b2 n : Nat} {x1 y q t : Int} (hF : Fri a v) (h0v : v.v0 = .pointer (some ⟨b, 0, none⟩)) (h3v : v.v3 = .pointer (some ⟨d, 0, none⟩)) (hn : n < 7) (c0 : wq.cell? ⟨d, 0, none⟩ = some (.int .i64 (n : Int))) (c1 : wq.cell? ⟨d, 1, none⟩ = some (.int .i64 x1)) (z2 : wq.cell? ⟨b, 2, none⟩ = some (.slice (some ⟨b1, 0, none⟩) 7 7)) (z3 : wq.cell? ⟨b, 3, none⟩ = some (.slice (some ⟨b2, 0, none⟩) 7 7)) (z4 : wq.cell? ⟨b, 4, none⟩ = some (.int .i64 q)) (t1 : wq.cell? ⟨b1, n, none⟩ = some (.int .i64 y)) (t2 : wq.cell? ⟨b2, n, none⟩ = some (.int .i64 t)) (hw : IntKind.i64.wrap (q - t) = q - t)
    (hQ : ∀ a' w', Fri a' { v with v4 := .bool (y == x1 && decide (q - t < 5)) } → Below wq.heap.size wq w' → K a' w') :
    Code.wp Try.prog c (Exit.then K fun _ _ _ => False) a wq := by
  have HQ := hide hQ
  clear hQ
  obtain ⟨t', d'⟩ := a
  obtain ⟨v0, v3, v4, v5⟩ := v
  simp only at h0v h3v HQ
  subst h0v h3v
  obtain ⟨hs1, hd1, q0, q3, q4, q5⟩ := hF
  obtain ⟨u, hu⟩ := frame_ri t' hs1
  simp only at hd1 q0 q3 q4 q5
  subst hu hd1
  have e0 : u 0 = .pointer (some ⟨b, 0, none⟩) := q0
  have e3 : u 3 = .pointer (some ⟨d, 0, none⟩) := q3
  have e4 : u 4 = v4 := q4
  have e5 : u 5 = v5 := q5
  rw [e0, e3, e4, e5]
  clear q0 e0 q3 e3 q4 e4 q5 e5 hs1
  simp only [Try.f16, Option.getD_some, regOf] at hc
  injection hc with hc
  subst hc
  generalize u 1 = u1
  generalize u 2 = u2
  generalize u 6 = u6
  generalize u 7 = u7
  generalize u 8 = u8
  generalize u 9 = u9
  generalize u 10 = u10
  generalize u 11 = u11
  generalize u 12 = u12
  generalize u 13 = u13
  generalize u 14 = u14
  generalize u 15 = u15
  generalize u 16 = u16
  generalize u 17 = u17
  generalize u 18 = u18
  generalize u 19 = u19
  generalize u 20 = u20
  generalize u 21 = u21
  generalize u 22 = u22
  generalize u 23 = u23
  generalize u 24 = u24
  generalize u 25 = u25
  generalize u 26 = u26
  generalize u 27 = u27
  generalize u 28 = u28
  generalize u 29 = u29
  generalize u 30 = u30
  generalize u 31 = u31
  generalize u 32 = u32
  generalize u 33 = u33
  generalize u 34 = u34
  generalize u 35 = u35
  generalize u 36 = u36
  generalize u 37 = u37
  generalize u 38 = u38
  generalize u 39 = u39
  generalize u 40 = u40
  generalize u 41 = u41
  generalize u 42 = u42
  generalize u 43 = u43
  generalize u 44 = u44
  generalize u 45 = u45
  generalize u 46 = u46
  generalize u 47 = u47
  generalize u 48 = u48
  generalize u 49 = u49
  generalize u 50 = u50
  clear u
  have hi0 : (0 : Int) ≤ (n : Int) := by omega
  have hi1 : (n : Int) < 7 := by omega
  cases g1 : (y == x1)
  · rw [g1] at HQ
    go_quiet (fail)
    go_wp2
    exact HQ.out _ _ ⟨rfl, rfl, rfl, rfl, (by first | rfl | (simp; done) | (simp; omega)), rfl⟩ (below_drewN (Below.refl _ _) _)
  · rw [g1] at HQ
    by_cases g : q - t < 5
    · rw [decide_eq_true g] at HQ
      go_quiet (fail)
      go_wp2
      exact HQ.out _ _ ⟨rfl, rfl, rfl, rfl, (by first | rfl | (simp; done) | (simp; omega)), rfl⟩ (below_drewN (Below.refl _ _) _)
    · rw [decide_eq_false g] at HQ
      go_quiet (fail)
      go_wp2
      exact HQ.out _ _ ⟨rfl, rfl, rfl, rfl, (by first | rfl | (simp; done) | (simp; omega)), rfl⟩ (below_drewN (Below.refl _ _) _)
theorem ri_ret {w W : World} {a : Act} {v : Vri} {r : Bool} (hF : Fri a v) (h4 : v.v4 = .bool r) (hB : Below w.heap.size w W) :
    bodyPost Try.prog Try.f16 (fun e w' => e = .returned (.bool r) ∧ Below w.heap.size w w') .ret a W := by
  have g4 := slot_get (hF.s4.trans h4)
  refine bodyPost_ret (v := .bool r) ?_ hF.defers ⟨rfl, hB⟩
  simp [results, Try.results16, go_sem, g4]
set_option maxHeartbeats 4000000 in
set_option maxRecDepth 100000 in
theorem ris {w : World} {b b1 b2 : Nat} {S : SU} (h : RAt w b b1 b2 S) (hn : S.now ≤ 2000000) (m : MB) : Calls Try.prog 16 #[.pointer (some ⟨b, 0, none⟩), m.v] w fun e w' => e = .returned (.bool (S.is m)) ∧ Below w.heap.size w w' := by
  have H := hide h
  have X0 := hide (heap_alloc_new w (.cells #[.int .i64 m.node, .int .i64 m.life] tMember))
  have HB := hide ((Below.refl w.heap.size w).alloc (Nat.le_refl _) (.cells #[.int .i64 m.node, .int .i64 m.life] tMember))
  clear h
  simp only [MB.v]
  go_enter Try.func16, Try.ntmps16
  go_upto_region 1 with fail
  rename_i Ko hKo
  generalize w.alloc (.cells #[.int .i64 m.node, .int .i64 m.life] tMember) = w1 at *
  refine reg_mono (ri_r1 (by kernel_rfl) _ (v := ⟨_, _, _, _⟩) ⟨rfl, rfl, rfl, rfl, rfl, rfl⟩ rfl X0.out ?_)
  intro a2 w2 F2 b2'
  refine hKo _ _ ?_
  have D2 := (b2'.block _ (heap_lt X0.out)).trans X0.out
  have B2 := HB.out.trans (b2'.mono HB.out.size)
  have R2 := H.out.below B2
  have c0 := box_cell D2 0 rfl
  have c1 := box_cell D2 1 rfl
  refine wp_seq (wp_seq (reg_mono (ri_r2 (by kernel_rfl) _ F2 rfl ?_)))
  intro a3 F3 h9
  by_cases hm : m.right
  case neg =>
    rw [decide_eq_false hm] at h9
    refine wp_cond_true h9 (wp_seq (reg_mono (ri_r3 (by kernel_rfl) _ F3 ?_)))
    intro a4 F4
    have hS : S.is m = false := decide_eq_false fun e => hm e.1
    exact wp_ret (ri_ret F4 (by rw [hS]) B2)
  rw [decide_eq_true hm] at h9
  refine wp_cond_false h9 (wp_skip ?_)
  show Code.wp _ _ _ _ _
  refine wp_seq (wp_seq (reg_mono (ri_r4 (by kernel_rfl) _ F3 rfl rfl c0 R2.c0 ?_)))
  intro a4 w4 F4 h17 b4
  have B4 := B2.trans (b4.mono B2.size)
  have R4 := R2.below b4
  have D4 := (b4.block _ (heap_lt D2)).trans D2
  have e0 := box_cell D4 0 rfl
  have e1 := box_cell D4 1 rfl
  by_cases hq : m.node = S.self.node
  case pos =>
    rw [show (m.node == S.self.node) = true by simpa using hq] at h17
    refine wp_cond_true h17 (wp_seq (reg_mono (ri_r5 (by kernel_rfl) _ F4 rfl rfl e0 e1 R4.c0 R4.c1 ?_)))
    intro a5 w5 F5 b5
    have hS : S.is m = (m.node == S.self.node && m.life == S.self.life) := by
      unfold SU.is
      rw [Bool.eq_iff_iff]
      simp only [decide_eq_true_eq, Bool.and_eq_true, beq_iff_eq, if_pos hq]
      constructor
      · rintro ⟨_, e⟩
        rw [e]
        exact ⟨rfl, rfl⟩
      · rintro ⟨p1, p2⟩
        refine ⟨hm, ?_⟩
        cases hx : S.self with
        | mk x y =>
          rw [hx] at p1 p2
          cases m
          simp only at p1 p2
          rw [p1, p2]
    exact wp_ret (ri_ret F5 (by rw [hS]) (B4.trans (b5.mono B4.size)))
  rw [show (m.node == S.self.node) = false by simpa using hq] at h17
  refine wp_cond_false h17 (wp_skip ?_)
  show Code.wp _ _ _ _ _
  obtain ⟨n, hn'⟩ : ∃ n : Nat, m.node = (n : Int) := ⟨m.node.toNat, by have := hm.1; omega⟩
  have hn7 : n < 7 := by have := hm.2.1; omega
  refine wp_seq (reg_mono (ri_r6 (by kernel_rfl) _ F4 rfl rfl hn7 (by rw [← hn']; exact e0) e1 R4.c2 R4.c3 R4.c4 (R4.t1 hn7) (R4.t2 hn7) (by have := R4.age n; rw [IntKind.wrap_i64]; omega) ?_))
  intro a5 w5 F5 b5
  have hS : S.is m = (S.life n == m.life && decide ((S.now : Int) - ((S.now : Int) - (S.age n : Int)) < 5)) := by
    unfold SU.is
    rw [Bool.eq_iff_iff]
    simp only [decide_eq_true_eq, Bool.and_eq_true, beq_iff_eq, if_neg hq]
    rw [hn', show ((n : Int)).toNat = n by omega]
    constructor
    · rintro ⟨_, p1, p2⟩
      exact ⟨p1, by omega⟩
    · rintro ⟨p1, p2⟩
      exact ⟨hm, p1, by omega⟩
  exact wp_ret (ri_ret F5 (by rw [hS]) (B4.trans (b5.mono B4.size)))
end Go.Proofs.Ytafjngmdandgmaa
