/-
  carillonref13's Heard (mkur.py).
-/
import Derived.Test.YtafjngmdandgmaaZUR0
namespace Go.Proofs.Ytafjngmdandgmaa
open Go.RowKit

attribute [local go_sem ↓] Go.wp_at_zero Go.wp_at_succ
set_option linter.unusedSimpArgs false
set_option linter.unusedVariables false
set_option maxRecDepth 100000 in
theorem frame_rh (t : Array Value) (h : t.size = 53) : ∃ u : Nat → Value, t = List.toArray (u 0 :: u 1 :: u 2 :: u 3 :: u 4 :: u 5 :: u 6 :: u 7 :: u 8 :: u 9 :: u 10 :: u 11 :: u 12 :: u 13 :: u 14 :: u 15 :: u 16 :: u 17 :: u 18 :: u 19 :: u 20 :: u 21 :: u 22 :: u 23 :: u 24 :: u 25 :: u 26 :: u 27 :: u 28 :: u 29 :: u 30 :: u 31 :: u 32 :: u 33 :: u 34 :: u 35 :: u 36 :: u 37 :: u 38 :: u 39 :: u 40 :: u 41 :: u 42 :: u 43 :: u 44 :: u 45 :: u 46 :: u 47 :: u 48 :: u 49 :: u 50 :: u 51 :: u 52 :: []) := by
  refine ⟨fun i => t.getD i undef, ?_⟩
  have e : (List.toArray ((fun i => t.getD i undef) 0 :: (fun i => t.getD i undef) 1 :: (fun i => t.getD i undef) 2 :: (fun i => t.getD i undef) 3 :: (fun i => t.getD i undef) 4 :: (fun i => t.getD i undef) 5 :: (fun i => t.getD i undef) 6 :: (fun i => t.getD i undef) 7 :: (fun i => t.getD i undef) 8 :: (fun i => t.getD i undef) 9 :: (fun i => t.getD i undef) 10 :: (fun i => t.getD i undef) 11 :: (fun i => t.getD i undef) 12 :: (fun i => t.getD i undef) 13 :: (fun i => t.getD i undef) 14 :: (fun i => t.getD i undef) 15 :: (fun i => t.getD i undef) 16 :: (fun i => t.getD i undef) 17 :: (fun i => t.getD i undef) 18 :: (fun i => t.getD i undef) 19 :: (fun i => t.getD i undef) 20 :: (fun i => t.getD i undef) 21 :: (fun i => t.getD i undef) 22 :: (fun i => t.getD i undef) 23 :: (fun i => t.getD i undef) 24 :: (fun i => t.getD i undef) 25 :: (fun i => t.getD i undef) 26 :: (fun i => t.getD i undef) 27 :: (fun i => t.getD i undef) 28 :: (fun i => t.getD i undef) 29 :: (fun i => t.getD i undef) 30 :: (fun i => t.getD i undef) 31 :: (fun i => t.getD i undef) 32 :: (fun i => t.getD i undef) 33 :: (fun i => t.getD i undef) 34 :: (fun i => t.getD i undef) 35 :: (fun i => t.getD i undef) 36 :: (fun i => t.getD i undef) 37 :: (fun i => t.getD i undef) 38 :: (fun i => t.getD i undef) 39 :: (fun i => t.getD i undef) 40 :: (fun i => t.getD i undef) 41 :: (fun i => t.getD i undef) 42 :: (fun i => t.getD i undef) 43 :: (fun i => t.getD i undef) 44 :: (fun i => t.getD i undef) 45 :: (fun i => t.getD i undef) 46 :: (fun i => t.getD i undef) 47 :: (fun i => t.getD i undef) 48 :: (fun i => t.getD i undef) 49 :: (fun i => t.getD i undef) 50 :: (fun i => t.getD i undef) 51 :: (fun i => t.getD i undef) 52 :: []) : Array Value) = ((List.range 53).map fun i => t.getD i undef).toArray := rfl
  refine Eq.trans ?_ e.symm
  apply Array.ext
  · simp [h]
  · intro k h1 h2
    simp [Array.getD, h1]
/-- The slots that matter. -/
structure Vrh where
  v0 : Value
  v3 : Value
  v4 : Value
  v5 : Value
structure Frh (a : Act) (v : Vrh) : Prop where
  size : a.tmps.size = 53
  defers : a.defers = []
  s0 : a.tmps.getD 0 undef = v.v0
  s3 : a.tmps.getD 3 undef = v.v3
  s4 : a.tmps.getD 4 undef = v.v4
  s5 : a.tmps.getD 5 undef = v.v5
set_option maxHeartbeats 8000000 in
set_option maxRecDepth 100000 in
theorem rh_r1 {K : Act → World → Prop} {c : Code} (hc : regOf (Try.f12.body.getD .skip) 1 = some c) (a : Act) {v : Vrh} {wq : World} {d : Nat} {m : MB} (hF : Frh a v) (h3v : v.v3 = .pointer (some ⟨d, 0, none⟩)) (hD : wq.heap[d]? = some (.cells #[.int .i64 m.node, .int .i64 m.life] tMember (0, 0)))
    (hQ : ∀ a' w', Frh a' { v with v5 := .bool (decide m.right) } → Below wq.heap.size wq w' → K a' w') :
    Code.wp Try.prog c (Exit.then K fun _ _ _ => False) a wq := by
  have HQ := hide hQ
  clear hQ
  obtain ⟨t', d'⟩ := a
  obtain ⟨v0, v3, v4, v5⟩ := v
  simp only at h3v HQ
  subst h3v
  obtain ⟨hs1, hd1, q0, q3, q4, q5⟩ := hF
  obtain ⟨u, hu⟩ := frame_rh t' hs1
  simp only at hd1 q0 q3 q4 q5
  subst hu hd1
  have e0 : u 0 = v0 := q0
  have e3 : u 3 = .pointer (some ⟨d, 0, none⟩) := q3
  have e4 : u 4 = v4 := q4
  have e5 : u 5 = v5 := q5
  rw [e0, e3, e4, e5]
  clear q0 e0 q3 e3 q4 e4 q5 e5 hs1
  simp only [Try.f12, Option.getD_some, regOf] at hc
  injection hc with hc
  subst hc
  generalize u 1 = u1
  generalize u 2 = u2
  generalize u 6 = u6
  generalize u 7 = u7
  generalize u 8 = u8
  generalize u 9 = u9
  generalize u 10 = u10
  generalize u 11 = u11
  generalize u 12 = u12
  generalize u 13 = u13
  generalize u 14 = u14
  generalize u 15 = u15
  generalize u 16 = u16
  generalize u 17 = u17
  generalize u 18 = u18
  generalize u 19 = u19
  generalize u 20 = u20
  generalize u 21 = u21
  generalize u 22 = u22
  generalize u 23 = u23
  generalize u 24 = u24
  generalize u 25 = u25
  generalize u 26 = u26
  generalize u 27 = u27
  generalize u 28 = u28
  generalize u 29 = u29
  generalize u 30 = u30
  generalize u 31 = u31
  generalize u 32 = u32
  generalize u 33 = u33
  generalize u 34 = u34
  generalize u 35 = u35
  generalize u 36 = u36
  generalize u 37 = u37
  generalize u 38 = u38
  generalize u 39 = u39
  generalize u 40 = u40
  generalize u 41 = u41
  generalize u 42 = u42
  generalize u 43 = u43
  generalize u 44 = u44
  generalize u 45 = u45
  generalize u 46 = u46
  generalize u 47 = u47
  generalize u 48 = u48
  generalize u 49 = u49
  generalize u 50 = u50
  generalize u 51 = u51
  generalize u 52 = u52
  clear u
  have HE := hide (rmember m wq)
  have c0 := box_cell hD 0 rfl
  have c1 := box_cell hD 1 rfl
  clear hD
  unfold MB.v at HE
  go_wp2_with fail
  refine HE.out.mono ?_
  rintro e w1 ⟨rfl, b1⟩
  have B1 := hide b1
  clear b1 HE
  generalize decide m.right = r at *
  go_wp2
  exact HQ.out _ _ ⟨rfl, rfl, rfl, rfl, rfl, rfl⟩ B1.out
set_option maxHeartbeats 8000000 in
set_option maxRecDepth 100000 in
theorem rh_r2n {K : Act → World → Prop} {c : Code} (hc : regOf (Try.f12.body.getD .skip) 2 = some c) (a : Act) {v : Vrh} {wq : World}  (hF : Frh a v) (h5v : v.v5 = .bool false) (hQ : ∀ a' w', Frh a' v → a'.tmps.getD 32 undef = .bool true → Below wq.heap.size wq w' → K a' w') :
    Code.wp Try.prog c (Exit.then K fun _ _ _ => False) a wq := by
  have HQ := hide hQ
  clear hQ
  obtain ⟨t', d'⟩ := a
  obtain ⟨v0, v3, v4, v5⟩ := v
  simp only at h5v HQ
  subst h5v
  obtain ⟨hs1, hd1, q0, q3, q4, q5⟩ := hF
  obtain ⟨u, hu⟩ := frame_rh t' hs1
  simp only at hd1 q0 q3 q4 q5
  subst hu hd1
  have e0 : u 0 = v0 := q0
  have e3 : u 3 = v3 := q3
  have e4 : u 4 = v4 := q4
  have e5 : u 5 = .bool false := q5
  rw [e0, e3, e4, e5]
  clear q0 e0 q3 e3 q4 e4 q5 e5 hs1
  simp only [Try.f12, Option.getD_some, regOf] at hc
  injection hc with hc
  subst hc
  generalize u 1 = u1
  generalize u 2 = u2
  generalize u 6 = u6
  generalize u 7 = u7
  generalize u 8 = u8
  generalize u 9 = u9
  generalize u 10 = u10
  generalize u 11 = u11
  generalize u 12 = u12
  generalize u 13 = u13
  generalize u 14 = u14
  generalize u 15 = u15
  generalize u 16 = u16
  generalize u 17 = u17
  generalize u 18 = u18
  generalize u 19 = u19
  generalize u 20 = u20
  generalize u 21 = u21
  generalize u 22 = u22
  generalize u 23 = u23
  generalize u 24 = u24
  generalize u 25 = u25
  generalize u 26 = u26
  generalize u 27 = u27
  generalize u 28 = u28
  generalize u 29 = u29
  generalize u 30 = u30
  generalize u 31 = u31
  generalize u 32 = u32
  generalize u 33 = u33
  generalize u 34 = u34
  generalize u 35 = u35
  generalize u 36 = u36
  generalize u 37 = u37
  generalize u 38 = u38
  generalize u 39 = u39
  generalize u 40 = u40
  generalize u 41 = u41
  generalize u 42 = u42
  generalize u 43 = u43
  generalize u 44 = u44
  generalize u 45 = u45
  generalize u 46 = u46
  generalize u 47 = u47
  generalize u 48 = u48
  generalize u 49 = u49
  generalize u 50 = u50
  generalize u 51 = u51
  generalize u 52 = u52
  clear u
  go_region
  all_goals
    go_wp2
    exact HQ.out _ _ ⟨rfl, rfl, rfl, rfl, rfl, rfl⟩ (by first | rfl | (simp; done)) (Below.refl _ _).drew
set_option maxHeartbeats 8000000 in
set_option maxRecDepth 100000 in
theorem rh_r2 {K : Act → World → Prop} {c : Code} (hc : regOf (Try.f12.body.getD .skip) 2 = some c) (a : Act) {v : Vrh} {wq : World} {b d b1 n : Nat} {x1 y q : Int} (hF : Frh a v) (h0v : v.v0 = .pointer (some ⟨b, 0, none⟩)) (h3v : v.v3 = .pointer (some ⟨d, 0, none⟩)) (h5v : v.v5 = .bool true) (hn : n < 7) (c0 : wq.cell? ⟨d, 0, none⟩ = some (.int .i64 (n : Int))) (c1 : wq.cell? ⟨d, 1, none⟩ = some (.int .i64 x1)) (z0 : wq.cell? ⟨b, 0, none⟩ = some (.int .i64 y)) (z2 : wq.cell? ⟨b, 2, none⟩ = some (.slice (some ⟨b1, 0, none⟩) 7 7)) (t1 : wq.cell? ⟨b1, n, none⟩ = some (.int .i64 q))
    (hQ : ∀ a' w', Frh a' v → a'.tmps.getD 32 undef = .bool ((n : Int) == y || decide (x1 < q)) → Below wq.heap.size wq w' → K a' w') :
    Code.wp Try.prog c (Exit.then K fun _ _ _ => False) a wq := by
  have HQ := hide hQ
  clear hQ
  obtain ⟨t', d'⟩ := a
  obtain ⟨v0, v3, v4, v5⟩ := v
  simp only at h0v h3v h5v HQ
  subst h0v h3v h5v
  obtain ⟨hs1, hd1, q0, q3, q4, q5⟩ := hF
  obtain ⟨u, hu⟩ := frame_rh t' hs1
  simp only at hd1 q0 q3 q4 q5
  subst hu hd1
  have e0 : u 0 = .pointer (some ⟨b, 0, none⟩) := q0
  have e3 : u 3 = .pointer (some ⟨d, 0, none⟩) := q3
  have e4 : u 4 = v4 := q4
  have e5 : u 5 = .bool true := q5
  rw [e0, e3, e4, e5]
  clear q0 e0 q3 e3 q4 e4 q5 e5 hs1
  simp only [Try.f12, Option.getD_some, regOf] at hc
  injection hc with hc
  subst hc
  generalize u 1 = u1
  generalize u 2 = u2
  generalize u 6 = u6
  generalize u 7 = u7
  generalize u 8 = u8
  generalize u 9 = u9
  generalize u 10 = u10
  generalize u 11 = u11
  generalize u 12 = u12
  generalize u 13 = u13
  generalize u 14 = u14
  generalize u 15 = u15
  generalize u 16 = u16
  generalize u 17 = u17
  generalize u 18 = u18
  generalize u 19 = u19
  generalize u 20 = u20
  generalize u 21 = u21
  generalize u 22 = u22
  generalize u 23 = u23
  generalize u 24 = u24
  generalize u 25 = u25
  generalize u 26 = u26
  generalize u 27 = u27
  generalize u 28 = u28
  generalize u 29 = u29
  generalize u 30 = u30
  generalize u 31 = u31
  generalize u 32 = u32
  generalize u 33 = u33
  generalize u 34 = u34
  generalize u 35 = u35
  generalize u 36 = u36
  generalize u 37 = u37
  generalize u 38 = u38
  generalize u 39 = u39
  generalize u 40 = u40
  generalize u 41 = u41
  generalize u 42 = u42
  generalize u 43 = u43
  generalize u 44 = u44
  generalize u 45 = u45
  generalize u 46 = u46
  generalize u 47 = u47
  generalize u 48 = u48
  generalize u 49 = u49
  generalize u 50 = u50
  generalize u 51 = u51
  generalize u 52 = u52
  clear u
  have hi0 : (0 : Int) ≤ (n : Int) := by omega
  have hi1 : (n : Int) < 7 := by omega
  cases g1 : ((n : Int) == y)
  · rw [g1] at HQ
    by_cases g : x1 < q
    · rw [decide_eq_true g] at HQ
      go_quiet (fail)
      go_wp2
      exact HQ.out _ _ ⟨rfl, rfl, rfl, rfl, rfl, rfl⟩ (by first | rfl | (simp; done) | (simp; omega)) (below_drewN (Below.refl _ _) _)
    · rw [decide_eq_false g] at HQ
      go_quiet (fail)
      go_wp2
      exact HQ.out _ _ ⟨rfl, rfl, rfl, rfl, rfl, rfl⟩ (by first | rfl | (simp; done) | (simp; omega)) (below_drewN (Below.refl _ _) _)
  · rw [g1] at HQ
    go_quiet (fail)
    go_wp2
    exact HQ.out _ _ ⟨rfl, rfl, rfl, rfl, rfl, rfl⟩ (by first | rfl | (simp; done) | (simp; omega)) (below_drewN (Below.refl _ _) _)
set_option maxHeartbeats 8000000 in
set_option maxRecDepth 100000 in
theorem rh_r3 {K : Act → World → Prop} {c : Code} (hc : regOf (Try.f12.body.getD .skip) 3 = some c) (a : Act) {v : Vrh} {wq : World}  (hF : Frh a v) (hQ : ∀ a', Frh a' { v with v4 := .bool false } → K a' wq) :
    Code.wp Try.prog c (Exit.then K fun _ _ _ => False) a wq := by
  have HQ := hide hQ
  clear hQ
  obtain ⟨t', d'⟩ := a
  obtain ⟨v0, v3, v4, v5⟩ := v
  obtain ⟨hs1, hd1, q0, q3, q4, q5⟩ := hF
  obtain ⟨u, hu⟩ := frame_rh t' hs1
  simp only at hd1 q0 q3 q4 q5
  subst hu hd1
  have e0 : u 0 = v0 := q0
  have e3 : u 3 = v3 := q3
  have e4 : u 4 = v4 := q4
  have e5 : u 5 = v5 := q5
  rw [e0, e3, e4, e5]
  clear q0 e0 q3 e3 q4 e4 q5 e5 hs1
  simp only [Try.f12, Option.getD_some, regOf] at hc
  injection hc with hc
  subst hc
  generalize u 1 = u1
  generalize u 2 = u2
  generalize u 6 = u6
  generalize u 7 = u7
  generalize u 8 = u8
  generalize u 9 = u9
  generalize u 10 = u10
  generalize u 11 = u11
  generalize u 12 = u12
  generalize u 13 = u13
  generalize u 14 = u14
  generalize u 15 = u15
  generalize u 16 = u16
  generalize u 17 = u17
  generalize u 18 = u18
  generalize u 19 = u19
  generalize u 20 = u20
  generalize u 21 = u21
  generalize u 22 = u22
  generalize u 23 = u23
  generalize u 24 = u24
  generalize u 25 = u25
  generalize u 26 = u26
  generalize u 27 = u27
  generalize u 28 = u28
  generalize u 29 = u29
  generalize u 30 = u30
  generalize u 31 = u31
  generalize u 32 = u32
  generalize u 33 = u33
  generalize u 34 = u34
  generalize u 35 = u35
  generalize u 36 = u36
  generalize u 37 = u37
  generalize u 38 = u38
  generalize u 39 = u39
  generalize u 40 = u40
  generalize u 41 = u41
  generalize u 42 = u42
  generalize u 43 = u43
  generalize u 44 = u44
  generalize u 45 = u45
  generalize u 46 = u46
  generalize u 47 = u47
  generalize u 48 = u48
  generalize u 49 = u49
  generalize u 50 = u50
  generalize u 51 = u51
  generalize u 52 = u52
  clear u
  go_wp2
  exact HQ.out _ ⟨rfl, rfl, rfl, rfl, rfl, rfl⟩
set_option maxHeartbeats 8000000 in
set_option maxRecDepth 100000 in
theorem rh_r6 {K : Act → World → Prop} {c : Code} (hc : regOf (Try.f12.body.getD .skip) 6 = some c) (a : Act) {v : Vrh} {wq : World}  (hF : Frh a v) (hQ : ∀ a', Frh a' { v with v4 := .bool true } → K a' wq) :
    Code.wp Try.prog c (Exit.then K fun _ _ _ => False) a wq := by
  have HQ := hide hQ
  clear hQ
  obtain ⟨t', d'⟩ := a
  obtain ⟨v0, v3, v4, v5⟩ := v
  obtain ⟨hs1, hd1, q0, q3, q4, q5⟩ := hF
  obtain ⟨u, hu⟩ := frame_rh t' hs1
  simp only at hd1 q0 q3 q4 q5
  subst hu hd1
  have e0 : u 0 = v0 := q0
  have e3 : u 3 = v3 := q3
  have e4 : u 4 = v4 := q4
  have e5 : u 5 = v5 := q5
  rw [e0, e3, e4, e5]
  clear q0 e0 q3 e3 q4 e4 q5 e5 hs1
  simp only [Try.f12, Option.getD_some, regOf] at hc
  injection hc with hc
  subst hc
  generalize u 1 = u1
  generalize u 2 = u2
  generalize u 6 = u6
  generalize u 7 = u7
  generalize u 8 = u8
  generalize u 9 = u9
  generalize u 10 = u10
  generalize u 11 = u11
  generalize u 12 = u12
  generalize u 13 = u13
  generalize u 14 = u14
  generalize u 15 = u15
  generalize u 16 = u16
  generalize u 17 = u17
  generalize u 18 = u18
  generalize u 19 = u19
  generalize u 20 = u20
  generalize u 21 = u21
  generalize u 22 = u22
  generalize u 23 = u23
  generalize u 24 = u24
  generalize u 25 = u25
  generalize u 26 = u26
  generalize u 27 = u27
  generalize u 28 = u28
  generalize u 29 = u29
  generalize u 30 = u30
  generalize u 31 = u31
  generalize u 32 = u32
  generalize u 33 = u33
  generalize u 34 = u34
  generalize u 35 = u35
  generalize u 36 = u36
  generalize u 37 = u37
  generalize u 38 = u38
  generalize u 39 = u39
  generalize u 40 = u40
  generalize u 41 = u41
  generalize u 42 = u42
  generalize u 43 = u43
  generalize u 44 = u44
  generalize u 45 = u45
  generalize u 46 = u46
  generalize u 47 = u47
  generalize u 48 = u48
  generalize u 49 = u49
  generalize u 50 = u50
  generalize u 51 = u51
  generalize u 52 = u52
  clear u
  go_wp2
  exact HQ.out _ ⟨rfl, rfl, rfl, rfl, rfl, rfl⟩
set_option maxHeartbeats 8000000 in
set_option maxRecDepth 100000 in
theorem rh_r4 {K : Act → World → Prop} {c : Code} (hc : regOf (Try.f12.body.getD .skip) 4 = some c) (a : Act) {v : Vrh} {wq : World} {b d b1 n : Nat} {x1 : Int} {cs : Array Value} (hF : Frh a v) (h0v : v.v0 = .pointer (some ⟨b, 0, none⟩)) (h3v : v.v3 = .pointer (some ⟨d, 0, none⟩)) (hn : n < 7) (hdl : d < wq.heap.size) (hbl : b < wq.heap.size) (hcs : cs.size = 7) (hL : wq.heap[b1]? = some (.cells cs tInt (0, 0))) (c0 : wq.cell? ⟨d, 0, none⟩ = some (.int .i64 (n : Int))) (z2 : wq.cell? ⟨b, 2, none⟩ = some (.slice (some ⟨b1, 0, none⟩) 7 7)) (c1 : wq.cell? ⟨d, 1, none⟩ = some (.int .i64 x1))
    (hQ : ∀ a' w', Frh a' v → Below wq.heap.size wq w' → K a' (w'.setCell ⟨b1, n, none⟩ (.int .i64 x1))) :
    Code.wp Try.prog c (Exit.then K fun _ _ _ => False) a wq := by
  have HQ := hide hQ
  clear hQ
  obtain ⟨t', d'⟩ := a
  obtain ⟨v0, v3, v4, v5⟩ := v
  simp only at h0v h3v HQ
  subst h0v h3v
  obtain ⟨hs1, hd1, q0, q3, q4, q5⟩ := hF
  obtain ⟨u, hu⟩ := frame_rh t' hs1
  simp only at hd1 q0 q3 q4 q5
  subst hu hd1
  have e0 : u 0 = .pointer (some ⟨b, 0, none⟩) := q0
  have e3 : u 3 = .pointer (some ⟨d, 0, none⟩) := q3
  have e4 : u 4 = v4 := q4
  have e5 : u 5 = v5 := q5
  rw [e0, e3, e4, e5]
  clear q0 e0 q3 e3 q4 e4 q5 e5 hs1
  simp only [Try.f12, Option.getD_some, regOf] at hc
  injection hc with hc
  subst hc
  generalize u 1 = u1
  generalize u 2 = u2
  generalize u 6 = u6
  generalize u 7 = u7
  generalize u 8 = u8
  generalize u 9 = u9
  generalize u 10 = u10
  generalize u 11 = u11
  generalize u 12 = u12
  generalize u 13 = u13
  generalize u 14 = u14
  generalize u 15 = u15
  generalize u 16 = u16
  generalize u 17 = u17
  generalize u 18 = u18
  generalize u 19 = u19
  generalize u 20 = u20
  generalize u 21 = u21
  generalize u 22 = u22
  generalize u 23 = u23
  generalize u 24 = u24
  generalize u 25 = u25
  generalize u 26 = u26
  generalize u 27 = u27
  generalize u 28 = u28
  generalize u 29 = u29
  generalize u 30 = u30
  generalize u 31 = u31
  generalize u 32 = u32
  generalize u 33 = u33
  generalize u 34 = u34
  generalize u 35 = u35
  generalize u 36 = u36
  generalize u 37 = u37
  generalize u 38 = u38
  generalize u 39 = u39
  generalize u 40 = u40
  generalize u 41 = u41
  generalize u 42 = u42
  generalize u 43 = u43
  generalize u 44 = u44
  generalize u 45 = u45
  generalize u 46 = u46
  generalize u 47 = u47
  generalize u 48 = u48
  generalize u 49 = u49
  generalize u 50 = u50
  generalize u 51 = u51
  generalize u 52 = u52
  clear u
  have hi0 : (0 : Int) ≤ (n : Int) := by omega
  have hi1 : (n : Int) < 7 := by omega
  refine wp_region_last 9 rfl (by kernel_rfl) rfl rfl (by kernel_rfl) ?_
  intro ops' hops'
  simp only [idle, List.setIfInBounds_toArray, List.set_cons_succ, List.set_cons_zero] at hops'
  subst hops'
  refine wpAny_phi (ns := 53) (uses := (fun i => match i with | 0 => [33] | 1 => [34] | 2 => [35] | 3 => [36] | 4 => [37] | 5 => [38] | 6 => [39] | 7 => [40] | 8 => [41] | 9 => [] | _ => [])) (by kernel_rfl) (by kernel_rfl) (fun _ w w' => Below w.heap.size w w') (fun w => Below wq.heap.size wq w) (fun _ _ _ h r => h.trans (r.mono h.size)) ((Below.refl _ _).drew) (fun i => match i with | 0 => fun s w => s 33 = .pointer (some ⟨b, 0, none⟩) | 1 => fun s w => s 34 = .pointer (some ⟨b, 0, none⟩) | 2 => fun s w => s 35 = .pointer (some ⟨b, 2, none⟩) | 3 => fun s w => s 36 = .slice (some ⟨b1, 0, none⟩) 7 7 | 4 => fun s w => s 37 = .pointer (some ⟨d, 0, none⟩) | 5 => fun s w => s 38 = .int .i64 (n : Int) | 6 => fun s w => s 39 = .pointer (some ⟨d, 1, none⟩) | 7 => fun s w => s 40 = .int .i64 x1 | 8 => fun s w => s 41 = .pointer (some ⟨b1, n, none⟩) | 9 => fun s w => True | _ => fun _ _ => True) ?phc ?phh ?pstep ?pdone
  case phc =>
    intro i s s' w hx h
    match i, hx, h with
    | 0, hx, h =>
      have e33 := hx 33 (by simp)
      first | exact (show _ from by simp only [← e33] at *; exact h) | (simp only [e33] at h; exact h)
    | 1, hx, h =>
      have e34 := hx 34 (by simp)
      first | exact (show _ from by simp only [← e34] at *; exact h) | (simp only [e34] at h; exact h)
    | 2, hx, h =>
      have e35 := hx 35 (by simp)
      first | exact (show _ from by simp only [← e35] at *; exact h) | (simp only [e35] at h; exact h)
    | 3, hx, h =>
      have e36 := hx 36 (by simp)
      first | exact (show _ from by simp only [← e36] at *; exact h) | (simp only [e36] at h; exact h)
    | 4, hx, h =>
      have e37 := hx 37 (by simp)
      first | exact (show _ from by simp only [← e37] at *; exact h) | (simp only [e37] at h; exact h)
    | 5, hx, h =>
      have e38 := hx 38 (by simp)
      first | exact (show _ from by simp only [← e38] at *; exact h) | (simp only [e38] at h; exact h)
    | 6, hx, h =>
      have e39 := hx 39 (by simp)
      first | exact (show _ from by simp only [← e39] at *; exact h) | (simp only [e39] at h; exact h)
    | 7, hx, h =>
      have e40 := hx 40 (by simp)
      first | exact (show _ from by simp only [← e40] at *; exact h) | (simp only [e40] at h; exact h)
    | 8, hx, h =>
      have e41 := hx 41 (by simp)
      first | exact (show _ from by simp only [← e41] at *; exact h) | (simp only [e41] at h; exact h)
    | 9, hx, h =>
      exact h
    | (n + 10), _, h => exact h
  case phh =>
    intro i j s w w' hij h hb r
    match i, hij, h with
    | 0, hij, h =>
      exact h
    | 1, hij, h =>
      exact h
    | 2, hij, h =>
      exact h
    | 3, hij, h =>
      exact h
    | 4, hij, h =>
      exact h
    | 5, hij, h =>
      exact h
    | 6, hij, h =>
      exact h
    | 7, hij, h =>
      exact h
    | 8, hij, h =>
      exact h
    | 9, hij, h =>
      exact h
    | (n + 10), _, h => exact h
  case pstep =>
    intro i o ho a' w' hsa hb hd
    match i, ho with
    | 0, ho =>
      obtain rfl := Option.some.inj ho
      try dsimp only at hd
      have g0 : a'.tmps.getD 0 undef = .pointer (some ⟨b, 0, none⟩) := hsa.rest 0 (by rfl)
      refine wpOp_of rfl rfl ?_
      refine op_run (v := .pointer (some ⟨b, 0, none⟩)) (w' := w') ?_ ⟨_, rfl, ?_, ?_⟩
      · simp only [execOp, Act.eval, List.map_toArray, List.map_cons, List.map_nil, g0]; first | (go_simp; done) | rfl
      · try dsimp only
        exact (slots_put (ns := 53) (hsa.size.trans rfl) (by decide))
      · exact Below.refl _ _
    | 1, ho =>
      obtain rfl := Option.some.inj ho
      try dsimp only at hd
      have d0 : a'.tmps.getD 33 undef = .pointer (some ⟨b, 0, none⟩) := hd 0 (by rfl)
      refine wpOp_of rfl rfl ?_
      refine op_run (v := .pointer (some ⟨b, 0, none⟩)) (w' := w') ?_ ⟨_, rfl, ?_, ?_⟩
      · simp only [execOp, Act.eval, List.map_toArray, List.map_cons, List.map_nil, d0]; first | (go_simp; done) | rfl
      · try dsimp only
        exact (slots_put (ns := 53) (hsa.size.trans rfl) (by decide))
      · exact Below.refl _ _
    | 2, ho =>
      obtain rfl := Option.some.inj ho
      try dsimp only at hd
      have d1 : a'.tmps.getD 34 undef = .pointer (some ⟨b, 0, none⟩) := hd 1 (by rfl)
      refine wpOp_of rfl rfl ?_
      refine op_run (v := .pointer (some ⟨b, 2, none⟩)) (w' := w') ?_ ⟨_, rfl, ?_, ?_⟩
      · simp only [execOp, Act.eval, List.map_toArray, List.map_cons, List.map_nil, d1]; first | (go_simp; done) | rfl
      · try dsimp only
        exact (slots_put (ns := 53) (hsa.size.trans rfl) (by decide))
      · exact Below.refl _ _
    | 3, ho =>
      obtain rfl := Option.some.inj ho
      try dsimp only at hd
      have d2 : a'.tmps.getD 35 undef = .pointer (some ⟨b, 2, none⟩) := hd 2 (by rfl)
      have z2x := (hb.cell (p := ⟨b, _, none⟩) hbl).trans z2
      refine wpOp_of rfl rfl ?_
      refine op_run (v := .slice (some ⟨b1, 0, none⟩) 7 7) (w' := w') ?_ ⟨_, rfl, ?_, ?_⟩
      · simp only [execOp, Act.eval, List.map_toArray, List.map_cons, List.map_nil, d2, z2x]; first | (go_simp; done) | rfl
      · try dsimp only
        exact (slots_put (ns := 53) (hsa.size.trans rfl) (by decide))
      · exact Below.refl _ _
    | 4, ho =>
      obtain rfl := Option.some.inj ho
      try dsimp only at hd
      have g3 : a'.tmps.getD 3 undef = .pointer (some ⟨d, 0, none⟩) := hsa.rest 3 (by rfl)
      refine wpOp_of rfl rfl ?_
      refine op_run (v := .pointer (some ⟨d, 0, none⟩)) (w' := w') ?_ ⟨_, rfl, ?_, ?_⟩
      · simp only [execOp, Act.eval, List.map_toArray, List.map_cons, List.map_nil, g3]; first | (go_simp; done) | rfl
      · try dsimp only
        exact (slots_put (ns := 53) (hsa.size.trans rfl) (by decide))
      · exact Below.refl _ _
    | 5, ho =>
      obtain rfl := Option.some.inj ho
      try dsimp only at hd
      have d4 : a'.tmps.getD 37 undef = .pointer (some ⟨d, 0, none⟩) := hd 4 (by rfl)
      have c0x := (hb.cell (p := ⟨d, _, none⟩) hdl).trans c0
      refine wpOp_of rfl rfl ?_
      refine op_run (v := .int .i64 (n : Int)) (w' := w') ?_ ⟨_, rfl, ?_, ?_⟩
      · simp only [execOp, Act.eval, List.map_toArray, List.map_cons, List.map_nil, d4, c0x]; first | (go_simp; done) | rfl
      · try dsimp only
        exact (slots_put (ns := 53) (hsa.size.trans rfl) (by decide))
      · exact Below.refl _ _
    | 6, ho =>
      obtain rfl := Option.some.inj ho
      try dsimp only at hd
      have g3 : a'.tmps.getD 3 undef = .pointer (some ⟨d, 0, none⟩) := hsa.rest 3 (by rfl)
      refine wpOp_of rfl rfl ?_
      refine op_run (v := .pointer (some ⟨d, 1, none⟩)) (w' := w') ?_ ⟨_, rfl, ?_, ?_⟩
      · simp only [execOp, Act.eval, List.map_toArray, List.map_cons, List.map_nil, g3]; first | (go_simp; done) | rfl
      · try dsimp only
        exact (slots_put (ns := 53) (hsa.size.trans rfl) (by decide))
      · exact Below.refl _ _
    | 7, ho =>
      obtain rfl := Option.some.inj ho
      try dsimp only at hd
      have d6 : a'.tmps.getD 39 undef = .pointer (some ⟨d, 1, none⟩) := hd 6 (by rfl)
      have c1x := (hb.cell (p := ⟨d, _, none⟩) hdl).trans c1
      refine wpOp_of rfl rfl ?_
      refine op_run (v := .int .i64 x1) (w' := w') ?_ ⟨_, rfl, ?_, ?_⟩
      · simp only [execOp, Act.eval, List.map_toArray, List.map_cons, List.map_nil, d6, c1x]; first | (go_simp; done) | rfl
      · try dsimp only
        exact (slots_put (ns := 53) (hsa.size.trans rfl) (by decide))
      · exact Below.refl _ _
    | 8, ho =>
      obtain rfl := Option.some.inj ho
      try dsimp only at hd
      have d3 : a'.tmps.getD 36 undef = .slice (some ⟨b1, 0, none⟩) 7 7 := hd 3 (by rfl)
      have d5 : a'.tmps.getD 38 undef = .int .i64 (n : Int) := hd 5 (by rfl)
      refine wpOp_of rfl rfl ?_
      refine op_run (v := .pointer (some ⟨b1, n, none⟩)) (w' := w') ?_ ⟨_, rfl, ?_, ?_⟩
      · simp only [execOp, Act.eval, List.map_toArray, List.map_cons, List.map_nil, d3, d5, hi0, hi1]; first | (go_simp; done) | rfl
      · try dsimp only
        exact (slots_put (ns := 53) (hsa.size.trans rfl) (by decide))
      · exact Below.refl _ _
    | 9, ho =>
      obtain rfl := Option.some.inj ho
      try dsimp only at hd
      refine wpOp_of rfl rfl ?_
      refine op_run (v := undef) (w' := w') ?_ ⟨_, rfl, ?_, ?_⟩
      · rfl
      · try dsimp only
        trivial
      · exact Below.refl _ _
    | (n + 10), ho => exact absurd ho (by simp)
  case pdone =>
    intro a' w' hsa hb hd
    have d0 : a'.tmps.getD 33 undef = .pointer (some ⟨b, 0, none⟩) := hd 0 (by decide)
    have d1 : a'.tmps.getD 34 undef = .pointer (some ⟨b, 0, none⟩) := hd 1 (by decide)
    have d2 : a'.tmps.getD 35 undef = .pointer (some ⟨b, 2, none⟩) := hd 2 (by decide)
    have d3 : a'.tmps.getD 36 undef = .slice (some ⟨b1, 0, none⟩) 7 7 := hd 3 (by decide)
    have d4 : a'.tmps.getD 37 undef = .pointer (some ⟨d, 0, none⟩) := hd 4 (by decide)
    have d5 : a'.tmps.getD 38 undef = .int .i64 (n : Int) := hd 5 (by decide)
    have d6 : a'.tmps.getD 39 undef = .pointer (some ⟨d, 1, none⟩) := hd 6 (by decide)
    have d7 : a'.tmps.getD 40 undef = .int .i64 x1 := hd 7 (by decide)
    have d8 : a'.tmps.getD 41 undef = .pointer (some ⟨b1, n, none⟩) := hd 8 (by decide)
    have d9 : True := hd 9 (by decide)
    intro K2 hK2
    have h6 := (hb.block _ (heap_lt hL)).trans hL
    have q0 := box_cell h6 n (Array.getElem?_eq_getElem (by omega))
    have f0 := box_free h6 n
    refine op_skip (w' := w'.setCell ⟨b1, n, none⟩ (.int .i64 x1)) ?_ (hK2 _ _ ?_)
    · simp only [execOp, Act.eval, d8, d7]
      first | (go_simp; done) | (go_simp; rfl)
    exact HQ.out _ _ ⟨hsa.size.trans rfl, hsa.defers, (hsa.rest 0 (by rfl)).trans rfl, (hsa.rest 3 (by rfl)).trans rfl, (hsa.rest 4 (by rfl)).trans rfl, (hsa.rest 5 (by rfl)).trans rfl⟩ hb
set_option maxHeartbeats 8000000 in
set_option maxRecDepth 100000 in
theorem rh_r5 {K : Act → World → Prop} {c : Code} (hc : regOf (Try.f12.body.getD .skip) 5 = some c) (a : Act) {v : Vrh} {wq : World} {b d b1 n : Nat} {x1 : Int} {cs : Array Value} (hF : Frh a v) (h0v : v.v0 = .pointer (some ⟨b, 0, none⟩)) (h3v : v.v3 = .pointer (some ⟨d, 0, none⟩)) (hn : n < 7) (hdl : d < wq.heap.size) (hbl : b < wq.heap.size) (hcs : cs.size = 7) (hL : wq.heap[b1]? = some (.cells cs tInt (0, 0))) (c0 : wq.cell? ⟨d, 0, none⟩ = some (.int .i64 (n : Int))) (z2 : wq.cell? ⟨b, 3, none⟩ = some (.slice (some ⟨b1, 0, none⟩) 7 7)) (z4 : wq.cell? ⟨b, 4, none⟩ = some (.int .i64 x1))
    (hQ : ∀ a' w', Frh a' v → Below wq.heap.size wq w' → K a' (w'.setCell ⟨b1, n, none⟩ (.int .i64 x1))) :
    Code.wp Try.prog c (Exit.then K fun _ _ _ => False) a wq := by
  have HQ := hide hQ
  clear hQ
  obtain ⟨t', d'⟩ := a
  obtain ⟨v0, v3, v4, v5⟩ := v
  simp only at h0v h3v HQ
  subst h0v h3v
  obtain ⟨hs1, hd1, q0, q3, q4, q5⟩ := hF
  obtain ⟨u, hu⟩ := frame_rh t' hs1
  simp only at hd1 q0 q3 q4 q5
  subst hu hd1
  have e0 : u 0 = .pointer (some ⟨b, 0, none⟩) := q0
  have e3 : u 3 = .pointer (some ⟨d, 0, none⟩) := q3
  have e4 : u 4 = v4 := q4
  have e5 : u 5 = v5 := q5
  rw [e0, e3, e4, e5]
  clear q0 e0 q3 e3 q4 e4 q5 e5 hs1
  simp only [Try.f12, Option.getD_some, regOf] at hc
  injection hc with hc
  subst hc
  generalize u 1 = u1
  generalize u 2 = u2
  generalize u 6 = u6
  generalize u 7 = u7
  generalize u 8 = u8
  generalize u 9 = u9
  generalize u 10 = u10
  generalize u 11 = u11
  generalize u 12 = u12
  generalize u 13 = u13
  generalize u 14 = u14
  generalize u 15 = u15
  generalize u 16 = u16
  generalize u 17 = u17
  generalize u 18 = u18
  generalize u 19 = u19
  generalize u 20 = u20
  generalize u 21 = u21
  generalize u 22 = u22
  generalize u 23 = u23
  generalize u 24 = u24
  generalize u 25 = u25
  generalize u 26 = u26
  generalize u 27 = u27
  generalize u 28 = u28
  generalize u 29 = u29
  generalize u 30 = u30
  generalize u 31 = u31
  generalize u 32 = u32
  generalize u 33 = u33
  generalize u 34 = u34
  generalize u 35 = u35
  generalize u 36 = u36
  generalize u 37 = u37
  generalize u 38 = u38
  generalize u 39 = u39
  generalize u 40 = u40
  generalize u 41 = u41
  generalize u 42 = u42
  generalize u 43 = u43
  generalize u 44 = u44
  generalize u 45 = u45
  generalize u 46 = u46
  generalize u 47 = u47
  generalize u 48 = u48
  generalize u 49 = u49
  generalize u 50 = u50
  generalize u 51 = u51
  generalize u 52 = u52
  clear u
  have hi0 : (0 : Int) ≤ (n : Int) := by omega
  have hi1 : (n : Int) < 7 := by omega
  refine wp_region_last 11 rfl (by kernel_rfl) rfl rfl (by kernel_rfl) ?_
  intro ops' hops'
  simp only [idle, List.setIfInBounds_toArray, List.set_cons_succ, List.set_cons_zero] at hops'
  subst hops'
  refine wpAny_phi (ns := 53) (uses := (fun i => match i with | 0 => [42] | 1 => [43] | 2 => [44] | 3 => [45] | 4 => [46] | 5 => [47] | 6 => [48] | 7 => [49] | 8 => [50] | 9 => [51] | 10 => [52] | 11 => [] | _ => [])) (by kernel_rfl) (by kernel_rfl) (fun _ w w' => Below w.heap.size w w') (fun w => Below wq.heap.size wq w) (fun _ _ _ h r => h.trans (r.mono h.size)) ((Below.refl _ _).drew) (fun i => match i with | 0 => fun s w => s 42 = .pointer (some ⟨b, 0, none⟩) | 1 => fun s w => s 43 = .pointer (some ⟨b, 0, none⟩) | 2 => fun s w => s 44 = .pointer (some ⟨b, 3, none⟩) | 3 => fun s w => s 45 = .slice (some ⟨b1, 0, none⟩) 7 7 | 4 => fun s w => s 46 = .pointer (some ⟨d, 0, none⟩) | 5 => fun s w => s 47 = .int .i64 (n : Int) | 6 => fun s w => s 48 = .pointer (some ⟨b, 0, none⟩) | 7 => fun s w => s 49 = .pointer (some ⟨b, 0, none⟩) | 8 => fun s w => s 50 = .pointer (some ⟨b, 4, none⟩) | 9 => fun s w => s 51 = .int .i64 x1 | 10 => fun s w => s 52 = .pointer (some ⟨b1, n, none⟩) | 11 => fun s w => True | _ => fun _ _ => True) ?phc ?phh ?pstep ?pdone
  case phc =>
    intro i s s' w hx h
    match i, hx, h with
    | 0, hx, h =>
      have e42 := hx 42 (by simp)
      first | exact (show _ from by simp only [← e42] at *; exact h) | (simp only [e42] at h; exact h)
    | 1, hx, h =>
      have e43 := hx 43 (by simp)
      first | exact (show _ from by simp only [← e43] at *; exact h) | (simp only [e43] at h; exact h)
    | 2, hx, h =>
      have e44 := hx 44 (by simp)
      first | exact (show _ from by simp only [← e44] at *; exact h) | (simp only [e44] at h; exact h)
    | 3, hx, h =>
      have e45 := hx 45 (by simp)
      first | exact (show _ from by simp only [← e45] at *; exact h) | (simp only [e45] at h; exact h)
    | 4, hx, h =>
      have e46 := hx 46 (by simp)
      first | exact (show _ from by simp only [← e46] at *; exact h) | (simp only [e46] at h; exact h)
    | 5, hx, h =>
      have e47 := hx 47 (by simp)
      first | exact (show _ from by simp only [← e47] at *; exact h) | (simp only [e47] at h; exact h)
    | 6, hx, h =>
      have e48 := hx 48 (by simp)
      first | exact (show _ from by simp only [← e48] at *; exact h) | (simp only [e48] at h; exact h)
    | 7, hx, h =>
      have e49 := hx 49 (by simp)
      first | exact (show _ from by simp only [← e49] at *; exact h) | (simp only [e49] at h; exact h)
    | 8, hx, h =>
      have e50 := hx 50 (by simp)
      first | exact (show _ from by simp only [← e50] at *; exact h) | (simp only [e50] at h; exact h)
    | 9, hx, h =>
      have e51 := hx 51 (by simp)
      first | exact (show _ from by simp only [← e51] at *; exact h) | (simp only [e51] at h; exact h)
    | 10, hx, h =>
      have e52 := hx 52 (by simp)
      first | exact (show _ from by simp only [← e52] at *; exact h) | (simp only [e52] at h; exact h)
    | 11, hx, h =>
      exact h
    | (n + 12), _, h => exact h
  case phh =>
    intro i j s w w' hij h hb r
    match i, hij, h with
    | 0, hij, h =>
      exact h
    | 1, hij, h =>
      exact h
    | 2, hij, h =>
      exact h
    | 3, hij, h =>
      exact h
    | 4, hij, h =>
      exact h
    | 5, hij, h =>
      exact h
    | 6, hij, h =>
      exact h
    | 7, hij, h =>
      exact h
    | 8, hij, h =>
      exact h
    | 9, hij, h =>
      exact h
    | 10, hij, h =>
      exact h
    | 11, hij, h =>
      exact h
    | (n + 12), _, h => exact h
  case pstep =>
    intro i o ho a' w' hsa hb hd
    match i, ho with
    | 0, ho =>
      obtain rfl := Option.some.inj ho
      try dsimp only at hd
      have g0 : a'.tmps.getD 0 undef = .pointer (some ⟨b, 0, none⟩) := hsa.rest 0 (by rfl)
      refine wpOp_of rfl rfl ?_
      refine op_run (v := .pointer (some ⟨b, 0, none⟩)) (w' := w') ?_ ⟨_, rfl, ?_, ?_⟩
      · simp only [execOp, Act.eval, List.map_toArray, List.map_cons, List.map_nil, g0]; first | (go_simp; done) | rfl
      · try dsimp only
        exact (slots_put (ns := 53) (hsa.size.trans rfl) (by decide))
      · exact Below.refl _ _
    | 1, ho =>
      obtain rfl := Option.some.inj ho
      try dsimp only at hd
      have d0 : a'.tmps.getD 42 undef = .pointer (some ⟨b, 0, none⟩) := hd 0 (by rfl)
      refine wpOp_of rfl rfl ?_
      refine op_run (v := .pointer (some ⟨b, 0, none⟩)) (w' := w') ?_ ⟨_, rfl, ?_, ?_⟩
      · simp only [execOp, Act.eval, List.map_toArray, List.map_cons, List.map_nil, d0]; first | (go_simp; done) | rfl
      · try dsimp only
        exact (slots_put (ns := 53) (hsa.size.trans rfl) (by decide))
      · exact Below.refl _ _
    | 2, ho =>
      obtain rfl := Option.some.inj ho
      try dsimp only at hd
      have d1 : a'.tmps.getD 43 undef = .pointer (some ⟨b, 0, none⟩) := hd 1 (by rfl)
      refine wpOp_of rfl rfl ?_
      refine op_run (v := .pointer (some ⟨b, 3, none⟩)) (w' := w') ?_ ⟨_, rfl, ?_, ?_⟩
      · simp only [execOp, Act.eval, List.map_toArray, List.map_cons, List.map_nil, d1]; first | (go_simp; done) | rfl
      · try dsimp only
        exact (slots_put (ns := 53) (hsa.size.trans rfl) (by decide))
      · exact Below.refl _ _
    | 3, ho =>
      obtain rfl := Option.some.inj ho
      try dsimp only at hd
      have d2 : a'.tmps.getD 44 undef = .pointer (some ⟨b, 3, none⟩) := hd 2 (by rfl)
      have z2x := (hb.cell (p := ⟨b, _, none⟩) hbl).trans z2
      refine wpOp_of rfl rfl ?_
      refine op_run (v := .slice (some ⟨b1, 0, none⟩) 7 7) (w' := w') ?_ ⟨_, rfl, ?_, ?_⟩
      · simp only [execOp, Act.eval, List.map_toArray, List.map_cons, List.map_nil, d2, z2x]; first | (go_simp; done) | rfl
      · try dsimp only
        exact (slots_put (ns := 53) (hsa.size.trans rfl) (by decide))
      · exact Below.refl _ _
    | 4, ho =>
      obtain rfl := Option.some.inj ho
      try dsimp only at hd
      have g3 : a'.tmps.getD 3 undef = .pointer (some ⟨d, 0, none⟩) := hsa.rest 3 (by rfl)
      refine wpOp_of rfl rfl ?_
      refine op_run (v := .pointer (some ⟨d, 0, none⟩)) (w' := w') ?_ ⟨_, rfl, ?_, ?_⟩
      · simp only [execOp, Act.eval, List.map_toArray, List.map_cons, List.map_nil, g3]; first | (go_simp; done) | rfl
      · try dsimp only
        exact (slots_put (ns := 53) (hsa.size.trans rfl) (by decide))
      · exact Below.refl _ _
    | 5, ho =>
      obtain rfl := Option.some.inj ho
      try dsimp only at hd
      have d4 : a'.tmps.getD 46 undef = .pointer (some ⟨d, 0, none⟩) := hd 4 (by rfl)
      have c0x := (hb.cell (p := ⟨d, _, none⟩) hdl).trans c0
      refine wpOp_of rfl rfl ?_
      refine op_run (v := .int .i64 (n : Int)) (w' := w') ?_ ⟨_, rfl, ?_, ?_⟩
      · simp only [execOp, Act.eval, List.map_toArray, List.map_cons, List.map_nil, d4, c0x]; first | (go_simp; done) | rfl
      · try dsimp only
        exact (slots_put (ns := 53) (hsa.size.trans rfl) (by decide))
      · exact Below.refl _ _
    | 6, ho =>
      obtain rfl := Option.some.inj ho
      try dsimp only at hd
      have g0 : a'.tmps.getD 0 undef = .pointer (some ⟨b, 0, none⟩) := hsa.rest 0 (by rfl)
      refine wpOp_of rfl rfl ?_
      refine op_run (v := .pointer (some ⟨b, 0, none⟩)) (w' := w') ?_ ⟨_, rfl, ?_, ?_⟩
      · simp only [execOp, Act.eval, List.map_toArray, List.map_cons, List.map_nil, g0]; first | (go_simp; done) | rfl
      · try dsimp only
        exact (slots_put (ns := 53) (hsa.size.trans rfl) (by decide))
      · exact Below.refl _ _
    | 7, ho =>
      obtain rfl := Option.some.inj ho
      try dsimp only at hd
      have d6 : a'.tmps.getD 48 undef = .pointer (some ⟨b, 0, none⟩) := hd 6 (by rfl)
      refine wpOp_of rfl rfl ?_
      refine op_run (v := .pointer (some ⟨b, 0, none⟩)) (w' := w') ?_ ⟨_, rfl, ?_, ?_⟩
      · simp only [execOp, Act.eval, List.map_toArray, List.map_cons, List.map_nil, d6]; first | (go_simp; done) | rfl
      · try dsimp only
        exact (slots_put (ns := 53) (hsa.size.trans rfl) (by decide))
      · exact Below.refl _ _
    | 8, ho =>
      obtain rfl := Option.some.inj ho
      try dsimp only at hd
      have d7 : a'.tmps.getD 49 undef = .pointer (some ⟨b, 0, none⟩) := hd 7 (by rfl)
      refine wpOp_of rfl rfl ?_
      refine op_run (v := .pointer (some ⟨b, 4, none⟩)) (w' := w') ?_ ⟨_, rfl, ?_, ?_⟩
      · simp only [execOp, Act.eval, List.map_toArray, List.map_cons, List.map_nil, d7]; first | (go_simp; done) | rfl
      · try dsimp only
        exact (slots_put (ns := 53) (hsa.size.trans rfl) (by decide))
      · exact Below.refl _ _
    | 9, ho =>
      obtain rfl := Option.some.inj ho
      try dsimp only at hd
      have d8 : a'.tmps.getD 50 undef = .pointer (some ⟨b, 4, none⟩) := hd 8 (by rfl)
      have z4x := (hb.cell (p := ⟨b, _, none⟩) hbl).trans z4
      refine wpOp_of rfl rfl ?_
      refine op_run (v := .int .i64 x1) (w' := w') ?_ ⟨_, rfl, ?_, ?_⟩
      · simp only [execOp, Act.eval, List.map_toArray, List.map_cons, List.map_nil, d8, z4x]; first | (go_simp; done) | rfl
      · try dsimp only
        exact (slots_put (ns := 53) (hsa.size.trans rfl) (by decide))
      · exact Below.refl _ _
    | 10, ho =>
      obtain rfl := Option.some.inj ho
      try dsimp only at hd
      have d3 : a'.tmps.getD 45 undef = .slice (some ⟨b1, 0, none⟩) 7 7 := hd 3 (by rfl)
      have d5 : a'.tmps.getD 47 undef = .int .i64 (n : Int) := hd 5 (by rfl)
      refine wpOp_of rfl rfl ?_
      refine op_run (v := .pointer (some ⟨b1, n, none⟩)) (w' := w') ?_ ⟨_, rfl, ?_, ?_⟩
      · simp only [execOp, Act.eval, List.map_toArray, List.map_cons, List.map_nil, d3, d5, hi0, hi1]; first | (go_simp; done) | rfl
      · try dsimp only
        exact (slots_put (ns := 53) (hsa.size.trans rfl) (by decide))
      · exact Below.refl _ _
    | 11, ho =>
      obtain rfl := Option.some.inj ho
      try dsimp only at hd
      refine wpOp_of rfl rfl ?_
      refine op_run (v := undef) (w' := w') ?_ ⟨_, rfl, ?_, ?_⟩
      · rfl
      · try dsimp only
        trivial
      · exact Below.refl _ _
    | (n + 12), ho => exact absurd ho (by simp)
  case pdone =>
    intro a' w' hsa hb hd
    have d0 : a'.tmps.getD 42 undef = .pointer (some ⟨b, 0, none⟩) := hd 0 (by decide)
    have d1 : a'.tmps.getD 43 undef = .pointer (some ⟨b, 0, none⟩) := hd 1 (by decide)
    have d2 : a'.tmps.getD 44 undef = .pointer (some ⟨b, 3, none⟩) := hd 2 (by decide)
    have d3 : a'.tmps.getD 45 undef = .slice (some ⟨b1, 0, none⟩) 7 7 := hd 3 (by decide)
    have d4 : a'.tmps.getD 46 undef = .pointer (some ⟨d, 0, none⟩) := hd 4 (by decide)
    have d5 : a'.tmps.getD 47 undef = .int .i64 (n : Int) := hd 5 (by decide)
    have d6 : a'.tmps.getD 48 undef = .pointer (some ⟨b, 0, none⟩) := hd 6 (by decide)
    have d7 : a'.tmps.getD 49 undef = .pointer (some ⟨b, 0, none⟩) := hd 7 (by decide)
    have d8 : a'.tmps.getD 50 undef = .pointer (some ⟨b, 4, none⟩) := hd 8 (by decide)
    have d9 : a'.tmps.getD 51 undef = .int .i64 x1 := hd 9 (by decide)
    have d10 : a'.tmps.getD 52 undef = .pointer (some ⟨b1, n, none⟩) := hd 10 (by decide)
    have d11 : True := hd 11 (by decide)
    intro K2 hK2
    have h6 := (hb.block _ (heap_lt hL)).trans hL
    have q0 := box_cell h6 n (Array.getElem?_eq_getElem (by omega))
    have f0 := box_free h6 n
    refine op_skip (w' := w'.setCell ⟨b1, n, none⟩ (.int .i64 x1)) ?_ (hK2 _ _ ?_)
    · simp only [execOp, Act.eval, d10, d9]
      first | (go_simp; done) | (go_simp; rfl)
    exact HQ.out _ _ ⟨hsa.size.trans rfl, hsa.defers, (hsa.rest 0 (by rfl)).trans rfl, (hsa.rest 3 (by rfl)).trans rfl, (hsa.rest 4 (by rfl)).trans rfl, (hsa.rest 5 (by rfl)).trans rfl⟩ hb
theorem tab_size (f : Nat → Int) : (tab f).size = 7 := by simp [tab]
theorem rh_ret {w W : World} {a : Act} {v : Vrh} {r : Bool} {R : World → Prop} (hF : Frh a v) (h4 : v.v4 = .bool r) (hB : R W) :
    bodyPost Try.prog Try.f12 (fun e w' => e = .returned (.bool r) ∧ R w') .ret a W := by
  have g4 := slot_get (hF.s4.trans h4)
  refine bodyPost_ret (v := .bool r) ?_ hF.defers ⟨rfl, hB⟩
  simp [results, Try.results12, go_sem, g4]
set_option maxHeartbeats 4000000 in
set_option maxRecDepth 100000 in
theorem rheard {w : World} {b b1 b2 : Nat} {S : SU} (h : RAt w b b1 b2 S) (m : MB) : Calls Try.prog 12 #[.pointer (some ⟨b, 0, none⟩), m.v] w fun e w' => e = .returned (.bool (S.hears m)) ∧ RAt w' b b1 b2 (S.heard m) ∧ Touch (rOwn b b1 b2) w w' := by
  have H := hide h
  have X0 := hide (heap_alloc_new w (.cells #[.int .i64 m.node, .int .i64 m.life] tMember))
  have HB := hide ((Below.refl w.heap.size w).alloc (Nat.le_refl _) (.cells #[.int .i64 m.node, .int .i64 m.life] tMember))
  clear h
  simp only [MB.v]
  go_enter Try.func12, Try.ntmps12
  go_upto_region 1 with fail
  rename_i Ko hKo
  generalize w.alloc (.cells #[.int .i64 m.node, .int .i64 m.life] tMember) = w1 at *
  refine reg_mono (rh_r1 (by kernel_rfl) _ (v := ⟨_, _, _, _⟩) ⟨rfl, rfl, rfl, rfl, rfl, rfl⟩ rfl X0.out ?_)
  intro a2 w2 F2 b2'
  refine hKo _ _ ?_
  have D2 := (b2'.block _ (heap_lt X0.out)).trans X0.out
  have B2 := HB.out.trans (b2'.mono HB.out.size)
  have R2 := H.out.below B2
  have c0 := box_cell D2 0 rfl
  have c1 := box_cell D2 1 rfl
  have no : ∀ {a : Act} {v : Vrh} {W : World}, S.hears m = false → Frh a v → v.v4 = .bool false → Below w.heap.size w W → bodyPost Try.prog Try.f12 (fun e w' => e = .returned (.bool (S.hears m)) ∧ RAt w' b b1 b2 (S.heard m) ∧ Touch (rOwn b b1 b2) w w') .ret a W := by
    intro a v W hh hF h4 hB
    rw [SU.heard_no hh, hh]
    exact rh_ret (R := fun w' => RAt w' b b1 b2 S ∧ Touch (rOwn b b1 b2) w w') (w := w) hF h4 ⟨H.out.below hB, Touch.of_below hB⟩
  by_cases hm : m.right
  case neg =>
    rw [decide_eq_false hm] at F2
    refine wp_seq (wp_seq (reg_mono (rh_r2n (by kernel_rfl) _ F2 rfl ?_)))
    intro a3 w3 F3 h32 b3
    refine wp_cond_true h32 (wp_seq (reg_mono (rh_r3 (by kernel_rfl) _ F3 ?_)))
    intro a4 F4
    exact wp_ret (no (decide_eq_false fun e => hm e.1) F4 rfl (B2.trans (b3.mono B2.size)))
  rw [decide_eq_true hm] at F2
  obtain ⟨n, hn'⟩ : ∃ n : Nat, m.node = (n : Int) := ⟨m.node.toNat, by have := hm.1; omega⟩
  have hn7 : n < 7 := by have := hm.2.1; omega
  have hto : m.node.toNat = n := by omega
  refine wp_seq (wp_seq (reg_mono (rh_r2 (by kernel_rfl) _ F2 rfl rfl rfl hn7 (by rw [← hn']; exact c0) c1 R2.c0 R2.c2 (R2.t1 hn7) ?_)))
  intro a3 w3 F3 h32 b3
  have B3 := B2.trans (b3.mono B2.size)
  have D3 := (b3.block _ (heap_lt D2)).trans D2
  have R3 := R2.below b3
  have hS : S.hears m = !((n : Int) == S.self.node || decide (m.life < S.life n)) := by
    unfold SU.hears
    rw [hto, hn', Bool.eq_iff_iff]
    simp only [decide_eq_true_eq, Bool.not_eq_true', Bool.or_eq_false_iff, beq_eq_false_iff_ne, decide_eq_false_iff_not]
    constructor
    · rintro ⟨_, p1, p2⟩
      exact ⟨p1, by omega⟩
    · rintro ⟨p1, p2⟩
      exact ⟨hm, p1, by omega⟩
  cases hv : ((n : Int) == S.self.node || decide (m.life < S.life n)) with
  | true =>
    rw [hv] at h32 hS
    refine wp_cond_true h32 (wp_seq (reg_mono (rh_r3 (by kernel_rfl) _ F3 ?_)))
    intro a4 F4
    exact wp_ret (no hS F4 rfl B3)
  | false =>
    rw [hv] at h32 hS
    refine wp_cond_false h32 (wp_skip ?_)
    show Code.wp _ _ _ _ _
    have e0 := box_cell D3 0 rfl
    have e1 := box_cell D3 1 rfl
    refine wp_seq (reg_mono (rh_r4 (by kernel_rfl) _ F3 rfl rfl hn7 (heap_lt D3) (heap_lt R3.box) (tab_size _) R3.lives (by rw [← hn']; exact e0) R3.c2 e1 ?_))
    intro a4 w4 F4 b4
    have B4 := B3.trans (b4.mono B3.size)
    have R4 := R3.below b4
    have D4 := (b4.block _ (heap_lt D3)).trans D3
    have hdb : w.heap.size ≠ b1 := fun e => by have := heap_lt H.out.lives; omega
    have D5 : (w4.setCell ⟨b1, n, none⟩ (.int .i64 m.life)).heap[w.heap.size]? = _ := box_apart D4 hdb n (.int .i64 m.life)
    have X5 := box_apart R4.box R4.ne1 n (.int .i64 m.life)
    have L5 := box_set R4.lives n (.int .i64 m.life)
    have A5 := box_apart R4.ats R4.ne.symm n (.int .i64 m.life)
    rw [tab_set _ hn7] at L5
    have T5 : Touch (rOwn b b1 b2) w (w4.setCell ⟨b1, n, none⟩ (.int .i64 m.life)) := (Touch.of_below B4).setCell _ _ fun _ => .inr (.inl rfl)
    generalize w4.setCell ⟨b1, n, none⟩ (.int .i64 m.life) = w5 at *
    refine wp_seq (reg_mono (rh_r5 (b1 := b2) (by kernel_rfl) _ F4 rfl rfl hn7 (heap_lt D5) (heap_lt X5) (tab_size _) A5 (by rw [← hn']; exact box_cell D5 0 rfl) (box_cell X5 3 rfl) (box_cell X5 4 rfl) ?_))
    intro a6 w6 F6 b6
    refine wp_seq (reg_mono (rh_r6 (by kernel_rfl) _ F6 ?_))
    intro a7 F7
    have hh : S.hears m = true := hS
    have hq : S.heard m = { S with life := fun x => if x = n then m.life else S.life x, age := fun x => if x = n then 0 else S.age x } := by
      unfold SU.heard
      rw [if_pos hh, hto]
    refine wp_ret (show bodyPost Try.prog Try.f12 (fun e w' => e = .returned (.bool (S.hears m)) ∧ RAt w' b b1 b2 (S.heard m) ∧ Touch (rOwn b b1 b2) w w') .ret _ _ from ?_)
    rw [hh, hq]
    refine rh_ret (R := fun w' => RAt w' b b1 b2 _ ∧ Touch (rOwn b b1 b2) w w') (w := w) F7 rfl ⟨⟨?_, ?_, ?_, R4.ne, ?_⟩, ?_⟩
    · rw [box_apart ((b6.block _ (heap_lt X5)).trans X5) R4.ne2]
      rfl
    · rw [box_apart ((b6.block _ (heap_lt L5)).trans L5) R4.ne]
    · rw [box_set ((b6.block _ (heap_lt A5)).trans A5), tab_set _ hn7]
      congr 2
      apply tab_congr
      intro k
      simp only
      split
      · simp
      · rfl
    · intro k
      simp only
      split
      · exact Nat.zero_le _
      · exact R4.age k
    · exact (T5.below b6).setCell _ _ fun _ => .inr (.inr rfl)
end Go.Proofs.Ytafjngmdandgmaa
