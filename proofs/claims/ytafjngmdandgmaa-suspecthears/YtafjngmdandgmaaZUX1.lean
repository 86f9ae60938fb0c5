/-
  The laws' examples: their regions (mkux.py).
-/
import Derived.Test.YtafjngmdandgmaaZUO2
namespace Go.Proofs.Ytafjngmdandgmaa
open Go.RowKit

attribute [local go_sem ↓] Go.wp_at_zero Go.wp_at_succ
set_option linter.unusedSimpArgs false
set_option linter.unusedVariables false
set_option maxHeartbeats 1000000 in
theorem xm (x y : Int) (w : World) : Calls Try.prog 17 #[.int .i64 x, .int .i64 y] w fun e w' => e = .returned (.agg #[.int .i64 x, .int .i64 y]) ∧ Below w.heap.size w w' := by
  go_enter Try.func17, Try.ntmps17
  go_wp2
  have G := heap_alloc_new w (.cells #[.int .i64 x, .int .i64 y] tMember)
  have g0 := box_cell G 0 rfl
  have g1 := box_cell G 1 rfl
  refine bodyPost_ret (v := .agg #[.int .i64 x, .int .i64 y]) ?_ rfl ⟨rfl, (Below.refl _ w).alloc (Nat.le_refl _) _⟩
  simp [results, Try.results17, go_sem, g0, g1]
set_option maxRecDepth 100000 in
theorem frame_ux (t : Array Value) (h : t.size = 79) : ∃ u : Nat → Value, t = List.toArray (u 0 :: u 1 :: u 2 :: u 3 :: u 4 :: u 5 :: u 6 :: u 7 :: u 8 :: u 9 :: u 10 :: u 11 :: u 12 :: u 13 :: u 14 :: u 15 :: u 16 :: u 17 :: u 18 :: u 19 :: u 20 :: u 21 :: u 22 :: u 23 :: u 24 :: u 25 :: u 26 :: u 27 :: u 28 :: u 29 :: u 30 :: u 31 :: u 32 :: u 33 :: u 34 :: u 35 :: u 36 :: u 37 :: u 38 :: u 39 :: u 40 :: u 41 :: u 42 :: u 43 :: u 44 :: u 45 :: u 46 :: u 47 :: u 48 :: u 49 :: u 50 :: u 51 :: u 52 :: u 53 :: u 54 :: u 55 :: u 56 :: u 57 :: u 58 :: u 59 :: u 60 :: u 61 :: u 62 :: u 63 :: u 64 :: u 65 :: u 66 :: u 67 :: u 68 :: u 69 :: u 70 :: u 71 :: u 72 :: u 73 :: u 74 :: u 75 :: u 76 :: u 77 :: u 78 :: []) := by
  refine ⟨fun i => t.getD i undef, ?_⟩
  have e : (List.toArray ((fun i => t.getD i undef) 0 :: (fun i => t.getD i undef) 1 :: (fun i => t.getD i undef) 2 :: (fun i => t.getD i undef) 3 :: (fun i => t.getD i undef) 4 :: (fun i => t.getD i undef) 5 :: (fun i => t.getD i undef) 6 :: (fun i => t.getD i undef) 7 :: (fun i => t.getD i undef) 8 :: (fun i => t.getD i undef) 9 :: (fun i => t.getD i undef) 10 :: (fun i => t.getD i undef) 11 :: (fun i => t.getD i undef) 12 :: (fun i => t.getD i undef) 13 :: (fun i => t.getD i undef) 14 :: (fun i => t.getD i undef) 15 :: (fun i => t.getD i undef) 16 :: (fun i => t.getD i undef) 17 :: (fun i => t.getD i undef) 18 :: (fun i => t.getD i undef) 19 :: (fun i => t.getD i undef) 20 :: (fun i => t.getD i undef) 21 :: (fun i => t.getD i undef) 22 :: (fun i => t.getD i undef) 23 :: (fun i => t.getD i undef) 24 :: (fun i => t.getD i undef) 25 :: (fun i => t.getD i undef) 26 :: (fun i => t.getD i undef) 27 :: (fun i => t.getD i undef) 28 :: (fun i => t.getD i undef) 29 :: (fun i => t.getD i undef) 30 :: (fun i => t.getD i undef) 31 :: (fun i => t.getD i undef) 32 :: (fun i => t.getD i undef) 33 :: (fun i => t.getD i undef) 34 :: (fun i => t.getD i undef) 35 :: (fun i => t.getD i undef) 36 :: (fun i => t.getD i undef) 37 :: (fun i => t.getD i undef) 38 :: (fun i => t.getD i undef) 39 :: (fun i => t.getD i undef) 40 :: (fun i => t.getD i undef) 41 :: (fun i => t.getD i undef) 42 :: (fun i => t.getD i undef) 43 :: (fun i => t.getD i undef) 44 :: (fun i => t.getD i undef) 45 :: (fun i => t.getD i undef) 46 :: (fun i => t.getD i undef) 47 :: (fun i => t.getD i undef) 48 :: (fun i => t.getD i undef) 49 :: (fun i => t.getD i undef) 50 :: (fun i => t.getD i undef) 51 :: (fun i => t.getD i undef) 52 :: (fun i => t.getD i undef) 53 :: (fun i => t.getD i undef) 54 :: (fun i => t.getD i undef) 55 :: (fun i => t.getD i undef) 56 :: (fun i => t.getD i undef) 57 :: (fun i => t.getD i undef) 58 :: (fun i => t.getD i undef) 59 :: (fun i => t.getD i undef) 60 :: (fun i => t.getD i undef) 61 :: (fun i => t.getD i undef) 62 :: (fun i => t.getD i undef) 63 :: (fun i => t.getD i undef) 64 :: (fun i => t.getD i undef) 65 :: (fun i => t.getD i undef) 66 :: (fun i => t.getD i undef) 67 :: (fun i => t.getD i undef) 68 :: (fun i => t.getD i undef) 69 :: (fun i => t.getD i undef) 70 :: (fun i => t.getD i undef) 71 :: (fun i => t.getD i undef) 72 :: (fun i => t.getD i undef) 73 :: (fun i => t.getD i undef) 74 :: (fun i => t.getD i undef) 75 :: (fun i => t.getD i undef) 76 :: (fun i => t.getD i undef) 77 :: (fun i => t.getD i undef) 78 :: []) : Array Value) = ((List.range 79).map fun i => t.getD i undef).toArray := rfl
  refine Eq.trans ?_ e.symm
  apply Array.ext
  · simp [h]
  · intro k h1 h2
    simp [Array.getD, h1]
/-- The slots that matter. -/
structure Vux where
  v0 : Value
  v1 : Value
  v2 : Value
  v4 : Value
  v5 : Value
  v6 : Value
  v7 : Value
  v8 : Value
structure Fux (a : Act) (v : Vux) : Prop where
  size : a.tmps.size = 79
  defers : a.defers = []
  s0 : a.tmps.getD 0 undef = v.v0
  s1 : a.tmps.getD 1 undef = v.v1
  s2 : a.tmps.getD 2 undef = v.v2
  s4 : a.tmps.getD 4 undef = v.v4
  s5 : a.tmps.getD 5 undef = v.v5
  s6 : a.tmps.getD 6 undef = v.v6
  s7 : a.tmps.getD 7 undef = v.v7
  s8 : a.tmps.getD 8 undef = v.v8
set_option maxHeartbeats 8000000 in
set_option maxRecDepth 100000 in
theorem ux_r1 {K : Act → World → Prop} {c : Code} (hc : regOf (Try.f6.body.getD .skip) 1 = some c) (a : Act) {v : Vux} {wq : World} {R : Value → Int → World → Prop} (hF : Fux a v) (hE : ∀ W, Below wq.heap.size wq W → Calls Try.prog 7 #[.agg #[.int .i64 0, .int .i64 1]] W fun e w' => ∃ p z, e = .returned (.tuple #[p, .int .i64 z]) ∧ R p z w')
    (hQ : ∀ a' w' p z, Fux a' { v with v1 := p, v2 := .int .i64 z } → R p z w' → K a' w') :
    Code.wp Try.prog c (Exit.then K fun _ _ _ => False) a wq := by
  have HQ := hide hQ
  clear hQ
  obtain ⟨t', d'⟩ := a
  obtain ⟨v0, v1, v2, v4, v5, v6, v7, v8⟩ := v
  obtain ⟨hs1, hd1, q0, q1, q2, q4, q5, q6, q7, q8⟩ := hF
  obtain ⟨u, hu⟩ := frame_ux t' hs1
  simp only at hd1 q0 q1 q2 q4 q5 q6 q7 q8
  subst hu hd1
  have e0 : u 0 = v0 := q0
  have e1 : u 1 = v1 := q1
  have e2 : u 2 = v2 := q2
  have e4 : u 4 = v4 := q4
  have e5 : u 5 = v5 := q5
  have e6 : u 6 = v6 := q6
  have e7 : u 7 = v7 := q7
  have e8 : u 8 = v8 := q8
  rw [e0, e1, e2, e4, e5, e6, e7, e8]
  clear q0 e0 q1 e1 q2 e2 q4 e4 q5 e5 q6 e6 q7 e7 q8 e8 hs1
  simp only [Try.f6, Option.getD_some, regOf] at hc
  injection hc with hc
  subst hc
  generalize u 3 = u3
  generalize u 9 = u9
  generalize u 10 = u10
  generalize u 11 = u11
  generalize u 12 = u12
  generalize u 13 = u13
  generalize u 14 = u14
  generalize u 15 = u15
  generalize u 16 = u16
  generalize u 17 = u17
  generalize u 18 = u18
  generalize u 19 = u19
  generalize u 20 = u20
  generalize u 21 = u21
  generalize u 22 = u22
  generalize u 23 = u23
  generalize u 24 = u24
  generalize u 25 = u25
  generalize u 26 = u26
  generalize u 27 = u27
  generalize u 28 = u28
  generalize u 29 = u29
  generalize u 30 = u30
  generalize u 31 = u31
  generalize u 32 = u32
  generalize u 33 = u33
  generalize u 34 = u34
  generalize u 35 = u35
  generalize u 36 = u36
  generalize u 37 = u37
  generalize u 38 = u38
  generalize u 39 = u39
  generalize u 40 = u40
  generalize u 41 = u41
  generalize u 42 = u42
  generalize u 43 = u43
  generalize u 44 = u44
  generalize u 45 = u45
  generalize u 46 = u46
  generalize u 47 = u47
  generalize u 48 = u48
  generalize u 49 = u49
  generalize u 50 = u50
  generalize u 51 = u51
  generalize u 52 = u52
  generalize u 53 = u53
  generalize u 54 = u54
  generalize u 55 = u55
  generalize u 56 = u56
  generalize u 57 = u57
  generalize u 58 = u58
  generalize u 59 = u59
  generalize u 60 = u60
  generalize u 61 = u61
  generalize u 62 = u62
  generalize u 63 = u63
  generalize u 64 = u64
  generalize u 65 = u65
  generalize u 66 = u66
  generalize u 67 = u67
  generalize u 68 = u68
  generalize u 69 = u69
  generalize u 70 = u70
  generalize u 71 = u71
  generalize u 72 = u72
  generalize u 73 = u73
  generalize u 74 = u74
  generalize u 75 = u75
  generalize u 76 = u76
  generalize u 77 = u77
  generalize u 78 = u78
  clear u
  have HE := hide hE
  clear hE
  go_wp2_with fail
  refine (xm 0 1 _).mono ?_
  rintro e wm ⟨rfl, bm⟩
  go_wp2_with fail
  refine (HE.out wm bm).mono ?_
  rintro e w1 ⟨p, z, rfl, r1⟩
  have R1 := hide r1
  clear r1 HE bm
  go_wp2
  exact HQ.out _ _ p z ⟨rfl, rfl, rfl, rfl, rfl, rfl, rfl, rfl, rfl, rfl⟩ R1.out
set_option maxHeartbeats 8000000 in
set_option maxRecDepth 100000 in
theorem ux_r2 {K : Act → World → Prop} {c : Code} (hc : regOf (Try.f6.body.getD .skip) 2 = some c) (a : Act) {v : Vux} {wq : World} {R : Value → Int → World → Prop} (hF : Fux a v) (hE : ∀ W, Below wq.heap.size wq W → Calls Try.prog 7 #[.agg #[.int .i64 0, .int .i64 0]] W fun e w' => ∃ p z, e = .returned (.tuple #[p, .int .i64 z]) ∧ R p z w')
    (hQ : ∀ a' w' p z, Fux a' { v with v4 := .int .i64 z } → R p z w' → K a' w') :
    Code.wp Try.prog c (Exit.then K fun _ _ _ => False) a wq := by
  have HQ := hide hQ
  clear hQ
  obtain ⟨t', d'⟩ := a
  obtain ⟨v0, v1, v2, v4, v5, v6, v7, v8⟩ := v
  obtain ⟨hs1, hd1, q0, q1, q2, q4, q5, q6, q7, q8⟩ := hF
  obtain ⟨u, hu⟩ := frame_ux t' hs1
  simp only at hd1 q0 q1 q2 q4 q5 q6 q7 q8
  subst hu hd1
  have e0 : u 0 = v0 := q0
  have e1 : u 1 = v1 := q1
  have e2 : u 2 = v2 := q2
  have e4 : u 4 = v4 := q4
  have e5 : u 5 = v5 := q5
  have e6 : u 6 = v6 := q6
  have e7 : u 7 = v7 := q7
  have e8 : u 8 = v8 := q8
  rw [e0, e1, e2, e4, e5, e6, e7, e8]
  clear q0 e0 q1 e1 q2 e2 q4 e4 q5 e5 q6 e6 q7 e7 q8 e8 hs1
  simp only [Try.f6, Option.getD_some, regOf] at hc
  injection hc with hc
  subst hc
  generalize u 3 = u3
  generalize u 9 = u9
  generalize u 10 = u10
  generalize u 11 = u11
  generalize u 12 = u12
  generalize u 13 = u13
  generalize u 14 = u14
  generalize u 15 = u15
  generalize u 16 = u16
  generalize u 17 = u17
  generalize u 18 = u18
  generalize u 19 = u19
  generalize u 20 = u20
  generalize u 21 = u21
  generalize u 22 = u22
  generalize u 23 = u23
  generalize u 24 = u24
  generalize u 25 = u25
  generalize u 26 = u26
  generalize u 27 = u27
  generalize u 28 = u28
  generalize u 29 = u29
  generalize u 30 = u30
  generalize u 31 = u31
  generalize u 32 = u32
  generalize u 33 = u33
  generalize u 34 = u34
  generalize u 35 = u35
  generalize u 36 = u36
  generalize u 37 = u37
  generalize u 38 = u38
  generalize u 39 = u39
  generalize u 40 = u40
  generalize u 41 = u41
  generalize u 42 = u42
  generalize u 43 = u43
  generalize u 44 = u44
  generalize u 45 = u45
  generalize u 46 = u46
  generalize u 47 = u47
  generalize u 48 = u48
  generalize u 49 = u49
  generalize u 50 = u50
  generalize u 51 = u51
  generalize u 52 = u52
  generalize u 53 = u53
  generalize u 54 = u54
  generalize u 55 = u55
  generalize u 56 = u56
  generalize u 57 = u57
  generalize u 58 = u58
  generalize u 59 = u59
  generalize u 60 = u60
  generalize u 61 = u61
  generalize u 62 = u62
  generalize u 63 = u63
  generalize u 64 = u64
  generalize u 65 = u65
  generalize u 66 = u66
  generalize u 67 = u67
  generalize u 68 = u68
  generalize u 69 = u69
  generalize u 70 = u70
  generalize u 71 = u71
  generalize u 72 = u72
  generalize u 73 = u73
  generalize u 74 = u74
  generalize u 75 = u75
  generalize u 76 = u76
  generalize u 77 = u77
  generalize u 78 = u78
  clear u
  have HE := hide hE
  clear hE
  go_wp2_with fail
  refine (xm 0 0 _).mono ?_
  rintro e wm ⟨rfl, bm⟩
  go_wp2_with fail
  refine (HE.out wm bm).mono ?_
  rintro e w1 ⟨p, z, rfl, r1⟩
  have R1 := hide r1
  clear r1 HE bm
  go_wp2
  exact HQ.out _ _ p z ⟨rfl, rfl, rfl, rfl, rfl, rfl, rfl, rfl, rfl, rfl⟩ R1.out
set_option maxHeartbeats 8000000 in
set_option maxRecDepth 100000 in
theorem ux_r3 {K : Act → World → Prop} {c : Code} (hc : regOf (Try.f6.body.getD .skip) 3 = some c) (a : Act) {v : Vux} {wq : World} {ad : Addr} (hF : Fux a v) (h1v : v.v1 = .pointer (some ad)) (h2v : v.v2 = .int .i64 0) (h4v : v.v4 = .int .i64 1) (hQ : ∀ a', Fux a' v → a'.tmps.getD 28 undef = .bool false → K a' wq) :
    Code.wp Try.prog c (Exit.then K fun _ _ _ => False) a wq := by
  have HQ := hide hQ
  clear hQ
  obtain ⟨t', d'⟩ := a
  obtain ⟨v0, v1, v2, v4, v5, v6, v7, v8⟩ := v
  simp only at h1v h2v h4v HQ
  subst h1v h2v h4v
  obtain ⟨hs1, hd1, q0, q1, q2, q4, q5, q6, q7, q8⟩ := hF
  obtain ⟨u, hu⟩ := frame_ux t' hs1
  simp only at hd1 q0 q1 q2 q4 q5 q6 q7 q8
  subst hu hd1
  have e0 : u 0 = v0 := q0
  have e1 : u 1 = .pointer (some ad) := q1
  have e2 : u 2 = .int .i64 0 := q2
  have e4 : u 4 = .int .i64 1 := q4
  have e5 : u 5 = v5 := q5
  have e6 : u 6 = v6 := q6
  have e7 : u 7 = v7 := q7
  have e8 : u 8 = v8 := q8
  rw [e0, e1, e2, e4, e5, e6, e7, e8]
  clear q0 e0 q1 e1 q2 e2 q4 e4 q5 e5 q6 e6 q7 e7 q8 e8 hs1
  simp only [Try.f6, Option.getD_some, regOf] at hc
  injection hc with hc
  subst hc
  generalize u 3 = u3
  generalize u 9 = u9
  generalize u 10 = u10
  generalize u 11 = u11
  generalize u 12 = u12
  generalize u 13 = u13
  generalize u 14 = u14
  generalize u 15 = u15
  generalize u 16 = u16
  generalize u 17 = u17
  generalize u 18 = u18
  generalize u 19 = u19
  generalize u 20 = u20
  generalize u 21 = u21
  generalize u 22 = u22
  generalize u 23 = u23
  generalize u 24 = u24
  generalize u 25 = u25
  generalize u 26 = u26
  generalize u 27 = u27
  generalize u 28 = u28
  generalize u 29 = u29
  generalize u 30 = u30
  generalize u 31 = u31
  generalize u 32 = u32
  generalize u 33 = u33
  generalize u 34 = u34
  generalize u 35 = u35
  generalize u 36 = u36
  generalize u 37 = u37
  generalize u 38 = u38
  generalize u 39 = u39
  generalize u 40 = u40
  generalize u 41 = u41
  generalize u 42 = u42
  generalize u 43 = u43
  generalize u 44 = u44
  generalize u 45 = u45
  generalize u 46 = u46
  generalize u 47 = u47
  generalize u 48 = u48
  generalize u 49 = u49
  generalize u 50 = u50
  generalize u 51 = u51
  generalize u 52 = u52
  generalize u 53 = u53
  generalize u 54 = u54
  generalize u 55 = u55
  generalize u 56 = u56
  generalize u 57 = u57
  generalize u 58 = u58
  generalize u 59 = u59
  generalize u 60 = u60
  generalize u 61 = u61
  generalize u 62 = u62
  generalize u 63 = u63
  generalize u 64 = u64
  generalize u 65 = u65
  generalize u 66 = u66
  generalize u 67 = u67
  generalize u 68 = u68
  generalize u 69 = u69
  generalize u 70 = u70
  generalize u 71 = u71
  generalize u 72 = u72
  generalize u 73 = u73
  generalize u 74 = u74
  generalize u 75 = u75
  generalize u 76 = u76
  generalize u 77 = u77
  generalize u 78 = u78
  clear u
  go_wp2
  exact HQ.out _ ⟨rfl, rfl, rfl, rfl, rfl, rfl, rfl, rfl, rfl, rfl⟩ (by first | rfl | (simp; done))
set_option maxHeartbeats 8000000 in
set_option maxRecDepth 100000 in
theorem ux_r5 {K : Act → World → Prop} {c : Code} (hc : regOf (Try.f6.body.getD .skip) 5 = some c) (a : Act) {v : Vux} {wq : World} {ad : Addr} {R1 R2 : World → Prop} (hF : Fux a v) (h1v : v.v1 = .pointer (some ad)) (hE : ∀ W, Below wq.heap.size wq W → Calls Try.prog 11 #[.pointer (some ad), .agg #[.int .i64 1, .int .i64 2]] W fun e w' => e = .returned (.bool true) ∧ R1 w') (hE2 : ∀ W W', R1 W → Below W.heap.size W W' → Calls Try.prog 11 #[.pointer (some ad), .agg #[.int .i64 1, .int .i64 1]] W' fun e w' => e = .returned (.bool false) ∧ R2 w')
    (hQ : ∀ a' w', Fux a' { v with v5 := .bool true } → R2 w' → K a' w') :
    Code.wp Try.prog c (Exit.then K fun _ _ _ => False) a wq := by
  have HQ := hide hQ
  clear hQ
  obtain ⟨t', d'⟩ := a
  obtain ⟨v0, v1, v2, v4, v5, v6, v7, v8⟩ := v
  simp only at h1v HQ
  subst h1v
  obtain ⟨hs1, hd1, q0, q1, q2, q4, q5, q6, q7, q8⟩ := hF
  obtain ⟨u, hu⟩ := frame_ux t' hs1
  simp only at hd1 q0 q1 q2 q4 q5 q6 q7 q8
  subst hu hd1
  have e0 : u 0 = v0 := q0
  have e1 : u 1 = .pointer (some ad) := q1
  have e2 : u 2 = v2 := q2
  have e4 : u 4 = v4 := q4
  have e5 : u 5 = v5 := q5
  have e6 : u 6 = v6 := q6
  have e7 : u 7 = v7 := q7
  have e8 : u 8 = v8 := q8
  rw [e0, e1, e2, e4, e5, e6, e7, e8]
  clear q0 e0 q1 e1 q2 e2 q4 e4 q5 e5 q6 e6 q7 e7 q8 e8 hs1
  simp only [Try.f6, Option.getD_some, regOf] at hc
  injection hc with hc
  subst hc
  generalize u 3 = u3
  generalize u 9 = u9
  generalize u 10 = u10
  generalize u 11 = u11
  generalize u 12 = u12
  generalize u 13 = u13
  generalize u 14 = u14
  generalize u 15 = u15
  generalize u 16 = u16
  generalize u 17 = u17
  generalize u 18 = u18
  generalize u 19 = u19
  generalize u 20 = u20
  generalize u 21 = u21
  generalize u 22 = u22
  generalize u 23 = u23
  generalize u 24 = u24
  generalize u 25 = u25
  generalize u 26 = u26
  generalize u 27 = u27
  generalize u 28 = u28
  generalize u 29 = u29
  generalize u 30 = u30
  generalize u 31 = u31
  generalize u 32 = u32
  generalize u 33 = u33
  generalize u 34 = u34
  generalize u 35 = u35
  generalize u 36 = u36
  generalize u 37 = u37
  generalize u 38 = u38
  generalize u 39 = u39
  generalize u 40 = u40
  generalize u 41 = u41
  generalize u 42 = u42
  generalize u 43 = u43
  generalize u 44 = u44
  generalize u 45 = u45
  generalize u 46 = u46
  generalize u 47 = u47
  generalize u 48 = u48
  generalize u 49 = u49
  generalize u 50 = u50
  generalize u 51 = u51
  generalize u 52 = u52
  generalize u 53 = u53
  generalize u 54 = u54
  generalize u 55 = u55
  generalize u 56 = u56
  generalize u 57 = u57
  generalize u 58 = u58
  generalize u 59 = u59
  generalize u 60 = u60
  generalize u 61 = u61
  generalize u 62 = u62
  generalize u 63 = u63
  generalize u 64 = u64
  generalize u 65 = u65
  generalize u 66 = u66
  generalize u 67 = u67
  generalize u 68 = u68
  generalize u 69 = u69
  generalize u 70 = u70
  generalize u 71 = u71
  generalize u 72 = u72
  generalize u 73 = u73
  generalize u 74 = u74
  generalize u 75 = u75
  generalize u 76 = u76
  generalize u 77 = u77
  generalize u 78 = u78
  clear u
  have HE := hide hE
  have HE2 := hide hE2
  clear hE hE2
  go_wp2_with fail
  refine (xm 1 2 _).mono ?_
  rintro e wm ⟨rfl, bm⟩
  go_wp2_with fail
  refine (HE.out wm bm).mono ?_
  rintro e w1 ⟨rfl, r1⟩
  have Q1 := hide r1
  clear r1 HE bm
  go_wp2_with fail
  refine (xm 1 1 _).mono ?_
  rintro e wm ⟨rfl, bm⟩
  go_wp2_with fail
  refine (HE2.out w1 _ Q1.out bm).mono ?_
  rintro e w2 ⟨rfl, r2⟩
  have Q2 := hide r2
  clear r2 HE2 bm Q1
  go_wp2
  exact HQ.out _ _ ⟨rfl, rfl, rfl, rfl, rfl, rfl, (by first | rfl | (simp; done)), rfl, rfl, rfl⟩ Q2.out
set_option maxHeartbeats 8000000 in
set_option maxRecDepth 100000 in
theorem ux_r6 {K : Act → World → Prop} {c : Code} (hc : regOf (Try.f6.body.getD .skip) 6 = some c) (a : Act) {v : Vux} {wq : World} {ad : Addr} {n : Nat} {R : Option Addr → World → Prop} (hF : Fux a v) (h1v : v.v1 = .pointer (some ad)) (hE : Calls Try.prog 13 #[.pointer (some ad)] wq fun e w' => ∃ ro rc, e = .returned (.slice ro n rc) ∧ R ro w')
    (hQ : ∀ a' w' ro rc, Fux a' { v with v6 := .slice ro n rc } → R ro w' → K a' w') :
    Code.wp Try.prog c (Exit.then K fun _ _ _ => False) a wq := by
  have HQ := hide hQ
  clear hQ
  obtain ⟨t', d'⟩ := a
  obtain ⟨v0, v1, v2, v4, v5, v6, v7, v8⟩ := v
  simp only at h1v HQ
  subst h1v
  obtain ⟨hs1, hd1, q0, q1, q2, q4, q5, q6, q7, q8⟩ := hF
  obtain ⟨u, hu⟩ := frame_ux t' hs1
  simp only at hd1 q0 q1 q2 q4 q5 q6 q7 q8
  subst hu hd1
  have e0 : u 0 = v0 := q0
  have e1 : u 1 = .pointer (some ad) := q1
  have e2 : u 2 = v2 := q2
  have e4 : u 4 = v4 := q4
  have e5 : u 5 = v5 := q5
  have e6 : u 6 = v6 := q6
  have e7 : u 7 = v7 := q7
  have e8 : u 8 = v8 := q8
  rw [e0, e1, e2, e4, e5, e6, e7, e8]
  clear q0 e0 q1 e1 q2 e2 q4 e4 q5 e5 q6 e6 q7 e7 q8 e8 hs1
  simp only [Try.f6, Option.getD_some, regOf] at hc
  injection hc with hc
  subst hc
  generalize u 3 = u3
  generalize u 9 = u9
  generalize u 10 = u10
  generalize u 11 = u11
  generalize u 12 = u12
  generalize u 13 = u13
  generalize u 14 = u14
  generalize u 15 = u15
  generalize u 16 = u16
  generalize u 17 = u17
  generalize u 18 = u18
  generalize u 19 = u19
  generalize u 20 = u20
  generalize u 21 = u21
  generalize u 22 = u22
  generalize u 23 = u23
  generalize u 24 = u24
  generalize u 25 = u25
  generalize u 26 = u26
  generalize u 27 = u27
  generalize u 28 = u28
  generalize u 29 = u29
  generalize u 30 = u30
  generalize u 31 = u31
  generalize u 32 = u32
  generalize u 33 = u33
  generalize u 34 = u34
  generalize u 35 = u35
  generalize u 36 = u36
  generalize u 37 = u37
  generalize u 38 = u38
  generalize u 39 = u39
  generalize u 40 = u40
  generalize u 41 = u41
  generalize u 42 = u42
  generalize u 43 = u43
  generalize u 44 = u44
  generalize u 45 = u45
  generalize u 46 = u46
  generalize u 47 = u47
  generalize u 48 = u48
  generalize u 49 = u49
  generalize u 50 = u50
  generalize u 51 = u51
  generalize u 52 = u52
  generalize u 53 = u53
  generalize u 54 = u54
  generalize u 55 = u55
  generalize u 56 = u56
  generalize u 57 = u57
  generalize u 58 = u58
  generalize u 59 = u59
  generalize u 60 = u60
  generalize u 61 = u61
  generalize u 62 = u62
  generalize u 63 = u63
  generalize u 64 = u64
  generalize u 65 = u65
  generalize u 66 = u66
  generalize u 67 = u67
  generalize u 68 = u68
  generalize u 69 = u69
  generalize u 70 = u70
  generalize u 71 = u71
  generalize u 72 = u72
  generalize u 73 = u73
  generalize u 74 = u74
  generalize u 75 = u75
  generalize u 76 = u76
  generalize u 77 = u77
  generalize u 78 = u78
  clear u
  have HE := hide hE
  clear hE
  go_wp2_with fail
  refine HE.out.mono ?_
  rintro e w1 ⟨ro, rc, rfl, r1⟩
  have R1 := hide r1
  clear r1 HE
  go_wp2
  exact HQ.out _ _ ro rc ⟨rfl, rfl, rfl, rfl, rfl, rfl, rfl, rfl, rfl, rfl⟩ R1.out
set_option maxHeartbeats 8000000 in
set_option maxRecDepth 100000 in
theorem ux_r11 {K : Act → World → Prop} {c : Code} (hc : regOf (Try.f6.body.getD .skip) 11 = some c) (a : Act) {v : Vux} {wq : World} {ad : Addr} {n : Nat} {R : Option Addr → World → Prop} (hF : Fux a v) (h1v : v.v1 = .pointer (some ad)) (hE : Calls Try.prog 13 #[.pointer (some ad)] wq fun e w' => ∃ ro rc, e = .returned (.slice ro n rc) ∧ R ro w')
    (hQ : ∀ a' w' ro rc, Fux a' { v with v8 := .slice ro n rc } → R ro w' → K a' w') :
    Code.wp Try.prog c (Exit.then K fun _ _ _ => False) a wq := by
  have HQ := hide hQ
  clear hQ
  obtain ⟨t', d'⟩ := a
  obtain ⟨v0, v1, v2, v4, v5, v6, v7, v8⟩ := v
  simp only at h1v HQ
  subst h1v
  obtain ⟨hs1, hd1, q0, q1, q2, q4, q5, q6, q7, q8⟩ := hF
  obtain ⟨u, hu⟩ := frame_ux t' hs1
  simp only at hd1 q0 q1 q2 q4 q5 q6 q7 q8
  subst hu hd1
  have e0 : u 0 = v0 := q0
  have e1 : u 1 = .pointer (some ad) := q1
  have e2 : u 2 = v2 := q2
  have e4 : u 4 = v4 := q4
  have e5 : u 5 = v5 := q5
  have e6 : u 6 = v6 := q6
  have e7 : u 7 = v7 := q7
  have e8 : u 8 = v8 := q8
  rw [e0, e1, e2, e4, e5, e6, e7, e8]
  clear q0 e0 q1 e1 q2 e2 q4 e4 q5 e5 q6 e6 q7 e7 q8 e8 hs1
  simp only [Try.f6, Option.getD_some, regOf] at hc
  injection hc with hc
  subst hc
  generalize u 3 = u3
  generalize u 9 = u9
  generalize u 10 = u10
  generalize u 11 = u11
  generalize u 12 = u12
  generalize u 13 = u13
  generalize u 14 = u14
  generalize u 15 = u15
  generalize u 16 = u16
  generalize u 17 = u17
  generalize u 18 = u18
  generalize u 19 = u19
  generalize u 20 = u20
  generalize u 21 = u21
  generalize u 22 = u22
  generalize u 23 = u23
  generalize u 24 = u24
  generalize u 25 = u25
  generalize u 26 = u26
  generalize u 27 = u27
  generalize u 28 = u28
  generalize u 29 = u29
  generalize u 30 = u30
  generalize u 31 = u31
  generalize u 32 = u32
  generalize u 33 = u33
  generalize u 34 = u34
  generalize u 35 = u35
  generalize u 36 = u36
  generalize u 37 = u37
  generalize u 38 = u38
  generalize u 39 = u39
  generalize u 40 = u40
  generalize u 41 = u41
  generalize u 42 = u42
  generalize u 43 = u43
  generalize u 44 = u44
  generalize u 45 = u45
  generalize u 46 = u46
  generalize u 47 = u47
  generalize u 48 = u48
  generalize u 49 = u49
  generalize u 50 = u50
  generalize u 51 = u51
  generalize u 52 = u52
  generalize u 53 = u53
  generalize u 54 = u54
  generalize u 55 = u55
  generalize u 56 = u56
  generalize u 57 = u57
  generalize u 58 = u58
  generalize u 59 = u59
  generalize u 60 = u60
  generalize u 61 = u61
  generalize u 62 = u62
  generalize u 63 = u63
  generalize u 64 = u64
  generalize u 65 = u65
  generalize u 66 = u66
  generalize u 67 = u67
  generalize u 68 = u68
  generalize u 69 = u69
  generalize u 70 = u70
  generalize u 71 = u71
  generalize u 72 = u72
  generalize u 73 = u73
  generalize u 74 = u74
  generalize u 75 = u75
  generalize u 76 = u76
  generalize u 77 = u77
  generalize u 78 = u78
  clear u
  have HE := hide hE
  clear hE
  go_wp2_with fail
  refine HE.out.mono ?_
  rintro e w1 ⟨ro, rc, rfl, r1⟩
  have R1 := hide r1
  clear r1 HE
  go_wp2
  exact HQ.out _ _ ro rc ⟨rfl, rfl, rfl, rfl, rfl, rfl, rfl, rfl, rfl, rfl⟩ R1.out
set_option maxHeartbeats 8000000 in
set_option maxRecDepth 100000 in
theorem ux_r10 {K : Act → World → Prop} {c : Code} (hc : regOf (Try.f6.body.getD .skip) 10 = some c) (a : Act) {v : Vux} {wq : World} {ad : Addr} {R : World → Prop} (hF : Fux a v) (h1v : v.v1 = .pointer (some ad)) (hE : Calls Try.prog 9 #[.pointer (some ad)] wq fun e w' => (∃ x, e = .returned x) ∧ R w')
    (hQ : ∀ a' w' , Fux a' v → R w' → K a' w') :
    Code.wp Try.prog c (Exit.then K fun _ _ _ => False) a wq := by
  have HQ := hide hQ
  clear hQ
  obtain ⟨t', d'⟩ := a
  obtain ⟨v0, v1, v2, v4, v5, v6, v7, v8⟩ := v
  simp only at h1v HQ
  subst h1v
  obtain ⟨hs1, hd1, q0, q1, q2, q4, q5, q6, q7, q8⟩ := hF
  obtain ⟨u, hu⟩ := frame_ux t' hs1
  simp only at hd1 q0 q1 q2 q4 q5 q6 q7 q8
  subst hu hd1
  have e0 : u 0 = v0 := q0
  have e1 : u 1 = .pointer (some ad) := q1
  have e2 : u 2 = v2 := q2
  have e4 : u 4 = v4 := q4
  have e5 : u 5 = v5 := q5
  have e6 : u 6 = v6 := q6
  have e7 : u 7 = v7 := q7
  have e8 : u 8 = v8 := q8
  rw [e0, e1, e2, e4, e5, e6, e7, e8]
  clear q0 e0 q1 e1 q2 e2 q4 e4 q5 e5 q6 e6 q7 e7 q8 e8 hs1
  simp only [Try.f6, Option.getD_some, regOf] at hc
  injection hc with hc
  subst hc
  generalize u 3 = u3
  generalize u 9 = u9
  generalize u 10 = u10
  generalize u 11 = u11
  generalize u 12 = u12
  generalize u 13 = u13
  generalize u 14 = u14
  generalize u 15 = u15
  generalize u 16 = u16
  generalize u 17 = u17
  generalize u 18 = u18
  generalize u 19 = u19
  generalize u 20 = u20
  generalize u 21 = u21
  generalize u 22 = u22
  generalize u 23 = u23
  generalize u 24 = u24
  generalize u 25 = u25
  generalize u 26 = u26
  generalize u 27 = u27
  generalize u 28 = u28
  generalize u 29 = u29
  generalize u 30 = u30
  generalize u 31 = u31
  generalize u 32 = u32
  generalize u 33 = u33
  generalize u 34 = u34
  generalize u 35 = u35
  generalize u 36 = u36
  generalize u 37 = u37
  generalize u 38 = u38
  generalize u 39 = u39
  generalize u 40 = u40
  generalize u 41 = u41
  generalize u 42 = u42
  generalize u 43 = u43
  generalize u 44 = u44
  generalize u 45 = u45
  generalize u 46 = u46
  generalize u 47 = u47
  generalize u 48 = u48
  generalize u 49 = u49
  generalize u 50 = u50
  generalize u 51 = u51
  generalize u 52 = u52
  generalize u 53 = u53
  generalize u 54 = u54
  generalize u 55 = u55
  generalize u 56 = u56
  generalize u 57 = u57
  generalize u 58 = u58
  generalize u 59 = u59
  generalize u 60 = u60
  generalize u 61 = u61
  generalize u 62 = u62
  generalize u 63 = u63
  generalize u 64 = u64
  generalize u 65 = u65
  generalize u 66 = u66
  generalize u 67 = u67
  generalize u 68 = u68
  generalize u 69 = u69
  generalize u 70 = u70
  generalize u 71 = u71
  generalize u 72 = u72
  generalize u 73 = u73
  generalize u 74 = u74
  generalize u 75 = u75
  generalize u 76 = u76
  generalize u 77 = u77
  generalize u 78 = u78
  clear u
  have HE := hide hE
  clear hE
  go_wp2_with fail
  refine HE.out.mono ?_
  rintro e w1 ⟨⟨x, rfl⟩, r1⟩
  have R1 := hide r1
  clear r1 HE
  go_wp2
  exact HQ.out _ _ ⟨rfl, rfl, rfl, rfl, rfl, rfl, rfl, rfl, rfl, rfl⟩ R1.out
set_option maxHeartbeats 8000000 in
set_option maxRecDepth 100000 in
theorem ux_r7 {K : Act → World → Prop} {c : Code} (hc : regOf (Try.f6.body.getD .skip) 7 = some c) (a : Act) {v : Vux} {wq : World}  (hF : Fux a v) (hQ : ∀ a', Fux a' { v with v7 := .int .i64 ((0 : Nat) : Int) } → K a' wq) :
    Code.wp Try.prog c (Exit.then K fun _ _ _ => False) a wq := by
  have HQ := hide hQ
  clear hQ
  obtain ⟨t', d'⟩ := a
  obtain ⟨v0, v1, v2, v4, v5, v6, v7, v8⟩ := v
  obtain ⟨hs1, hd1, q0, q1, q2, q4, q5, q6, q7, q8⟩ := hF
  obtain ⟨u, hu⟩ := frame_ux t' hs1
  simp only at hd1 q0 q1 q2 q4 q5 q6 q7 q8
  subst hu hd1
  have e0 : u 0 = v0 := q0
  have e1 : u 1 = v1 := q1
  have e2 : u 2 = v2 := q2
  have e4 : u 4 = v4 := q4
  have e5 : u 5 = v5 := q5
  have e6 : u 6 = v6 := q6
  have e7 : u 7 = v7 := q7
  have e8 : u 8 = v8 := q8
  rw [e0, e1, e2, e4, e5, e6, e7, e8]
  clear q0 e0 q1 e1 q2 e2 q4 e4 q5 e5 q6 e6 q7 e7 q8 e8 hs1
  simp only [Try.f6, Option.getD_some, regOf] at hc
  injection hc with hc
  subst hc
  generalize u 3 = u3
  generalize u 9 = u9
  generalize u 10 = u10
  generalize u 11 = u11
  generalize u 12 = u12
  generalize u 13 = u13
  generalize u 14 = u14
  generalize u 15 = u15
  generalize u 16 = u16
  generalize u 17 = u17
  generalize u 18 = u18
  generalize u 19 = u19
  generalize u 20 = u20
  generalize u 21 = u21
  generalize u 22 = u22
  generalize u 23 = u23
  generalize u 24 = u24
  generalize u 25 = u25
  generalize u 26 = u26
  generalize u 27 = u27
  generalize u 28 = u28
  generalize u 29 = u29
  generalize u 30 = u30
  generalize u 31 = u31
  generalize u 32 = u32
  generalize u 33 = u33
  generalize u 34 = u34
  generalize u 35 = u35
  generalize u 36 = u36
  generalize u 37 = u37
  generalize u 38 = u38
  generalize u 39 = u39
  generalize u 40 = u40
  generalize u 41 = u41
  generalize u 42 = u42
  generalize u 43 = u43
  generalize u 44 = u44
  generalize u 45 = u45
  generalize u 46 = u46
  generalize u 47 = u47
  generalize u 48 = u48
  generalize u 49 = u49
  generalize u 50 = u50
  generalize u 51 = u51
  generalize u 52 = u52
  generalize u 53 = u53
  generalize u 54 = u54
  generalize u 55 = u55
  generalize u 56 = u56
  generalize u 57 = u57
  generalize u 58 = u58
  generalize u 59 = u59
  generalize u 60 = u60
  generalize u 61 = u61
  generalize u 62 = u62
  generalize u 63 = u63
  generalize u 64 = u64
  generalize u 65 = u65
  generalize u 66 = u66
  generalize u 67 = u67
  generalize u 68 = u68
  generalize u 69 = u69
  generalize u 70 = u70
  generalize u 71 = u71
  generalize u 72 = u72
  generalize u 73 = u73
  generalize u 74 = u74
  generalize u 75 = u75
  generalize u 76 = u76
  generalize u 77 = u77
  generalize u 78 = u78
  clear u
  go_wp2
  exact HQ.out _ ⟨rfl, rfl, rfl, rfl, rfl, rfl, rfl, rfl, rfl, rfl⟩
set_option maxHeartbeats 8000000 in
set_option maxRecDepth 100000 in
theorem ux_r8 {K : Act → World → Prop} {c : Code} (hc : regOf (Try.f6.body.getD .skip) 8 = some c) (a : Act) {v : Vux} {wq : World} {i : Nat} (hF : Fux a v) (h7v : v.v7 = .int .i64 (i : Int)) (hQ : ∀ a', Fux a' v → a'.tmps.getD 41 undef = .bool (decide (i < 5)) → K a' wq) :
    Code.wp Try.prog c (Exit.then K fun _ _ _ => False) a wq := by
  have HQ := hide hQ
  clear hQ
  obtain ⟨t', d'⟩ := a
  obtain ⟨v0, v1, v2, v4, v5, v6, v7, v8⟩ := v
  simp only at h7v HQ
  subst h7v
  obtain ⟨hs1, hd1, q0, q1, q2, q4, q5, q6, q7, q8⟩ := hF
  obtain ⟨u, hu⟩ := frame_ux t' hs1
  simp only at hd1 q0 q1 q2 q4 q5 q6 q7 q8
  subst hu hd1
  have e0 : u 0 = v0 := q0
  have e1 : u 1 = v1 := q1
  have e2 : u 2 = v2 := q2
  have e4 : u 4 = v4 := q4
  have e5 : u 5 = v5 := q5
  have e6 : u 6 = v6 := q6
  have e7 : u 7 = .int .i64 (i : Int) := q7
  have e8 : u 8 = v8 := q8
  rw [e0, e1, e2, e4, e5, e6, e7, e8]
  clear q0 e0 q1 e1 q2 e2 q4 e4 q5 e5 q6 e6 q7 e7 q8 e8 hs1
  simp only [Try.f6, Option.getD_some, regOf] at hc
  injection hc with hc
  subst hc
  generalize u 3 = u3
  generalize u 9 = u9
  generalize u 10 = u10
  generalize u 11 = u11
  generalize u 12 = u12
  generalize u 13 = u13
  generalize u 14 = u14
  generalize u 15 = u15
  generalize u 16 = u16
  generalize u 17 = u17
  generalize u 18 = u18
  generalize u 19 = u19
  generalize u 20 = u20
  generalize u 21 = u21
  generalize u 22 = u22
  generalize u 23 = u23
  generalize u 24 = u24
  generalize u 25 = u25
  generalize u 26 = u26
  generalize u 27 = u27
  generalize u 28 = u28
  generalize u 29 = u29
  generalize u 30 = u30
  generalize u 31 = u31
  generalize u 32 = u32
  generalize u 33 = u33
  generalize u 34 = u34
  generalize u 35 = u35
  generalize u 36 = u36
  generalize u 37 = u37
  generalize u 38 = u38
  generalize u 39 = u39
  generalize u 40 = u40
  generalize u 41 = u41
  generalize u 42 = u42
  generalize u 43 = u43
  generalize u 44 = u44
  generalize u 45 = u45
  generalize u 46 = u46
  generalize u 47 = u47
  generalize u 48 = u48
  generalize u 49 = u49
  generalize u 50 = u50
  generalize u 51 = u51
  generalize u 52 = u52
  generalize u 53 = u53
  generalize u 54 = u54
  generalize u 55 = u55
  generalize u 56 = u56
  generalize u 57 = u57
  generalize u 58 = u58
  generalize u 59 = u59
  generalize u 60 = u60
  generalize u 61 = u61
  generalize u 62 = u62
  generalize u 63 = u63
  generalize u 64 = u64
  generalize u 65 = u65
  generalize u 66 = u66
  generalize u 67 = u67
  generalize u 68 = u68
  generalize u 69 = u69
  generalize u 70 = u70
  generalize u 71 = u71
  generalize u 72 = u72
  generalize u 73 = u73
  generalize u 74 = u74
  generalize u 75 = u75
  generalize u 76 = u76
  generalize u 77 = u77
  generalize u 78 = u78
  clear u
  by_cases h1 : i < 5
  · rw [decide_eq_true h1] at HQ
    have g : (i : Int) < 5 := by omega
    go_wp2
    exact HQ.out _ ⟨rfl, rfl, rfl, rfl, rfl, rfl, rfl, rfl, rfl, rfl⟩ (by first | rfl | (simp; done) | (simp; omega))
  · rw [decide_eq_false h1] at HQ
    have g : ¬ (i : Int) < 5 := by omega
    go_wp2
    exact HQ.out _ ⟨rfl, rfl, rfl, rfl, rfl, rfl, rfl, rfl, rfl, rfl⟩ (by first | rfl | (simp; done) | (simp; omega))
set_option maxHeartbeats 8000000 in
set_option maxRecDepth 100000 in
theorem ux_r9 {K : Act → World → Prop} {c : Code} (hc : regOf (Try.f6.body.getD .skip) 9 = some c) (a : Act) {v : Vux} {wq : World} {i : Nat} (hF : Fux a v) (h7v : v.v7 = .int .i64 (i : Int)) (hn : i ≤ 4611686018427387904) (hQ : ∀ a', Fux a' { v with v7 := .int .i64 ((i + 1 : Nat) : Int) } → K a' wq) :
    Code.wp Try.prog c (Exit.then K fun _ _ _ => False) a wq := by
  have HQ := hide hQ
  clear hQ
  obtain ⟨t', d'⟩ := a
  obtain ⟨v0, v1, v2, v4, v5, v6, v7, v8⟩ := v
  simp only at h7v HQ
  subst h7v
  obtain ⟨hs1, hd1, q0, q1, q2, q4, q5, q6, q7, q8⟩ := hF
  obtain ⟨u, hu⟩ := frame_ux t' hs1
  simp only at hd1 q0 q1 q2 q4 q5 q6 q7 q8
  subst hu hd1
  have e0 : u 0 = v0 := q0
  have e1 : u 1 = v1 := q1
  have e2 : u 2 = v2 := q2
  have e4 : u 4 = v4 := q4
  have e5 : u 5 = v5 := q5
  have e6 : u 6 = v6 := q6
  have e7 : u 7 = .int .i64 (i : Int) := q7
  have e8 : u 8 = v8 := q8
  rw [e0, e1, e2, e4, e5, e6, e7, e8]
  clear q0 e0 q1 e1 q2 e2 q4 e4 q5 e5 q6 e6 q7 e7 q8 e8 hs1
  simp only [Try.f6, Option.getD_some, regOf] at hc
  injection hc with hc
  subst hc
  generalize u 3 = u3
  generalize u 9 = u9
  generalize u 10 = u10
  generalize u 11 = u11
  generalize u 12 = u12
  generalize u 13 = u13
  generalize u 14 = u14
  generalize u 15 = u15
  generalize u 16 = u16
  generalize u 17 = u17
  generalize u 18 = u18
  generalize u 19 = u19
  generalize u 20 = u20
  generalize u 21 = u21
  generalize u 22 = u22
  generalize u 23 = u23
  generalize u 24 = u24
  generalize u 25 = u25
  generalize u 26 = u26
  generalize u 27 = u27
  generalize u 28 = u28
  generalize u 29 = u29
  generalize u 30 = u30
  generalize u 31 = u31
  generalize u 32 = u32
  generalize u 33 = u33
  generalize u 34 = u34
  generalize u 35 = u35
  generalize u 36 = u36
  generalize u 37 = u37
  generalize u 38 = u38
  generalize u 39 = u39
  generalize u 40 = u40
  generalize u 41 = u41
  generalize u 42 = u42
  generalize u 43 = u43
  generalize u 44 = u44
  generalize u 45 = u45
  generalize u 46 = u46
  generalize u 47 = u47
  generalize u 48 = u48
  generalize u 49 = u49
  generalize u 50 = u50
  generalize u 51 = u51
  generalize u 52 = u52
  generalize u 53 = u53
  generalize u 54 = u54
  generalize u 55 = u55
  generalize u 56 = u56
  generalize u 57 = u57
  generalize u 58 = u58
  generalize u 59 = u59
  generalize u 60 = u60
  generalize u 61 = u61
  generalize u 62 = u62
  generalize u 63 = u63
  generalize u 64 = u64
  generalize u 65 = u65
  generalize u 66 = u66
  generalize u 67 = u67
  generalize u 68 = u68
  generalize u 69 = u69
  generalize u 70 = u70
  generalize u 71 = u71
  generalize u 72 = u72
  generalize u 73 = u73
  generalize u 74 = u74
  generalize u 75 = u75
  generalize u 76 = u76
  generalize u 77 = u77
  generalize u 78 = u78
  clear u
  have hj1 : ((i + 1 : Nat) : Int) = (i : Int) + 1 := by omega
  rw [hj1] at HQ
  clear hj1
  go_wp2
  exact HQ.out _ ⟨rfl, rfl, rfl, rfl, rfl, rfl, rfl, rfl, rfl, rfl⟩
set_option maxHeartbeats 8000000 in
set_option maxRecDepth 100000 in
theorem ux_r12 {K : Act → World → Prop} {c : Code} (hc : regOf (Try.f6.body.getD .skip) 12 = some c) (a : Act) {v : Vux} {wq : World} {b1 o1 c1 b2 o2 c2 : Nat} {ad : Addr} {BW : World → Prop} (hF : Fux a v) (h1v : v.v1 = .pointer (some ad)) (h5v : v.v5 = .bool true) (h6v : v.v6 = .slice (some ⟨b1, o1, none⟩) 2 c1) (h8v : v.v8 = .slice (some ⟨b2, o2, none⟩) 1 c2) (h0 : BW wq.drew) (hC : ∀ W, BW W → W.cell? ⟨b1, o1 + 2, none⟩ = some (.int .i64 1) ∧ W.cell? ⟨b1, o1 + 2 + 1, none⟩ = some (.int .i64 2) ∧ W.cell? ⟨b2, o2, none⟩ = some (.int .i64 0) ∧ W.cell? ⟨b2, o2 + 1, none⟩ = some (.int .i64 1)) (hS : ∀ W W', BW W → Below W.heap.size W W' → BW W') (hE : ∀ W, BW W → Calls Try.prog 11 #[.pointer (some ad), .agg #[.int .i64 1, .int .i64 1]] W fun e w' => e = .returned (.bool false) ∧ BW w')
    (hQ : ∀ a' w', Fux a' { v with v0 := .bool true } → BW w' → K a' w') :
    Code.wp Try.prog c (Exit.then K fun _ _ _ => False) a wq := by
  have HQ := hide hQ
  clear hQ
  obtain ⟨t', d'⟩ := a
  obtain ⟨v0, v1, v2, v4, v5, v6, v7, v8⟩ := v
  simp only at h1v h5v h6v h8v HQ
  subst h1v h5v h6v h8v
  obtain ⟨hs1, hd1, q0, q1, q2, q4, q5, q6, q7, q8⟩ := hF
  obtain ⟨u, hu⟩ := frame_ux t' hs1
  simp only at hd1 q0 q1 q2 q4 q5 q6 q7 q8
  subst hu hd1
  have e0 : u 0 = v0 := q0
  have e1 : u 1 = .pointer (some ad) := q1
  have e2 : u 2 = v2 := q2
  have e4 : u 4 = v4 := q4
  have e5 : u 5 = .bool true := q5
  have e6 : u 6 = .slice (some ⟨b1, o1, none⟩) 2 c1 := q6
  have e7 : u 7 = v7 := q7
  have e8 : u 8 = .slice (some ⟨b2, o2, none⟩) 1 c2 := q8
  rw [e0, e1, e2, e4, e5, e6, e7, e8]
  clear q0 e0 q1 e1 q2 e2 q4 e4 q5 e5 q6 e6 q7 e7 q8 e8 hs1
  simp only [Try.f6, Option.getD_some, regOf] at hc
  injection hc with hc
  subst hc
  generalize u 3 = u3
  generalize u 9 = u9
  generalize u 10 = u10
  generalize u 11 = u11
  generalize u 12 = u12
  generalize u 13 = u13
  generalize u 14 = u14
  generalize u 15 = u15
  generalize u 16 = u16
  generalize u 17 = u17
  generalize u 18 = u18
  generalize u 19 = u19
  generalize u 20 = u20
  generalize u 21 = u21
  generalize u 22 = u22
  generalize u 23 = u23
  generalize u 24 = u24
  generalize u 25 = u25
  generalize u 26 = u26
  generalize u 27 = u27
  generalize u 28 = u28
  generalize u 29 = u29
  generalize u 30 = u30
  generalize u 31 = u31
  generalize u 32 = u32
  generalize u 33 = u33
  generalize u 34 = u34
  generalize u 35 = u35
  generalize u 36 = u36
  generalize u 37 = u37
  generalize u 38 = u38
  generalize u 39 = u39
  generalize u 40 = u40
  generalize u 41 = u41
  generalize u 42 = u42
  generalize u 43 = u43
  generalize u 44 = u44
  generalize u 45 = u45
  generalize u 46 = u46
  generalize u 47 = u47
  generalize u 48 = u48
  generalize u 49 = u49
  generalize u 50 = u50
  generalize u 51 = u51
  generalize u 52 = u52
  generalize u 53 = u53
  generalize u 54 = u54
  generalize u 55 = u55
  generalize u 56 = u56
  generalize u 57 = u57
  generalize u 58 = u58
  generalize u 59 = u59
  generalize u 60 = u60
  generalize u 61 = u61
  generalize u 62 = u62
  generalize u 63 = u63
  generalize u 64 = u64
  generalize u 65 = u65
  generalize u 66 = u66
  generalize u 67 = u67
  generalize u 68 = u68
  generalize u 69 = u69
  generalize u 70 = u70
  generalize u 71 = u71
  generalize u 72 = u72
  generalize u 73 = u73
  generalize u 74 = u74
  generalize u 75 = u75
  generalize u 76 = u76
  generalize u 77 = u77
  generalize u 78 = u78
  clear u
  have HC := hide hC
  have HS := hide hS
  have HE := hide hE
  have H0 := hide h0
  clear hC hS hE h0
  refine wp_region_phi (by kernel_rfl) (ns := 79) (uses := (fun i => match i with | 0 => [48] | 1 => [49] | 2 => [50] | 3 => [51] | 4 => [52] | 5 => [53] | 6 => [54] | 7 => [55] | 8 => [56] | 9 => [57] | 10 => [58] | 11 => [59] | 12 => [60] | 13 => [61] | 14 => [62] | 15 => [63] | 16 => [64] | 17 => [65] | 18 => [66] | 19 => [67] | 20 => [68] | 21 => [69] | 22 => [70] | 23 => [71] | 24 => [72] | 25 => [73] | 26 => [74] | 27 => [75] | 28 => [76] | 29 => [77] | 30 => [78] | 31 => [0] | _ => [])) (by kernel_rfl) (by kernel_rfl) (fun _ w w' => BW w → BW w') (fun w => BW w) (fun _ _ _ h r => r h) (H0.out) (fun i => match i with | 0 => fun s w => s 48 = .bool true | 1 => fun s w => s 49 = .bool true | 2 => fun s w => s 50 = .slice (some ⟨b1, o1, none⟩) 2 c1 | 3 => fun s w => s 51 = .int .i64 2 | 4 => fun s w => s 52 = .bool true | 5 => fun s w => s 53 = .bool true | 6 => fun s w => s 54 = .bool true | 7 => fun s w => s 55 = .slice (some ⟨b1, o1, none⟩) 2 c1 | 8 => fun s w => s 56 = .pointer (some ⟨b1, o1 + 2, none⟩) | 9 => fun s w => s 57 = .agg #[.int .i64 1, .int .i64 2] | 10 => fun s w => s 58 = .agg #[.int .i64 1, .int .i64 2] | 11 => fun s w => s 59 = .bool true | 12 => fun s w => s 60 = .bool true | 13 => fun s w => s 61 = .bool true | 14 => fun s w => s 62 = .slice (some ⟨b2, o2, none⟩) 1 c2 | 15 => fun s w => s 63 = .int .i64 1 | 16 => fun s w => s 64 = .bool true | 17 => fun s w => s 65 = .bool true | 18 => fun s w => s 66 = .bool true | 19 => fun s w => s 67 = .slice (some ⟨b2, o2, none⟩) 1 c2 | 20 => fun s w => s 68 = .pointer (some ⟨b2, o2, none⟩) | 21 => fun s w => s 69 = .agg #[.int .i64 0, .int .i64 1] | 22 => fun s w => s 70 = .agg #[.int .i64 0, .int .i64 1] | 23 => fun s w => s 71 = .bool true | 24 => fun s w => s 72 = .bool true | 25 => fun s w => s 73 = .bool true | 26 => fun s w => s 74 = .pointer (some ad) | 27 => fun s w => s 75 = .agg #[.int .i64 1, .int .i64 1] | 28 => fun s w => s 76 = .bool false | 29 => fun s w => s 77 = .bool true | 30 => fun s w => s 78 = .bool true | 31 => fun s w => s 0 = .bool true | _ => fun _ _ => True) ?phc ?phh ?pstep ?pdone
  case phc =>
    intro i s s' w hx h
    match i, hx, h with
    | 0, hx, h =>
      have e48 := hx 48 (by simp)
      first | exact (show _ from by simp only [← e48] at *; exact h) | (simp only [e48] at h; exact h)
    | 1, hx, h =>
      have e49 := hx 49 (by simp)
      first | exact (show _ from by simp only [← e49] at *; exact h) | (simp only [e49] at h; exact h)
    | 2, hx, h =>
      have e50 := hx 50 (by simp)
      first | exact (show _ from by simp only [← e50] at *; exact h) | (simp only [e50] at h; exact h)
    | 3, hx, h =>
      have e51 := hx 51 (by simp)
      first | exact (show _ from by simp only [← e51] at *; exact h) | (simp only [e51] at h; exact h)
    | 4, hx, h =>
      have e52 := hx 52 (by simp)
      first | exact (show _ from by simp only [← e52] at *; exact h) | (simp only [e52] at h; exact h)
    | 5, hx, h =>
      have e53 := hx 53 (by simp)
      first | exact (show _ from by simp only [← e53] at *; exact h) | (simp only [e53] at h; exact h)
    | 6, hx, h =>
      have e54 := hx 54 (by simp)
      first | exact (show _ from by simp only [← e54] at *; exact h) | (simp only [e54] at h; exact h)
    | 7, hx, h =>
      have e55 := hx 55 (by simp)
      first | exact (show _ from by simp only [← e55] at *; exact h) | (simp only [e55] at h; exact h)
    | 8, hx, h =>
      have e56 := hx 56 (by simp)
      first | exact (show _ from by simp only [← e56] at *; exact h) | (simp only [e56] at h; exact h)
    | 9, hx, h =>
      have e57 := hx 57 (by simp)
      first | exact (show _ from by simp only [← e57] at *; exact h) | (simp only [e57] at h; exact h)
    | 10, hx, h =>
      have e58 := hx 58 (by simp)
      first | exact (show _ from by simp only [← e58] at *; exact h) | (simp only [e58] at h; exact h)
    | 11, hx, h =>
      have e59 := hx 59 (by simp)
      first | exact (show _ from by simp only [← e59] at *; exact h) | (simp only [e59] at h; exact h)
    | 12, hx, h =>
      have e60 := hx 60 (by simp)
      first | exact (show _ from by simp only [← e60] at *; exact h) | (simp only [e60] at h; exact h)
    | 13, hx, h =>
      have e61 := hx 61 (by simp)
      first | exact (show _ from by simp only [← e61] at *; exact h) | (simp only [e61] at h; exact h)
    | 14, hx, h =>
      have e62 := hx 62 (by simp)
      first | exact (show _ from by simp only [← e62] at *; exact h) | (simp only [e62] at h; exact h)
    | 15, hx, h =>
      have e63 := hx 63 (by simp)
      first | exact (show _ from by simp only [← e63] at *; exact h) | (simp only [e63] at h; exact h)
    | 16, hx, h =>
      have e64 := hx 64 (by simp)
      first | exact (show _ from by simp only [← e64] at *; exact h) | (simp only [e64] at h; exact h)
    | 17, hx, h =>
      have e65 := hx 65 (by simp)
      first | exact (show _ from by simp only [← e65] at *; exact h) | (simp only [e65] at h; exact h)
    | 18, hx, h =>
      have e66 := hx 66 (by simp)
      first | exact (show _ from by simp only [← e66] at *; exact h) | (simp only [e66] at h; exact h)
    | 19, hx, h =>
      have e67 := hx 67 (by simp)
      first | exact (show _ from by simp only [← e67] at *; exact h) | (simp only [e67] at h; exact h)
    | 20, hx, h =>
      have e68 := hx 68 (by simp)
      first | exact (show _ from by simp only [← e68] at *; exact h) | (simp only [e68] at h; exact h)
    | 21, hx, h =>
      have e69 := hx 69 (by simp)
      first | exact (show _ from by simp only [← e69] at *; exact h) | (simp only [e69] at h; exact h)
    | 22, hx, h =>
      have e70 := hx 70 (by simp)
      first | exact (show _ from by simp only [← e70] at *; exact h) | (simp only [e70] at h; exact h)
    | 23, hx, h =>
      have e71 := hx 71 (by simp)
      first | exact (show _ from by simp only [← e71] at *; exact h) | (simp only [e71] at h; exact h)
    | 24, hx, h =>
      have e72 := hx 72 (by simp)
      first | exact (show _ from by simp only [← e72] at *; exact h) | (simp only [e72] at h; exact h)
    | 25, hx, h =>
      have e73 := hx 73 (by simp)
      first | exact (show _ from by simp only [← e73] at *; exact h) | (simp only [e73] at h; exact h)
    | 26, hx, h =>
      have e74 := hx 74 (by simp)
      first | exact (show _ from by simp only [← e74] at *; exact h) | (simp only [e74] at h; exact h)
    | 27, hx, h =>
      have e75 := hx 75 (by simp)
      first | exact (show _ from by simp only [← e75] at *; exact h) | (simp only [e75] at h; exact h)
    | 28, hx, h =>
      have e76 := hx 76 (by simp)
      first | exact (show _ from by simp only [← e76] at *; exact h) | (simp only [e76] at h; exact h)
    | 29, hx, h =>
      have e77 := hx 77 (by simp)
      first | exact (show _ from by simp only [← e77] at *; exact h) | (simp only [e77] at h; exact h)
    | 30, hx, h =>
      have e78 := hx 78 (by simp)
      first | exact (show _ from by simp only [← e78] at *; exact h) | (simp only [e78] at h; exact h)
    | 31, hx, h =>
      have e0 := hx 0 (by simp)
      first | exact (show _ from by simp only [← e0] at *; exact h) | (simp only [e0] at h; exact h)
    | (n + 32), _, h => exact h
  case phh =>
    intro i j s w w' hij h hb r
    match i, hij, h with
    | 0, hij, h =>
      exact h
    | 1, hij, h =>
      exact h
    | 2, hij, h =>
      exact h
    | 3, hij, h =>
      exact h
    | 4, hij, h =>
      exact h
    | 5, hij, h =>
      exact h
    | 6, hij, h =>
      exact h
    | 7, hij, h =>
      exact h
    | 8, hij, h =>
      exact h
    | 9, hij, h =>
      exact h
    | 10, hij, h =>
      exact h
    | 11, hij, h =>
      exact h
    | 12, hij, h =>
      exact h
    | 13, hij, h =>
      exact h
    | 14, hij, h =>
      exact h
    | 15, hij, h =>
      exact h
    | 16, hij, h =>
      exact h
    | 17, hij, h =>
      exact h
    | 18, hij, h =>
      exact h
    | 19, hij, h =>
      exact h
    | 20, hij, h =>
      exact h
    | 21, hij, h =>
      exact h
    | 22, hij, h =>
      exact h
    | 23, hij, h =>
      exact h
    | 24, hij, h =>
      exact h
    | 25, hij, h =>
      exact h
    | 26, hij, h =>
      exact h
    | 27, hij, h =>
      exact h
    | 28, hij, h =>
      exact h
    | 29, hij, h =>
      exact h
    | 30, hij, h =>
      exact h
    | 31, hij, h =>
      exact h
    | (n + 32), _, h => exact h
  case pstep =>
    intro i o ho a' w' hsa hb hd
    match i, ho with
    | 0, ho =>
      obtain rfl := Option.some.inj ho
      try dsimp only at hd
      have g5 : a'.tmps.getD 5 undef = .bool true := hsa.rest 5 (by rfl)
      refine wpOp_of rfl rfl ?_
      refine op_run (v := .bool true) (w' := w') ?_ ⟨_, rfl, ?_, ?_⟩
      · simp only [execOp, Act.eval, List.map_toArray, List.map_cons, List.map_nil, g5]; first | (go_simp; done) | rfl
      · try dsimp only
        exact (slots_put (ns := 79) (hsa.size.trans rfl) (by decide))
      · exact fun h => h
    | 1, ho =>
      obtain rfl := Option.some.inj ho
      try dsimp only at hd
      have d0 : a'.tmps.getD 48 undef = .bool true := hd 0 (by rfl)
      refine wpOp_of rfl rfl ?_
      refine op_run (v := .bool true) (w' := w') ?_ ⟨_, rfl, ?_, ?_⟩
      · simp only [execOp, Act.eval, List.map_toArray, List.map_cons, List.map_nil, d0]; first | (go_simp; done) | rfl
      · try dsimp only
        exact (slots_put (ns := 79) (hsa.size.trans rfl) (by decide))
      · exact fun h => h
    | 2, ho =>
      obtain rfl := Option.some.inj ho
      try dsimp only at hd
      have d1 : a'.tmps.getD 49 undef = .bool true := hd 1 (by rfl)
      have g6 : a'.tmps.getD 6 undef = .slice (some ⟨b1, o1, none⟩) 2 c1 := hsa.rest 6 (by rfl)
      refine wpOp_on (j := 1) (dj := 49) rfl rfl rfl d1 ?_
      refine op_run (v := .slice (some ⟨b1, o1, none⟩) 2 c1) (w' := w') ?_ ⟨_, rfl, ?_, ?_⟩
      · simp only [execOp, Act.eval, List.map_toArray, List.map_cons, List.map_nil, d1, g6]; first | (go_simp; done) | rfl
      · try dsimp only
        exact (slots_put (ns := 79) (hsa.size.trans rfl) (by decide))
      · exact fun h => h
    | 3, ho =>
      obtain rfl := Option.some.inj ho
      try dsimp only at hd
      have d1 : a'.tmps.getD 49 undef = .bool true := hd 1 (by rfl)
      have d2 : a'.tmps.getD 50 undef = .slice (some ⟨b1, o1, none⟩) 2 c1 := hd 2 (by rfl)
      refine wpOp_on (j := 1) (dj := 49) rfl rfl rfl d1 ?_
      refine op_run (v := .int .i64 2) (w' := w') ?_ ⟨_, rfl, ?_, ?_⟩
      · simp only [execOp, Act.eval, List.map_toArray, List.map_cons, List.map_nil, d1, d2]; first | (go_simp; done) | rfl
      · try dsimp only
        exact (slots_put (ns := 79) (hsa.size.trans rfl) (by decide))
      · exact fun h => h
    | 4, ho =>
      obtain rfl := Option.some.inj ho
      try dsimp only at hd
      have d1 : a'.tmps.getD 49 undef = .bool true := hd 1 (by rfl)
      have d3 : a'.tmps.getD 51 undef = .int .i64 2 := hd 3 (by rfl)
      refine wpOp_on (j := 1) (dj := 49) rfl rfl rfl d1 ?_
      refine op_run (v := .bool true) (w' := w') ?_ ⟨_, rfl, ?_, ?_⟩
      · simp only [execOp, Act.eval, List.map_toArray, List.map_cons, List.map_nil, d1, d3]; first | (go_simp; done) | rfl
      · try dsimp only
        exact (slots_put (ns := 79) (hsa.size.trans rfl) (by decide))
      · exact fun h => h
    | 5, ho =>
      obtain rfl := Option.some.inj ho
      try dsimp only at hd
      have d1 : a'.tmps.getD 49 undef = .bool true := hd 1 (by rfl)
      have d4 : a'.tmps.getD 52 undef = .bool true := hd 4 (by rfl)
      refine wpOp_of rfl rfl ?_
      refine op_run (v := .bool true) (w' := w') ?_ ⟨_, rfl, ?_, ?_⟩
      · simp only [execOp, Act.eval, List.map_toArray, List.map_cons, List.map_nil, d1, d4]; first | (go_simp; done) | rfl
      · try dsimp only
        exact (slots_put (ns := 79) (hsa.size.trans rfl) (by decide))
      · exact fun h => h
    | 6, ho =>
      obtain rfl := Option.some.inj ho
      try dsimp only at hd
      have d5 : a'.tmps.getD 53 undef = .bool true := hd 5 (by rfl)
      refine wpOp_of rfl rfl ?_
      refine op_run (v := .bool true) (w' := w') ?_ ⟨_, rfl, ?_, ?_⟩
      · simp only [execOp, Act.eval, List.map_toArray, List.map_cons, List.map_nil, d5]; first | (go_simp; done) | rfl
      · try dsimp only
        exact (slots_put (ns := 79) (hsa.size.trans rfl) (by decide))
      · exact fun h => h
    | 7, ho =>
      obtain rfl := Option.some.inj ho
      try dsimp only at hd
      have d6 : a'.tmps.getD 54 undef = .bool true := hd 6 (by rfl)
      have g6 : a'.tmps.getD 6 undef = .slice (some ⟨b1, o1, none⟩) 2 c1 := hsa.rest 6 (by rfl)
      refine wpOp_on (j := 6) (dj := 54) rfl rfl rfl d6 ?_
      refine op_run (v := .slice (some ⟨b1, o1, none⟩) 2 c1) (w' := w') ?_ ⟨_, rfl, ?_, ?_⟩
      · simp only [execOp, Act.eval, List.map_toArray, List.map_cons, List.map_nil, d6, g6]; first | (go_simp; done) | rfl
      · try dsimp only
        exact (slots_put (ns := 79) (hsa.size.trans rfl) (by decide))
      · exact fun h => h
    | 8, ho =>
      obtain rfl := Option.some.inj ho
      try dsimp only at hd
      have d6 : a'.tmps.getD 54 undef = .bool true := hd 6 (by rfl)
      have d7 : a'.tmps.getD 55 undef = .slice (some ⟨b1, o1, none⟩) 2 c1 := hd 7 (by rfl)
      refine wpOp_on (j := 6) (dj := 54) rfl rfl rfl d6 ?_
      refine op_run (v := .pointer (some ⟨b1, o1 + 2, none⟩)) (w' := w') ?_ ⟨_, rfl, ?_, ?_⟩
      · simp only [execOp, Act.eval, List.map_toArray, List.map_cons, List.map_nil, d6, d7]; first | (go_simp; done) | rfl
      · try dsimp only
        exact (slots_put (ns := 79) (hsa.size.trans rfl) (by decide))
      · exact fun h => h
    | 9, ho =>
      obtain rfl := Option.some.inj ho
      try dsimp only at hd
      have d6 : a'.tmps.getD 54 undef = .bool true := hd 6 (by rfl)
      have d8 : a'.tmps.getD 56 undef = .pointer (some ⟨b1, o1 + 2, none⟩) := hd 8 (by rfl)
      obtain ⟨q1, q2, q3, q4⟩ := HC.out w' hb
      refine wpOp_on (j := 6) (dj := 54) rfl rfl rfl d6 ?_
      refine op_run (v := .agg #[.int .i64 1, .int .i64 2]) (w' := w') ?_ ⟨_, rfl, ?_, ?_⟩
      · simp only [execOp, Act.eval, List.map_toArray, List.map_cons, List.map_nil, d6, d8, q1, q2]; first | (go_simp; done) | rfl
      · try dsimp only
        exact (slots_put (ns := 79) (hsa.size.trans rfl) (by decide))
      · exact fun h => h
    | 10, ho =>
      obtain rfl := Option.some.inj ho
      try dsimp only at hd
      have d6 : a'.tmps.getD 54 undef = .bool true := hd 6 (by rfl)
      refine wpOp_on (j := 6) (dj := 54) rfl rfl rfl d6 ?_
      refine op_call 17 _ _ rfl (enters_of Try.func17 (by kernel_rfl) rfl) [.int .i64 1, .int .i64 2] (by simp only [List.map, Act.eval, d6]) (xm 1 2 w') ?_
      rintro e w'' ⟨rfl, b2⟩
      refine ⟨_, rfl, _, rfl, ?_, ?_⟩
      · try dsimp only
        exact (slots_put (ns := 79) (hsa.size.trans rfl) (by decide))
      · exact fun h => HS.out w' w'' h b2
    | 11, ho =>
      obtain rfl := Option.some.inj ho
      try dsimp only at hd
      have d6 : a'.tmps.getD 54 undef = .bool true := hd 6 (by rfl)
      have d9 : a'.tmps.getD 57 undef = .agg #[.int .i64 1, .int .i64 2] := hd 9 (by rfl)
      have d10 : a'.tmps.getD 58 undef = .agg #[.int .i64 1, .int .i64 2] := hd 10 (by rfl)
      refine wpOp_on (j := 6) (dj := 54) rfl rfl rfl d6 ?_
      refine op_run (v := .bool true) (w' := w') ?_ ⟨_, rfl, ?_, ?_⟩
      · simp only [execOp, Act.eval, List.map_toArray, List.map_cons, List.map_nil, d6, d9, d10]; first | (go_simp; done) | rfl
      · try dsimp only
        exact (slots_put (ns := 79) (hsa.size.trans rfl) (by decide))
      · exact fun h => h
    | 12, ho =>
      obtain rfl := Option.some.inj ho
      try dsimp only at hd
      have d6 : a'.tmps.getD 54 undef = .bool true := hd 6 (by rfl)
      have d11 : a'.tmps.getD 59 undef = .bool true := hd 11 (by rfl)
      refine wpOp_of rfl rfl ?_
      refine op_run (v := .bool true) (w' := w') ?_ ⟨_, rfl, ?_, ?_⟩
      · simp only [execOp, Act.eval, List.map_toArray, List.map_cons, List.map_nil, d6, d11]; first | (go_simp; done) | rfl
      · try dsimp only
        exact (slots_put (ns := 79) (hsa.size.trans rfl) (by decide))
      · exact fun h => h
    | 13, ho =>
      obtain rfl := Option.some.inj ho
      try dsimp only at hd
      have d12 : a'.tmps.getD 60 undef = .bool true := hd 12 (by rfl)
      refine wpOp_of rfl rfl ?_
      refine op_run (v := .bool true) (w' := w') ?_ ⟨_, rfl, ?_, ?_⟩
      · simp only [execOp, Act.eval, List.map_toArray, List.map_cons, List.map_nil, d12]; first | (go_simp; done) | rfl
      · try dsimp only
        exact (slots_put (ns := 79) (hsa.size.trans rfl) (by decide))
      · exact fun h => h
    | 14, ho =>
      obtain rfl := Option.some.inj ho
      try dsimp only at hd
      have d13 : a'.tmps.getD 61 undef = .bool true := hd 13 (by rfl)
      have g8 : a'.tmps.getD 8 undef = .slice (some ⟨b2, o2, none⟩) 1 c2 := hsa.rest 8 (by rfl)
      refine wpOp_on (j := 13) (dj := 61) rfl rfl rfl d13 ?_
      refine op_run (v := .slice (some ⟨b2, o2, none⟩) 1 c2) (w' := w') ?_ ⟨_, rfl, ?_, ?_⟩
      · simp only [execOp, Act.eval, List.map_toArray, List.map_cons, List.map_nil, d13, g8]; first | (go_simp; done) | rfl
      · try dsimp only
        exact (slots_put (ns := 79) (hsa.size.trans rfl) (by decide))
      · exact fun h => h
    | 15, ho =>
      obtain rfl := Option.some.inj ho
      try dsimp only at hd
      have d13 : a'.tmps.getD 61 undef = .bool true := hd 13 (by rfl)
      have d14 : a'.tmps.getD 62 undef = .slice (some ⟨b2, o2, none⟩) 1 c2 := hd 14 (by rfl)
      refine wpOp_on (j := 13) (dj := 61) rfl rfl rfl d13 ?_
      refine op_run (v := .int .i64 1) (w' := w') ?_ ⟨_, rfl, ?_, ?_⟩
      · simp only [execOp, Act.eval, List.map_toArray, List.map_cons, List.map_nil, d13, d14]; first | (go_simp; done) | rfl
      · try dsimp only
        exact (slots_put (ns := 79) (hsa.size.trans rfl) (by decide))
      · exact fun h => h
    | 16, ho =>
      obtain rfl := Option.some.inj ho
      try dsimp only at hd
      have d13 : a'.tmps.getD 61 undef = .bool true := hd 13 (by rfl)
      have d15 : a'.tmps.getD 63 undef = .int .i64 1 := hd 15 (by rfl)
      refine wpOp_on (j := 13) (dj := 61) rfl rfl rfl d13 ?_
      refine op_run (v := .bool true) (w' := w') ?_ ⟨_, rfl, ?_, ?_⟩
      · simp only [execOp, Act.eval, List.map_toArray, List.map_cons, List.map_nil, d13, d15]; first | (go_simp; done) | rfl
      · try dsimp only
        exact (slots_put (ns := 79) (hsa.size.trans rfl) (by decide))
      · exact fun h => h
    | 17, ho =>
      obtain rfl := Option.some.inj ho
      try dsimp only at hd
      have d13 : a'.tmps.getD 61 undef = .bool true := hd 13 (by rfl)
      have d16 : a'.tmps.getD 64 undef = .bool true := hd 16 (by rfl)
      refine wpOp_of rfl rfl ?_
      refine op_run (v := .bool true) (w' := w') ?_ ⟨_, rfl, ?_, ?_⟩
      · simp only [execOp, Act.eval, List.map_toArray, List.map_cons, List.map_nil, d13, d16]; first | (go_simp; done) | rfl
      · try dsimp only
        exact (slots_put (ns := 79) (hsa.size.trans rfl) (by decide))
      · exact fun h => h
    | 18, ho =>
      obtain rfl := Option.some.inj ho
      try dsimp only at hd
      have d17 : a'.tmps.getD 65 undef = .bool true := hd 17 (by rfl)
      refine wpOp_of rfl rfl ?_
      refine op_run (v := .bool true) (w' := w') ?_ ⟨_, rfl, ?_, ?_⟩
      · simp only [execOp, Act.eval, List.map_toArray, List.map_cons, List.map_nil, d17]; first | (go_simp; done) | rfl
      · try dsimp only
        exact (slots_put (ns := 79) (hsa.size.trans rfl) (by decide))
      · exact fun h => h
    | 19, ho =>
      obtain rfl := Option.some.inj ho
      try dsimp only at hd
      have d18 : a'.tmps.getD 66 undef = .bool true := hd 18 (by rfl)
      have g8 : a'.tmps.getD 8 undef = .slice (some ⟨b2, o2, none⟩) 1 c2 := hsa.rest 8 (by rfl)
      refine wpOp_on (j := 18) (dj := 66) rfl rfl rfl d18 ?_
      refine op_run (v := .slice (some ⟨b2, o2, none⟩) 1 c2) (w' := w') ?_ ⟨_, rfl, ?_, ?_⟩
      · simp only [execOp, Act.eval, List.map_toArray, List.map_cons, List.map_nil, d18, g8]; first | (go_simp; done) | rfl
      · try dsimp only
        exact (slots_put (ns := 79) (hsa.size.trans rfl) (by decide))
      · exact fun h => h
    | 20, ho =>
      obtain rfl := Option.some.inj ho
      try dsimp only at hd
      have d18 : a'.tmps.getD 66 undef = .bool true := hd 18 (by rfl)
      have d19 : a'.tmps.getD 67 undef = .slice (some ⟨b2, o2, none⟩) 1 c2 := hd 19 (by rfl)
      refine wpOp_on (j := 18) (dj := 66) rfl rfl rfl d18 ?_
      refine op_run (v := .pointer (some ⟨b2, o2, none⟩)) (w' := w') ?_ ⟨_, rfl, ?_, ?_⟩
      · simp only [execOp, Act.eval, List.map_toArray, List.map_cons, List.map_nil, d18, d19]; first | (go_simp; done) | rfl
      · try dsimp only
        exact (slots_put (ns := 79) (hsa.size.trans rfl) (by decide))
      · exact fun h => h
    | 21, ho =>
      obtain rfl := Option.some.inj ho
      try dsimp only at hd
      have d18 : a'.tmps.getD 66 undef = .bool true := hd 18 (by rfl)
      have d20 : a'.tmps.getD 68 undef = .pointer (some ⟨b2, o2, none⟩) := hd 20 (by rfl)
      obtain ⟨q1, q2, q3, q4⟩ := HC.out w' hb
      refine wpOp_on (j := 18) (dj := 66) rfl rfl rfl d18 ?_
      refine op_run (v := .agg #[.int .i64 0, .int .i64 1]) (w' := w') ?_ ⟨_, rfl, ?_, ?_⟩
      · simp only [execOp, Act.eval, List.map_toArray, List.map_cons, List.map_nil, d18, d20, q3, q4]; first | (go_simp; done) | rfl
      · try dsimp only
        exact (slots_put (ns := 79) (hsa.size.trans rfl) (by decide))
      · exact fun h => h
    | 22, ho =>
      obtain rfl := Option.some.inj ho
      try dsimp only at hd
      have d18 : a'.tmps.getD 66 undef = .bool true := hd 18 (by rfl)
      refine wpOp_on (j := 18) (dj := 66) rfl rfl rfl d18 ?_
      refine op_call 17 _ _ rfl (enters_of Try.func17 (by kernel_rfl) rfl) [.int .i64 0, .int .i64 1] (by simp only [List.map, Act.eval, d18]) (xm 0 1 w') ?_
      rintro e w'' ⟨rfl, b2⟩
      refine ⟨_, rfl, _, rfl, ?_, ?_⟩
      · try dsimp only
        exact (slots_put (ns := 79) (hsa.size.trans rfl) (by decide))
      · exact fun h => HS.out w' w'' h b2
    | 23, ho =>
      obtain rfl := Option.some.inj ho
      try dsimp only at hd
      have d18 : a'.tmps.getD 66 undef = .bool true := hd 18 (by rfl)
      have d21 : a'.tmps.getD 69 undef = .agg #[.int .i64 0, .int .i64 1] := hd 21 (by rfl)
      have d22 : a'.tmps.getD 70 undef = .agg #[.int .i64 0, .int .i64 1] := hd 22 (by rfl)
      refine wpOp_on (j := 18) (dj := 66) rfl rfl rfl d18 ?_
      refine op_run (v := .bool true) (w' := w') ?_ ⟨_, rfl, ?_, ?_⟩
      · simp only [execOp, Act.eval, List.map_toArray, List.map_cons, List.map_nil, d18, d21, d22]; first | (go_simp; done) | rfl
      · try dsimp only
        exact (slots_put (ns := 79) (hsa.size.trans rfl) (by decide))
      · exact fun h => h
    | 24, ho =>
      obtain rfl := Option.some.inj ho
      try dsimp only at hd
      have d18 : a'.tmps.getD 66 undef = .bool true := hd 18 (by rfl)
      have d23 : a'.tmps.getD 71 undef = .bool true := hd 23 (by rfl)
      refine wpOp_of rfl rfl ?_
      refine op_run (v := .bool true) (w' := w') ?_ ⟨_, rfl, ?_, ?_⟩
      · simp only [execOp, Act.eval, List.map_toArray, List.map_cons, List.map_nil, d18, d23]; first | (go_simp; done) | rfl
      · try dsimp only
        exact (slots_put (ns := 79) (hsa.size.trans rfl) (by decide))
      · exact fun h => h
    | 25, ho =>
      obtain rfl := Option.some.inj ho
      try dsimp only at hd
      have d24 : a'.tmps.getD 72 undef = .bool true := hd 24 (by rfl)
      refine wpOp_of rfl rfl ?_
      refine op_run (v := .bool true) (w' := w') ?_ ⟨_, rfl, ?_, ?_⟩
      · simp only [execOp, Act.eval, List.map_toArray, List.map_cons, List.map_nil, d24]; first | (go_simp; done) | rfl
      · try dsimp only
        exact (slots_put (ns := 79) (hsa.size.trans rfl) (by decide))
      · exact fun h => h
    | 26, ho =>
      obtain rfl := Option.some.inj ho
      try dsimp only at hd
      have d25 : a'.tmps.getD 73 undef = .bool true := hd 25 (by rfl)
      have g1 : a'.tmps.getD 1 undef = .pointer (some ad) := hsa.rest 1 (by rfl)
      refine wpOp_on (j := 25) (dj := 73) rfl rfl rfl d25 ?_
      refine op_run (v := .pointer (some ad)) (w' := w') ?_ ⟨_, rfl, ?_, ?_⟩
      · simp only [execOp, Act.eval, List.map_toArray, List.map_cons, List.map_nil, d25, g1]; first | (go_simp; done) | rfl
      · try dsimp only
        exact (slots_put (ns := 79) (hsa.size.trans rfl) (by decide))
      · exact fun h => h
    | 27, ho =>
      obtain rfl := Option.some.inj ho
      try dsimp only at hd
      have d25 : a'.tmps.getD 73 undef = .bool true := hd 25 (by rfl)
      refine wpOp_on (j := 25) (dj := 73) rfl rfl rfl d25 ?_
      refine op_call 17 _ _ rfl (enters_of Try.func17 (by kernel_rfl) rfl) [.int .i64 1, .int .i64 1] (by simp only [List.map, Act.eval, d25]) (xm 1 1 w') ?_
      rintro e w'' ⟨rfl, b2⟩
      refine ⟨_, rfl, _, rfl, ?_, ?_⟩
      · try dsimp only
        exact (slots_put (ns := 79) (hsa.size.trans rfl) (by decide))
      · exact fun h => HS.out w' w'' h b2
    | 28, ho =>
      obtain rfl := Option.some.inj ho
      try dsimp only at hd
      have d25 : a'.tmps.getD 73 undef = .bool true := hd 25 (by rfl)
      have d26 : a'.tmps.getD 74 undef = .pointer (some ad) := hd 26 (by rfl)
      have d27 : a'.tmps.getD 75 undef = .agg #[.int .i64 1, .int .i64 1] := hd 27 (by rfl)
      refine wpOp_on (j := 25) (dj := 73) rfl rfl rfl d25 ?_
      refine op_call 11 _ _ rfl (enters_of Try.func11 (by kernel_rfl) rfl) [.pointer (some ad), .agg #[.int .i64 1, .int .i64 1]] (by simp only [List.map, Act.eval, d25, d26, d27]) (HE.out w' hb) ?_
      rintro e w'' ⟨rfl, b2⟩
      refine ⟨_, rfl, _, rfl, ?_, ?_⟩
      · try dsimp only
        exact (slots_put (ns := 79) (hsa.size.trans rfl) (by decide))
      · exact fun _ => b2
    | 29, ho =>
      obtain rfl := Option.some.inj ho
      try dsimp only at hd
      have d25 : a'.tmps.getD 73 undef = .bool true := hd 25 (by rfl)
      have d28 : a'.tmps.getD 76 undef = .bool false := hd 28 (by rfl)
      refine wpOp_on (j := 25) (dj := 73) rfl rfl rfl d25 ?_
      refine op_run (v := .bool true) (w' := w') ?_ ⟨_, rfl, ?_, ?_⟩
      · simp only [execOp, Act.eval, List.map_toArray, List.map_cons, List.map_nil, d25, d28]; first | (go_simp; done) | rfl
      · try dsimp only
        exact (slots_put (ns := 79) (hsa.size.trans rfl) (by decide))
      · exact fun h => h
    | 30, ho =>
      obtain rfl := Option.some.inj ho
      try dsimp only at hd
      have d25 : a'.tmps.getD 73 undef = .bool true := hd 25 (by rfl)
      have d29 : a'.tmps.getD 77 undef = .bool true := hd 29 (by rfl)
      refine wpOp_of rfl rfl ?_
      refine op_run (v := .bool true) (w' := w') ?_ ⟨_, rfl, ?_, ?_⟩
      · simp only [execOp, Act.eval, List.map_toArray, List.map_cons, List.map_nil, d25, d29]; first | (go_simp; done) | rfl
      · try dsimp only
        exact (slots_put (ns := 79) (hsa.size.trans rfl) (by decide))
      · exact fun h => h
    | 31, ho =>
      obtain rfl := Option.some.inj ho
      try dsimp only at hd
      have d30 : a'.tmps.getD 78 undef = .bool true := hd 30 (by rfl)
      refine wpOp_of rfl rfl ?_
      refine op_run (v := .bool true) (w' := w') ?_ ⟨_, rfl, ?_, ?_⟩
      · simp only [execOp, Act.eval, List.map_toArray, List.map_cons, List.map_nil, d30]; first | (go_simp; done) | rfl
      · try dsimp only
        exact (slots_put (ns := 79) (hsa.size.trans rfl) (by decide))
      · exact fun h => h
    | (n + 32), ho => exact absurd ho (by simp)
  case pdone =>
    intro a' w' hsa hb hd
    have d0 : a'.tmps.getD 48 undef = .bool true := hd 0 (by decide)
    have d1 : a'.tmps.getD 49 undef = .bool true := hd 1 (by decide)
    have d2 : a'.tmps.getD 50 undef = .slice (some ⟨b1, o1, none⟩) 2 c1 := hd 2 (by decide)
    have d3 : a'.tmps.getD 51 undef = .int .i64 2 := hd 3 (by decide)
    have d4 : a'.tmps.getD 52 undef = .bool true := hd 4 (by decide)
    have d5 : a'.tmps.getD 53 undef = .bool true := hd 5 (by decide)
    have d6 : a'.tmps.getD 54 undef = .bool true := hd 6 (by decide)
    have d7 : a'.tmps.getD 55 undef = .slice (some ⟨b1, o1, none⟩) 2 c1 := hd 7 (by decide)
    have d8 : a'.tmps.getD 56 undef = .pointer (some ⟨b1, o1 + 2, none⟩) := hd 8 (by decide)
    have d9 : a'.tmps.getD 57 undef = .agg #[.int .i64 1, .int .i64 2] := hd 9 (by decide)
    have d10 : a'.tmps.getD 58 undef = .agg #[.int .i64 1, .int .i64 2] := hd 10 (by decide)
    have d11 : a'.tmps.getD 59 undef = .bool true := hd 11 (by decide)
    have d12 : a'.tmps.getD 60 undef = .bool true := hd 12 (by decide)
    have d13 : a'.tmps.getD 61 undef = .bool true := hd 13 (by decide)
    have d14 : a'.tmps.getD 62 undef = .slice (some ⟨b2, o2, none⟩) 1 c2 := hd 14 (by decide)
    have d15 : a'.tmps.getD 63 undef = .int .i64 1 := hd 15 (by decide)
    have d16 : a'.tmps.getD 64 undef = .bool true := hd 16 (by decide)
    have d17 : a'.tmps.getD 65 undef = .bool true := hd 17 (by decide)
    have d18 : a'.tmps.getD 66 undef = .bool true := hd 18 (by decide)
    have d19 : a'.tmps.getD 67 undef = .slice (some ⟨b2, o2, none⟩) 1 c2 := hd 19 (by decide)
    have d20 : a'.tmps.getD 68 undef = .pointer (some ⟨b2, o2, none⟩) := hd 20 (by decide)
    have d21 : a'.tmps.getD 69 undef = .agg #[.int .i64 0, .int .i64 1] := hd 21 (by decide)
    have d22 : a'.tmps.getD 70 undef = .agg #[.int .i64 0, .int .i64 1] := hd 22 (by decide)
    have d23 : a'.tmps.getD 71 undef = .bool true := hd 23 (by decide)
    have d24 : a'.tmps.getD 72 undef = .bool true := hd 24 (by decide)
    have d25 : a'.tmps.getD 73 undef = .bool true := hd 25 (by decide)
    have d26 : a'.tmps.getD 74 undef = .pointer (some ad) := hd 26 (by decide)
    have d27 : a'.tmps.getD 75 undef = .agg #[.int .i64 1, .int .i64 1] := hd 27 (by decide)
    have d28 : a'.tmps.getD 76 undef = .bool false := hd 28 (by decide)
    have d29 : a'.tmps.getD 77 undef = .bool true := hd 29 (by decide)
    have d30 : a'.tmps.getD 78 undef = .bool true := hd 30 (by decide)
    have d31 : a'.tmps.getD 0 undef = .bool true := hd 31 (by decide)
    exact HQ.out _ _ ⟨hsa.size.trans rfl, hsa.defers, (d31).trans rfl, (hsa.rest 1 (by rfl)).trans rfl, (hsa.rest 2 (by rfl)).trans rfl, (hsa.rest 4 (by rfl)).trans rfl, (hsa.rest 5 (by rfl)).trans rfl, (hsa.rest 6 (by rfl)).trans rfl, (hsa.rest 7 (by rfl)).trans rfl, (hsa.rest 8 (by rfl)).trans rfl⟩ hb
end Go.Proofs.Ytafjngmdandgmaa
