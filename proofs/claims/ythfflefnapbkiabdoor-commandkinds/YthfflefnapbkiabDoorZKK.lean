/-
  CommandKinds: its regions (mkkinds.py)
-/
import Derived.Test.YthfflefnapbkiabDoorZHC
import Derived.Test.YthfflefnapbkiabDoorZHA
namespace Go.Proofs.YthfflefnapbkiabDoor
open Go.RowKit

attribute [local go_sem ↓] Go.wp_at_zero Go.wp_at_succ
set_option linter.unusedSimpArgs false
set_option linter.unusedVariables false
set_option maxRecDepth 100000 in
theorem frame_kd (t : Array Value) (h : t.size = 67) : ∃ u : Nat → Value, t = List.toArray (u 0 :: u 1 :: u 2 :: u 3 :: u 4 :: u 5 :: u 6 :: u 7 :: u 8 :: u 9 :: u 10 :: u 11 :: u 12 :: u 13 :: u 14 :: u 15 :: u 16 :: u 17 :: u 18 :: u 19 :: u 20 :: u 21 :: u 22 :: u 23 :: u 24 :: u 25 :: u 26 :: u 27 :: u 28 :: u 29 :: u 30 :: u 31 :: u 32 :: u 33 :: u 34 :: u 35 :: u 36 :: u 37 :: u 38 :: u 39 :: u 40 :: u 41 :: u 42 :: u 43 :: u 44 :: u 45 :: u 46 :: u 47 :: u 48 :: u 49 :: u 50 :: u 51 :: u 52 :: u 53 :: u 54 :: u 55 :: u 56 :: u 57 :: u 58 :: u 59 :: u 60 :: u 61 :: u 62 :: u 63 :: u 64 :: u 65 :: u 66 :: []) := by
  refine ⟨fun i => t.getD i undef, ?_⟩
  have e : (List.toArray ((fun i => t.getD i undef) 0 :: (fun i => t.getD i undef) 1 :: (fun i => t.getD i undef) 2 :: (fun i => t.getD i undef) 3 :: (fun i => t.getD i undef) 4 :: (fun i => t.getD i undef) 5 :: (fun i => t.getD i undef) 6 :: (fun i => t.getD i undef) 7 :: (fun i => t.getD i undef) 8 :: (fun i => t.getD i undef) 9 :: (fun i => t.getD i undef) 10 :: (fun i => t.getD i undef) 11 :: (fun i => t.getD i undef) 12 :: (fun i => t.getD i undef) 13 :: (fun i => t.getD i undef) 14 :: (fun i => t.getD i undef) 15 :: (fun i => t.getD i undef) 16 :: (fun i => t.getD i undef) 17 :: (fun i => t.getD i undef) 18 :: (fun i => t.getD i undef) 19 :: (fun i => t.getD i undef) 20 :: (fun i => t.getD i undef) 21 :: (fun i => t.getD i undef) 22 :: (fun i => t.getD i undef) 23 :: (fun i => t.getD i undef) 24 :: (fun i => t.getD i undef) 25 :: (fun i => t.getD i undef) 26 :: (fun i => t.getD i undef) 27 :: (fun i => t.getD i undef) 28 :: (fun i => t.getD i undef) 29 :: (fun i => t.getD i undef) 30 :: (fun i => t.getD i undef) 31 :: (fun i => t.getD i undef) 32 :: (fun i => t.getD i undef) 33 :: (fun i => t.getD i undef) 34 :: (fun i => t.getD i undef) 35 :: (fun i => t.getD i undef) 36 :: (fun i => t.getD i undef) 37 :: (fun i => t.getD i undef) 38 :: (fun i => t.getD i undef) 39 :: (fun i => t.getD i undef) 40 :: (fun i => t.getD i undef) 41 :: (fun i => t.getD i undef) 42 :: (fun i => t.getD i undef) 43 :: (fun i => t.getD i undef) 44 :: (fun i => t.getD i undef) 45 :: (fun i => t.getD i undef) 46 :: (fun i => t.getD i undef) 47 :: (fun i => t.getD i undef) 48 :: (fun i => t.getD i undef) 49 :: (fun i => t.getD i undef) 50 :: (fun i => t.getD i undef) 51 :: (fun i => t.getD i undef) 52 :: (fun i => t.getD i undef) 53 :: (fun i => t.getD i undef) 54 :: (fun i => t.getD i undef) 55 :: (fun i => t.getD i undef) 56 :: (fun i => t.getD i undef) 57 :: (fun i => t.getD i undef) 58 :: (fun i => t.getD i undef) 59 :: (fun i => t.getD i undef) 60 :: (fun i => t.getD i undef) 61 :: (fun i => t.getD i undef) 62 :: (fun i => t.getD i undef) 63 :: (fun i => t.getD i undef) 64 :: (fun i => t.getD i undef) 65 :: (fun i => t.getD i undef) 66 :: []) : Array Value) = ((List.range 67).map fun i => t.getD i undef).toArray := rfl
  refine Eq.trans ?_ e.symm
  apply Array.ext
  · simp [h]
  · intro k h1 h2
    simp [Array.getD, h1]
/-- The slots that matter. -/
structure Vkd where
  v0 : Value
  v1 : Value
  v2 : Value
  v4 : Value
  v5 : Value
  v6 : Value
  v7 : Value
  v8 : Value
  v9 : Value
  v10 : Value
  v22 : Value
structure Fkd (a : Act) (v : Vkd) : Prop where
  size : a.tmps.size = 67
  defers : a.defers = []
  s0 : a.tmps.getD 0 undef = v.v0
  s1 : a.tmps.getD 1 undef = v.v1
  s2 : a.tmps.getD 2 undef = v.v2
  s4 : a.tmps.getD 4 undef = v.v4
  s5 : a.tmps.getD 5 undef = v.v5
  s6 : a.tmps.getD 6 undef = v.v6
  s7 : a.tmps.getD 7 undef = v.v7
  s8 : a.tmps.getD 8 undef = v.v8
  s9 : a.tmps.getD 9 undef = v.v9
  s10 : a.tmps.getD 10 undef = v.v10
  s22 : a.tmps.getD 22 undef = v.v22
set_option maxHeartbeats 8000000 in
set_option maxRecDepth 100000 in
theorem kd_r0 {K : Act → World → Prop} {c : Code} (hc : regOf (Tryd.f4.body.getD .skip) 0 = some c) (a : Act) {v : Vkd} {wq : World} {x : CM} (hF : Fkd a v) (h0v : v.v0 = x.v) (hQ : ∀ a' w' b, Fkd a' { v with v2 := .pointer (some ⟨b, 0, none⟩), v4 := .bool false } → w'.heap[b]? = some (.cells x.cells 26 (0, 0)) → Below wq.heap.size wq w' → K a' w') :
    Code.wp Tryd.prog c (Exit.then K fun _ _ _ => False) a wq := by
  have HQ := hide hQ
  clear hQ
  obtain ⟨t', d'⟩ := a
  obtain ⟨v0, v1, v2, v4, v5, v6, v7, v8, v9, v10, v22⟩ := v
  simp only at h0v HQ
  subst h0v
  obtain ⟨hs1, hd1, q0, q1, q2, q4, q5, q6, q7, q8, q9, q10, q22⟩ := hF
  obtain ⟨u, hu⟩ := frame_kd t' hs1
  simp only at hd1 q0 q1 q2 q4 q5 q6 q7 q8 q9 q10 q22
  subst hu hd1
  have e0 : u 0 = x.v := q0
  have e1 : u 1 = v1 := q1
  have e2 : u 2 = v2 := q2
  have e4 : u 4 = v4 := q4
  have e5 : u 5 = v5 := q5
  have e6 : u 6 = v6 := q6
  have e7 : u 7 = v7 := q7
  have e8 : u 8 = v8 := q8
  have e9 : u 9 = v9 := q9
  have e10 : u 10 = v10 := q10
  have e22 : u 22 = v22 := q22
  rw [e0, e1, e2, e4, e5, e6, e7, e8, e9, e10, e22]
  clear q0 e0 q1 e1 q2 e2 q4 e4 q5 e5 q6 e6 q7 e7 q8 e8 q9 e9 q10 e10 q22 e22 hs1
  simp only [Tryd.f4, Option.getD_some, regOf] at hc
  injection hc with hc
  subst hc
  generalize u 3 = u3
  generalize u 11 = u11
  generalize u 12 = u12
  generalize u 13 = u13
  generalize u 14 = u14
  generalize u 15 = u15
  generalize u 16 = u16
  generalize u 17 = u17
  generalize u 18 = u18
  generalize u 19 = u19
  generalize u 20 = u20
  generalize u 21 = u21
  generalize u 23 = u23
  generalize u 24 = u24
  generalize u 25 = u25
  generalize u 26 = u26
  generalize u 27 = u27
  generalize u 28 = u28
  generalize u 29 = u29
  generalize u 30 = u30
  generalize u 31 = u31
  generalize u 32 = u32
  generalize u 33 = u33
  generalize u 34 = u34
  generalize u 35 = u35
  generalize u 36 = u36
  generalize u 37 = u37
  generalize u 38 = u38
  generalize u 39 = u39
  generalize u 40 = u40
  generalize u 41 = u41
  generalize u 42 = u42
  generalize u 43 = u43
  generalize u 44 = u44
  generalize u 45 = u45
  generalize u 46 = u46
  generalize u 47 = u47
  generalize u 48 = u48
  generalize u 49 = u49
  generalize u 50 = u50
  generalize u 51 = u51
  generalize u 52 = u52
  generalize u 53 = u53
  generalize u 54 = u54
  generalize u 55 = u55
  generalize u 56 = u56
  generalize u 57 = u57
  generalize u 58 = u58
  generalize u 59 = u59
  generalize u 60 = u60
  generalize u 61 = u61
  generalize u 62 = u62
  generalize u 63 = u63
  generalize u 64 = u64
  generalize u 65 = u65
  generalize u 66 = u66
  clear u
  simp only [CM.v, CM.cells] at *
  go_wp2
  exact HQ.out _ _ wq.heap.size ⟨rfl, rfl, rfl, rfl, rfl, rfl, rfl, rfl, rfl, rfl, rfl, rfl, rfl⟩ (heap_alloc_new _ _) ((Below.refl _ _).alloc (Nat.le_refl _) _)
set_option maxHeartbeats 8000000 in
set_option maxRecDepth 100000 in
theorem kd_r1 {K : Act → World → Prop} {c : Code} (hc : regOf (Tryd.f4.body.getD .skip) 1 = some c) (a : Act) {v : Vkd} {wq : World}  (hF : Fkd a v) (hC : ∀ W, Below wq.heap.size wq W → Calls Tryd.prog 5 #[] W fun e w' => e = .returned (.bool true) ∧ Below W.heap.size W w')
    (hQ : ∀ a' w', Fkd a' { v with v5 := .bool true } → Below wq.heap.size wq w' → K a' w') :
    Code.wp Tryd.prog c (Exit.then K fun _ _ _ => False) a wq := by
  have HQ := hide hQ
  clear hQ
  obtain ⟨t', d'⟩ := a
  obtain ⟨v0, v1, v2, v4, v5, v6, v7, v8, v9, v10, v22⟩ := v
  obtain ⟨hs1, hd1, q0, q1, q2, q4, q5, q6, q7, q8, q9, q10, q22⟩ := hF
  obtain ⟨u, hu⟩ := frame_kd t' hs1
  simp only at hd1 q0 q1 q2 q4 q5 q6 q7 q8 q9 q10 q22
  subst hu hd1
  have e0 : u 0 = v0 := q0
  have e1 : u 1 = v1 := q1
  have e2 : u 2 = v2 := q2
  have e4 : u 4 = v4 := q4
  have e5 : u 5 = v5 := q5
  have e6 : u 6 = v6 := q6
  have e7 : u 7 = v7 := q7
  have e8 : u 8 = v8 := q8
  have e9 : u 9 = v9 := q9
  have e10 : u 10 = v10 := q10
  have e22 : u 22 = v22 := q22
  rw [e0, e1, e2, e4, e5, e6, e7, e8, e9, e10, e22]
  clear q0 e0 q1 e1 q2 e2 q4 e4 q5 e5 q6 e6 q7 e7 q8 e8 q9 e9 q10 e10 q22 e22 hs1
  simp only [Tryd.f4, Option.getD_some, regOf] at hc
  injection hc with hc
  subst hc
  generalize u 3 = u3
  generalize u 11 = u11
  generalize u 12 = u12
  generalize u 13 = u13
  generalize u 14 = u14
  generalize u 15 = u15
  generalize u 16 = u16
  generalize u 17 = u17
  generalize u 18 = u18
  generalize u 19 = u19
  generalize u 20 = u20
  generalize u 21 = u21
  generalize u 23 = u23
  generalize u 24 = u24
  generalize u 25 = u25
  generalize u 26 = u26
  generalize u 27 = u27
  generalize u 28 = u28
  generalize u 29 = u29
  generalize u 30 = u30
  generalize u 31 = u31
  generalize u 32 = u32
  generalize u 33 = u33
  generalize u 34 = u34
  generalize u 35 = u35
  generalize u 36 = u36
  generalize u 37 = u37
  generalize u 38 = u38
  generalize u 39 = u39
  generalize u 40 = u40
  generalize u 41 = u41
  generalize u 42 = u42
  generalize u 43 = u43
  generalize u 44 = u44
  generalize u 45 = u45
  generalize u 46 = u46
  generalize u 47 = u47
  generalize u 48 = u48
  generalize u 49 = u49
  generalize u 50 = u50
  generalize u 51 = u51
  generalize u 52 = u52
  generalize u 53 = u53
  generalize u 54 = u54
  generalize u 55 = u55
  generalize u 56 = u56
  generalize u 57 = u57
  generalize u 58 = u58
  generalize u 59 = u59
  generalize u 60 = u60
  generalize u 61 = u61
  generalize u 62 = u62
  generalize u 63 = u63
  generalize u 64 = u64
  generalize u 65 = u65
  generalize u 66 = u66
  clear u
  have HC := hide hC
  clear hC
  go_wp2_with (go_at_call 5; refine (HC.out _ (Below.refl _ _)).mono ?_; rintro e w1 ⟨rfl, b1⟩)
  exact HQ.out _ _ ⟨rfl, rfl, rfl, rfl, rfl, rfl, rfl, rfl, rfl, rfl, rfl, rfl, rfl⟩ b1
set_option maxHeartbeats 8000000 in
set_option maxRecDepth 100000 in
theorem kd_r2 {K : Act → World → Prop} {c : Code} (hc : regOf (Tryd.f4.body.getD .skip) 2 = some c) (a : Act) {v : Vkd} {wq : World} {b : Nat} {x : CM} (hF : Fkd a v) (h2v : v.v2 = .pointer (some ⟨b, 0, none⟩)) (hB : wq.heap[b]? = some (.cells x.cells 26 (0, 0)))
    (hQ : ∀ a' w' d, Fkd a' { v with v6 := .pointer (some ⟨d, 0, none⟩) } → wq.heap.size ≤ d → w'.heap[d]? = some (.cells x.cells 26 (0, 0)) → Below wq.heap.size wq w' → K a' w') :
    Code.wp Tryd.prog c (Exit.then K fun _ _ _ => False) a wq := by
  have HQ := hide hQ
  clear hQ
  obtain ⟨t', d'⟩ := a
  obtain ⟨v0, v1, v2, v4, v5, v6, v7, v8, v9, v10, v22⟩ := v
  simp only at h2v HQ
  subst h2v
  obtain ⟨hs1, hd1, q0, q1, q2, q4, q5, q6, q7, q8, q9, q10, q22⟩ := hF
  obtain ⟨u, hu⟩ := frame_kd t' hs1
  simp only at hd1 q0 q1 q2 q4 q5 q6 q7 q8 q9 q10 q22
  subst hu hd1
  have e0 : u 0 = v0 := q0
  have e1 : u 1 = v1 := q1
  have e2 : u 2 = .pointer (some ⟨b, 0, none⟩) := q2
  have e4 : u 4 = v4 := q4
  have e5 : u 5 = v5 := q5
  have e6 : u 6 = v6 := q6
  have e7 : u 7 = v7 := q7
  have e8 : u 8 = v8 := q8
  have e9 : u 9 = v9 := q9
  have e10 : u 10 = v10 := q10
  have e22 : u 22 = v22 := q22
  rw [e0, e1, e2, e4, e5, e6, e7, e8, e9, e10, e22]
  clear q0 e0 q1 e1 q2 e2 q4 e4 q5 e5 q6 e6 q7 e7 q8 e8 q9 e9 q10 e10 q22 e22 hs1
  simp only [Tryd.f4, Option.getD_some, regOf] at hc
  injection hc with hc
  subst hc
  generalize u 3 = u3
  generalize u 11 = u11
  generalize u 12 = u12
  generalize u 13 = u13
  generalize u 14 = u14
  generalize u 15 = u15
  generalize u 16 = u16
  generalize u 17 = u17
  generalize u 18 = u18
  generalize u 19 = u19
  generalize u 20 = u20
  generalize u 21 = u21
  generalize u 23 = u23
  generalize u 24 = u24
  generalize u 25 = u25
  generalize u 26 = u26
  generalize u 27 = u27
  generalize u 28 = u28
  generalize u 29 = u29
  generalize u 30 = u30
  generalize u 31 = u31
  generalize u 32 = u32
  generalize u 33 = u33
  generalize u 34 = u34
  generalize u 35 = u35
  generalize u 36 = u36
  generalize u 37 = u37
  generalize u 38 = u38
  generalize u 39 = u39
  generalize u 40 = u40
  generalize u 41 = u41
  generalize u 42 = u42
  generalize u 43 = u43
  generalize u 44 = u44
  generalize u 45 = u45
  generalize u 46 = u46
  generalize u 47 = u47
  generalize u 48 = u48
  generalize u 49 = u49
  generalize u 50 = u50
  generalize u 51 = u51
  generalize u 52 = u52
  generalize u 53 = u53
  generalize u 54 = u54
  generalize u 55 = u55
  generalize u 56 = u56
  generalize u 57 = u57
  generalize u 58 = u58
  generalize u 59 = u59
  generalize u 60 = u60
  generalize u 61 = u61
  generalize u 62 = u62
  generalize u 63 = u63
  generalize u 64 = u64
  generalize u 65 = u65
  generalize u 66 = u66
  clear u
  simp only [CM.cells] at hB
  have c0 := box_cell hB 0 rfl
  have c1 := box_cell hB 1 rfl
  have c2 := box_cell hB 2 rfl
  have c3 := box_cell hB 3 rfl
  have c4 := box_cell hB 4 rfl
  have c5 := box_cell hB 5 rfl
  have c6 := box_cell hB 6 rfl
  have c7 := box_cell hB 7 rfl
  have c8 := box_cell hB 8 rfl
  clear hB
  simp only [CM.cells] at HQ
  go_wp2
  exact HQ.out _ _ wq.heap.size ⟨rfl, rfl, rfl, rfl, rfl, rfl, rfl, rfl, rfl, rfl, rfl, rfl, rfl⟩ (Nat.le_refl _) (heap_alloc_new _ _) ((Below.refl _ _).alloc (Nat.le_refl _) _)
set_option maxHeartbeats 8000000 in
set_option maxRecDepth 100000 in
theorem kd_r3 {K : Act → World → Prop} {c : Code} (hc : regOf (Tryd.f4.body.getD .skip) 3 = some c) (a : Act) {v : Vkd} {wq : World} {d : Nat} {x : CM} {k : Int} (hF : Fkd a v) (h1v : v.v1 = .int .i64 k) (h6v : v.v6 = .pointer (some ⟨d, 0, none⟩)) (hB : wq.heap[d]? = some (.cells x.cells 26 (0, 0)))
    (hQ : ∀ a' w', Fkd a' v → w'.heap[d]? = some (.cells { x with kind := k }.cells 26 (0, 0)) → Touch (fun i => i = d) wq w' → K a' w') :
    Code.wp Tryd.prog c (Exit.then K fun _ _ _ => False) a wq := by
  have HQ := hide hQ
  clear hQ
  obtain ⟨t', d'⟩ := a
  obtain ⟨v0, v1, v2, v4, v5, v6, v7, v8, v9, v10, v22⟩ := v
  simp only at h1v h6v HQ
  subst h1v h6v
  obtain ⟨hs1, hd1, q0, q1, q2, q4, q5, q6, q7, q8, q9, q10, q22⟩ := hF
  obtain ⟨u, hu⟩ := frame_kd t' hs1
  simp only at hd1 q0 q1 q2 q4 q5 q6 q7 q8 q9 q10 q22
  subst hu hd1
  have e0 : u 0 = v0 := q0
  have e1 : u 1 = .int .i64 k := q1
  have e2 : u 2 = v2 := q2
  have e4 : u 4 = v4 := q4
  have e5 : u 5 = v5 := q5
  have e6 : u 6 = .pointer (some ⟨d, 0, none⟩) := q6
  have e7 : u 7 = v7 := q7
  have e8 : u 8 = v8 := q8
  have e9 : u 9 = v9 := q9
  have e10 : u 10 = v10 := q10
  have e22 : u 22 = v22 := q22
  rw [e0, e1, e2, e4, e5, e6, e7, e8, e9, e10, e22]
  clear q0 e0 q1 e1 q2 e2 q4 e4 q5 e5 q6 e6 q7 e7 q8 e8 q9 e9 q10 e10 q22 e22 hs1
  simp only [Tryd.f4, Option.getD_some, regOf] at hc
  injection hc with hc
  subst hc
  generalize u 3 = u3
  generalize u 11 = u11
  generalize u 12 = u12
  generalize u 13 = u13
  generalize u 14 = u14
  generalize u 15 = u15
  generalize u 16 = u16
  generalize u 17 = u17
  generalize u 18 = u18
  generalize u 19 = u19
  generalize u 20 = u20
  generalize u 21 = u21
  generalize u 23 = u23
  generalize u 24 = u24
  generalize u 25 = u25
  generalize u 26 = u26
  generalize u 27 = u27
  generalize u 28 = u28
  generalize u 29 = u29
  generalize u 30 = u30
  generalize u 31 = u31
  generalize u 32 = u32
  generalize u 33 = u33
  generalize u 34 = u34
  generalize u 35 = u35
  generalize u 36 = u36
  generalize u 37 = u37
  generalize u 38 = u38
  generalize u 39 = u39
  generalize u 40 = u40
  generalize u 41 = u41
  generalize u 42 = u42
  generalize u 43 = u43
  generalize u 44 = u44
  generalize u 45 = u45
  generalize u 46 = u46
  generalize u 47 = u47
  generalize u 48 = u48
  generalize u 49 = u49
  generalize u 50 = u50
  generalize u 51 = u51
  generalize u 52 = u52
  generalize u 53 = u53
  generalize u 54 = u54
  generalize u 55 = u55
  generalize u 56 = u56
  generalize u 57 = u57
  generalize u 58 = u58
  generalize u 59 = u59
  generalize u 60 = u60
  generalize u 61 = u61
  generalize u 62 = u62
  generalize u 63 = u63
  generalize u 64 = u64
  generalize u 65 = u65
  generalize u 66 = u66
  clear u
  have h9 := box_set hB 0 (.int .i64 k)
  have f0 := box_free hB 0
  have c0 := box_cell hB 0 rfl
  go_wp2
  exact HQ.out _ _ ⟨rfl, rfl, rfl, rfl, rfl, rfl, rfl, rfl, rfl, rfl, rfl, rfl, rfl⟩ (by simpa [CM.cells] using h9) ((Touch.refl _ _).setCell ⟨d, 0, none⟩ _ (fun _ => rfl))
set_option maxHeartbeats 8000000 in
set_option maxRecDepth 100000 in
theorem kd_r4 {K : Act → World → Prop} {c : Code} (hc : regOf (Tryd.f4.body.getD .skip) 4 = some c) (a : Act) {v : Vkd} {wq : World} {b d : Nat} {x y : CM} {p q : Bool} (hF : Fkd a v) (h2v : v.v2 = .pointer (some ⟨b, 0, none⟩)) (h6v : v.v6 = .pointer (some ⟨d, 0, none⟩)) (hB : wq.heap[b]? = some (.cells x.cells 26 (0, 0))) (hD : wq.heap[d]? = some (.cells y.cells 26 (0, 0))) (hC : ∀ W, Below wq.heap.size wq W → Calls Tryd.prog 7 #[x.v] W fun e w' => e = .returned (.bool p) ∧ Below W.heap.size W w') (hE : ∀ W, Below wq.heap.size wq W → Calls Tryd.prog 7 #[y.v] W fun e w' => e = .returned (.bool q) ∧ Below W.heap.size W w')
    (hQ : ∀ a' w', Fkd a' { v with v22 := .bool (!p || !q) } → Below wq.heap.size wq w' → K a' w') :
    Code.wp Tryd.prog c (Exit.then K fun _ _ _ => False) a wq := by
  have HQ := hide hQ
  clear hQ
  obtain ⟨t', d'⟩ := a
  obtain ⟨v0, v1, v2, v4, v5, v6, v7, v8, v9, v10, v22⟩ := v
  simp only at h2v h6v HQ
  subst h2v h6v
  obtain ⟨hs1, hd1, q0, q1, q2, q4, q5, q6, q7, q8, q9, q10, q22⟩ := hF
  obtain ⟨u, hu⟩ := frame_kd t' hs1
  simp only at hd1 q0 q1 q2 q4 q5 q6 q7 q8 q9 q10 q22
  subst hu hd1
  have e0 : u 0 = v0 := q0
  have e1 : u 1 = v1 := q1
  have e2 : u 2 = .pointer (some ⟨b, 0, none⟩) := q2
  have e4 : u 4 = v4 := q4
  have e5 : u 5 = v5 := q5
  have e6 : u 6 = .pointer (some ⟨d, 0, none⟩) := q6
  have e7 : u 7 = v7 := q7
  have e8 : u 8 = v8 := q8
  have e9 : u 9 = v9 := q9
  have e10 : u 10 = v10 := q10
  have e22 : u 22 = v22 := q22
  rw [e0, e1, e2, e4, e5, e6, e7, e8, e9, e10, e22]
  clear q0 e0 q1 e1 q2 e2 q4 e4 q5 e5 q6 e6 q7 e7 q8 e8 q9 e9 q10 e10 q22 e22 hs1
  simp only [Tryd.f4, Option.getD_some, regOf] at hc
  injection hc with hc
  subst hc
  generalize u 3 = u3
  generalize u 11 = u11
  generalize u 12 = u12
  generalize u 13 = u13
  generalize u 14 = u14
  generalize u 15 = u15
  generalize u 16 = u16
  generalize u 17 = u17
  generalize u 18 = u18
  generalize u 19 = u19
  generalize u 20 = u20
  generalize u 21 = u21
  generalize u 23 = u23
  generalize u 24 = u24
  generalize u 25 = u25
  generalize u 26 = u26
  generalize u 27 = u27
  generalize u 28 = u28
  generalize u 29 = u29
  generalize u 30 = u30
  generalize u 31 = u31
  generalize u 32 = u32
  generalize u 33 = u33
  generalize u 34 = u34
  generalize u 35 = u35
  generalize u 36 = u36
  generalize u 37 = u37
  generalize u 38 = u38
  generalize u 39 = u39
  generalize u 40 = u40
  generalize u 41 = u41
  generalize u 42 = u42
  generalize u 43 = u43
  generalize u 44 = u44
  generalize u 45 = u45
  generalize u 46 = u46
  generalize u 47 = u47
  generalize u 48 = u48
  generalize u 49 = u49
  generalize u 50 = u50
  generalize u 51 = u51
  generalize u 52 = u52
  generalize u 53 = u53
  generalize u 54 = u54
  generalize u 55 = u55
  generalize u 56 = u56
  generalize u 57 = u57
  generalize u 58 = u58
  generalize u 59 = u59
  generalize u 60 = u60
  generalize u 61 = u61
  generalize u 62 = u62
  generalize u 63 = u63
  generalize u 64 = u64
  generalize u 65 = u65
  generalize u 66 = u66
  clear u
  have HC := hide hC
  have HE := hide hE
  have HD := hide hD
  have c0 := box_cell hB 0 rfl
  have c1 := box_cell hB 1 rfl
  have c2 := box_cell hB 2 rfl
  have c3 := box_cell hB 3 rfl
  have c4 := box_cell hB 4 rfl
  have c5 := box_cell hB 5 rfl
  have c6 := box_cell hB 6 rfl
  have c7 := box_cell hB 7 rfl
  have c8 := box_cell hB 8 rfl
  clear hC hB hE hD
  simp only [CM.v, CM.cells] at *
  cases p
  · go_wp2_with (go_at_call 7; refine (HC.out _ (Below.refl _ _)).mono ?_; rintro e w1 ⟨rfl, b1⟩)
    exact HQ.out _ _ ⟨rfl, rfl, rfl, rfl, rfl, rfl, rfl, rfl, rfl, rfl, rfl, rfl, rfl⟩ b1
  · go_wp2_with fail
    refine (HC.out _ (Below.refl _ _)).mono ?_
    rintro e w1 ⟨rfl, b1⟩
    have hD1 := (b1.block _ (heap_lt HD.out)).trans HD.out
    have B1 := hide b1
    have d0 := box_cell hD1 0 rfl
    have d1 := box_cell hD1 1 rfl
    have d2 := box_cell hD1 2 rfl
    have d3 := box_cell hD1 3 rfl
    have d4 := box_cell hD1 4 rfl
    have d5 := box_cell hD1 5 rfl
    have d6 := box_cell hD1 6 rfl
    have d7 := box_cell hD1 7 rfl
    have d8 := box_cell hD1 8 rfl
    clear hD1 b1
    go_wp2_with fail
    refine (HE.out _ B1.out).mono ?_
    rintro e w2 ⟨rfl, b2⟩
    have B2 := hide (B1.out.trans (b2.mono B1.out.size))
    clear b2
    cases q
    · go_wp2
      exact HQ.out _ _ ⟨rfl, rfl, rfl, rfl, rfl, rfl, rfl, rfl, rfl, rfl, rfl, rfl, rfl⟩ B2.out
    · go_wp2
      exact HQ.out _ _ ⟨rfl, rfl, rfl, rfl, rfl, rfl, rfl, rfl, rfl, rfl, rfl, rfl, rfl⟩ B2.out
set_option maxHeartbeats 8000000 in
set_option maxRecDepth 100000 in
theorem kd_r5 {K : Act → World → Prop} {c : Code} (hc : regOf (Tryd.f4.body.getD .skip) 5 = some c) (a : Act) {v : Vkd} {wq : World}  (hF : Fkd a v) (h5v : v.v5 = .bool true) (hQ : ∀ a', Fkd a' { v with v4 := .bool true } → K a' wq) :
    Code.wp Tryd.prog c (Exit.then K fun _ _ _ => False) a wq := by
  have HQ := hide hQ
  clear hQ
  obtain ⟨t', d'⟩ := a
  obtain ⟨v0, v1, v2, v4, v5, v6, v7, v8, v9, v10, v22⟩ := v
  simp only at h5v HQ
  subst h5v
  obtain ⟨hs1, hd1, q0, q1, q2, q4, q5, q6, q7, q8, q9, q10, q22⟩ := hF
  obtain ⟨u, hu⟩ := frame_kd t' hs1
  simp only at hd1 q0 q1 q2 q4 q5 q6 q7 q8 q9 q10 q22
  subst hu hd1
  have e0 : u 0 = v0 := q0
  have e1 : u 1 = v1 := q1
  have e2 : u 2 = v2 := q2
  have e4 : u 4 = v4 := q4
  have e5 : u 5 = .bool true := q5
  have e6 : u 6 = v6 := q6
  have e7 : u 7 = v7 := q7
  have e8 : u 8 = v8 := q8
  have e9 : u 9 = v9 := q9
  have e10 : u 10 = v10 := q10
  have e22 : u 22 = v22 := q22
  rw [e0, e1, e2, e4, e5, e6, e7, e8, e9, e10, e22]
  clear q0 e0 q1 e1 q2 e2 q4 e4 q5 e5 q6 e6 q7 e7 q8 e8 q9 e9 q10 e10 q22 e22 hs1
  simp only [Tryd.f4, Option.getD_some, regOf] at hc
  injection hc with hc
  subst hc
  generalize u 3 = u3
  generalize u 11 = u11
  generalize u 12 = u12
  generalize u 13 = u13
  generalize u 14 = u14
  generalize u 15 = u15
  generalize u 16 = u16
  generalize u 17 = u17
  generalize u 18 = u18
  generalize u 19 = u19
  generalize u 20 = u20
  generalize u 21 = u21
  generalize u 23 = u23
  generalize u 24 = u24
  generalize u 25 = u25
  generalize u 26 = u26
  generalize u 27 = u27
  generalize u 28 = u28
  generalize u 29 = u29
  generalize u 30 = u30
  generalize u 31 = u31
  generalize u 32 = u32
  generalize u 33 = u33
  generalize u 34 = u34
  generalize u 35 = u35
  generalize u 36 = u36
  generalize u 37 = u37
  generalize u 38 = u38
  generalize u 39 = u39
  generalize u 40 = u40
  generalize u 41 = u41
  generalize u 42 = u42
  generalize u 43 = u43
  generalize u 44 = u44
  generalize u 45 = u45
  generalize u 46 = u46
  generalize u 47 = u47
  generalize u 48 = u48
  generalize u 49 = u49
  generalize u 50 = u50
  generalize u 51 = u51
  generalize u 52 = u52
  generalize u 53 = u53
  generalize u 54 = u54
  generalize u 55 = u55
  generalize u 56 = u56
  generalize u 57 = u57
  generalize u 58 = u58
  generalize u 59 = u59
  generalize u 60 = u60
  generalize u 61 = u61
  generalize u 62 = u62
  generalize u 63 = u63
  generalize u 64 = u64
  generalize u 65 = u65
  generalize u 66 = u66
  clear u
  go_wp2
  exact HQ.out _ ⟨rfl, rfl, rfl, rfl, rfl, rfl, rfl, rfl, rfl, rfl, rfl, rfl, rfl⟩
set_option maxHeartbeats 8000000 in
set_option maxRecDepth 100000 in
theorem kd_r6 {K : Act → World → Prop} {c : Code} (hc : regOf (Tryd.f4.body.getD .skip) 6 = some c) (a : Act) {v : Vkd} {wq : World} {b : Nat} {x : CM} {T : ByteArray} {er : Int} (hF : Fkd a v) (h2v : v.v2 = .pointer (some ⟨b, 0, none⟩)) (hB : wq.heap[b]? = some (.cells x.cells 26 (0, 0))) (hC : ∀ W, Below wq.heap.size wq W → Calls Tryd.prog 8 #[x.v] W fun e w' => e = .returned (.tuple #[.string T, .int .i64 er]) ∧ Below W.heap.size W w')
    (hQ : ∀ a' w', Fkd a' { v with v7 := .string T, v8 := .int .i64 er } → Below wq.heap.size wq w' → K a' w') :
    Code.wp Tryd.prog c (Exit.then K fun _ _ _ => False) a wq := by
  have HQ := hide hQ
  clear hQ
  obtain ⟨t', d'⟩ := a
  obtain ⟨v0, v1, v2, v4, v5, v6, v7, v8, v9, v10, v22⟩ := v
  simp only at h2v HQ
  subst h2v
  obtain ⟨hs1, hd1, q0, q1, q2, q4, q5, q6, q7, q8, q9, q10, q22⟩ := hF
  obtain ⟨u, hu⟩ := frame_kd t' hs1
  simp only at hd1 q0 q1 q2 q4 q5 q6 q7 q8 q9 q10 q22
  subst hu hd1
  have e0 : u 0 = v0 := q0
  have e1 : u 1 = v1 := q1
  have e2 : u 2 = .pointer (some ⟨b, 0, none⟩) := q2
  have e4 : u 4 = v4 := q4
  have e5 : u 5 = v5 := q5
  have e6 : u 6 = v6 := q6
  have e7 : u 7 = v7 := q7
  have e8 : u 8 = v8 := q8
  have e9 : u 9 = v9 := q9
  have e10 : u 10 = v10 := q10
  have e22 : u 22 = v22 := q22
  rw [e0, e1, e2, e4, e5, e6, e7, e8, e9, e10, e22]
  clear q0 e0 q1 e1 q2 e2 q4 e4 q5 e5 q6 e6 q7 e7 q8 e8 q9 e9 q10 e10 q22 e22 hs1
  simp only [Tryd.f4, Option.getD_some, regOf] at hc
  injection hc with hc
  subst hc
  generalize u 3 = u3
  generalize u 11 = u11
  generalize u 12 = u12
  generalize u 13 = u13
  generalize u 14 = u14
  generalize u 15 = u15
  generalize u 16 = u16
  generalize u 17 = u17
  generalize u 18 = u18
  generalize u 19 = u19
  generalize u 20 = u20
  generalize u 21 = u21
  generalize u 23 = u23
  generalize u 24 = u24
  generalize u 25 = u25
  generalize u 26 = u26
  generalize u 27 = u27
  generalize u 28 = u28
  generalize u 29 = u29
  generalize u 30 = u30
  generalize u 31 = u31
  generalize u 32 = u32
  generalize u 33 = u33
  generalize u 34 = u34
  generalize u 35 = u35
  generalize u 36 = u36
  generalize u 37 = u37
  generalize u 38 = u38
  generalize u 39 = u39
  generalize u 40 = u40
  generalize u 41 = u41
  generalize u 42 = u42
  generalize u 43 = u43
  generalize u 44 = u44
  generalize u 45 = u45
  generalize u 46 = u46
  generalize u 47 = u47
  generalize u 48 = u48
  generalize u 49 = u49
  generalize u 50 = u50
  generalize u 51 = u51
  generalize u 52 = u52
  generalize u 53 = u53
  generalize u 54 = u54
  generalize u 55 = u55
  generalize u 56 = u56
  generalize u 57 = u57
  generalize u 58 = u58
  generalize u 59 = u59
  generalize u 60 = u60
  generalize u 61 = u61
  generalize u 62 = u62
  generalize u 63 = u63
  generalize u 64 = u64
  generalize u 65 = u65
  generalize u 66 = u66
  clear u
  have HC := hide hC
  have c0 := box_cell hB 0 rfl
  have c1 := box_cell hB 1 rfl
  have c2 := box_cell hB 2 rfl
  have c3 := box_cell hB 3 rfl
  have c4 := box_cell hB 4 rfl
  have c5 := box_cell hB 5 rfl
  have c6 := box_cell hB 6 rfl
  have c7 := box_cell hB 7 rfl
  have c8 := box_cell hB 8 rfl
  clear hC hB
  simp only [CM.v, CM.cells] at *
  go_wp2_with (go_at_call 8; refine (HC.out _ (Below.refl _ _)).mono ?_; rintro e w1 ⟨rfl, b1⟩)
  exact HQ.out _ _ ⟨rfl, rfl, rfl, rfl, rfl, rfl, rfl, rfl, rfl, rfl, rfl, rfl, rfl⟩ b1
set_option maxHeartbeats 8000000 in
set_option maxRecDepth 100000 in
theorem kd_r7 {K : Act → World → Prop} {c : Code} (hc : regOf (Tryd.f4.body.getD .skip) 7 = some c) (a : Act) {v : Vkd} {wq : World} {b : Nat} {x : CM} {T : ByteArray} {er : Int} (hF : Fkd a v) (h6v : v.v6 = .pointer (some ⟨b, 0, none⟩)) (hB : wq.heap[b]? = some (.cells x.cells 26 (0, 0))) (hC : ∀ W, Below wq.heap.size wq W → Calls Tryd.prog 8 #[x.v] W fun e w' => e = .returned (.tuple #[.string T, .int .i64 er]) ∧ Below W.heap.size W w')
    (hQ : ∀ a' w', Fkd a' { v with v9 := .string T, v10 := .int .i64 er } → Below wq.heap.size wq w' → K a' w') :
    Code.wp Tryd.prog c (Exit.then K fun _ _ _ => False) a wq := by
  have HQ := hide hQ
  clear hQ
  obtain ⟨t', d'⟩ := a
  obtain ⟨v0, v1, v2, v4, v5, v6, v7, v8, v9, v10, v22⟩ := v
  simp only at h6v HQ
  subst h6v
  obtain ⟨hs1, hd1, q0, q1, q2, q4, q5, q6, q7, q8, q9, q10, q22⟩ := hF
  obtain ⟨u, hu⟩ := frame_kd t' hs1
  simp only at hd1 q0 q1 q2 q4 q5 q6 q7 q8 q9 q10 q22
  subst hu hd1
  have e0 : u 0 = v0 := q0
  have e1 : u 1 = v1 := q1
  have e2 : u 2 = v2 := q2
  have e4 : u 4 = v4 := q4
  have e5 : u 5 = v5 := q5
  have e6 : u 6 = .pointer (some ⟨b, 0, none⟩) := q6
  have e7 : u 7 = v7 := q7
  have e8 : u 8 = v8 := q8
  have e9 : u 9 = v9 := q9
  have e10 : u 10 = v10 := q10
  have e22 : u 22 = v22 := q22
  rw [e0, e1, e2, e4, e5, e6, e7, e8, e9, e10, e22]
  clear q0 e0 q1 e1 q2 e2 q4 e4 q5 e5 q6 e6 q7 e7 q8 e8 q9 e9 q10 e10 q22 e22 hs1
  simp only [Tryd.f4, Option.getD_some, regOf] at hc
  injection hc with hc
  subst hc
  generalize u 3 = u3
  generalize u 11 = u11
  generalize u 12 = u12
  generalize u 13 = u13
  generalize u 14 = u14
  generalize u 15 = u15
  generalize u 16 = u16
  generalize u 17 = u17
  generalize u 18 = u18
  generalize u 19 = u19
  generalize u 20 = u20
  generalize u 21 = u21
  generalize u 23 = u23
  generalize u 24 = u24
  generalize u 25 = u25
  generalize u 26 = u26
  generalize u 27 = u27
  generalize u 28 = u28
  generalize u 29 = u29
  generalize u 30 = u30
  generalize u 31 = u31
  generalize u 32 = u32
  generalize u 33 = u33
  generalize u 34 = u34
  generalize u 35 = u35
  generalize u 36 = u36
  generalize u 37 = u37
  generalize u 38 = u38
  generalize u 39 = u39
  generalize u 40 = u40
  generalize u 41 = u41
  generalize u 42 = u42
  generalize u 43 = u43
  generalize u 44 = u44
  generalize u 45 = u45
  generalize u 46 = u46
  generalize u 47 = u47
  generalize u 48 = u48
  generalize u 49 = u49
  generalize u 50 = u50
  generalize u 51 = u51
  generalize u 52 = u52
  generalize u 53 = u53
  generalize u 54 = u54
  generalize u 55 = u55
  generalize u 56 = u56
  generalize u 57 = u57
  generalize u 58 = u58
  generalize u 59 = u59
  generalize u 60 = u60
  generalize u 61 = u61
  generalize u 62 = u62
  generalize u 63 = u63
  generalize u 64 = u64
  generalize u 65 = u65
  generalize u 66 = u66
  clear u
  have HC := hide hC
  have c0 := box_cell hB 0 rfl
  have c1 := box_cell hB 1 rfl
  have c2 := box_cell hB 2 rfl
  have c3 := box_cell hB 3 rfl
  have c4 := box_cell hB 4 rfl
  have c5 := box_cell hB 5 rfl
  have c6 := box_cell hB 6 rfl
  have c7 := box_cell hB 7 rfl
  have c8 := box_cell hB 8 rfl
  clear hC hB
  simp only [CM.v, CM.cells] at *
  go_wp2_with (go_at_call 8; refine (HC.out _ (Below.refl _ _)).mono ?_; rintro e w1 ⟨rfl, b1⟩)
  exact HQ.out _ _ ⟨rfl, rfl, rfl, rfl, rfl, rfl, rfl, rfl, rfl, rfl, rfl, rfl, rfl⟩ b1
set_option maxHeartbeats 8000000 in
set_option maxRecDepth 100000 in
theorem kd_r8 {K : Act → World → Prop} {c : Code} (hc : regOf (Tryd.f4.body.getD .skip) 8 = some c) (a : Act) {v : Vkd} {wq : World} {b : Nat} {cs : Array Value} {xk k : Int} {S T : ByteArray} {kk : Bool} (hF : Fkd a v) (h1v : v.v1 = .int .i64 k) (h2v : v.v2 = .pointer (some ⟨b, 0, none⟩)) (h5v : v.v5 = .bool true) (h7v : v.v7 = .string S) (h8v : v.v8 = .int .i64 0) (h9v : v.v9 = .string T) (h10v : v.v10 = .int .i64 0) (hB : wq.heap[b]? = some (.cells cs 26 (0, 0))) (hcs : cs[0]? = some (.int .i64 xk)) (hs : 1 ≤ S.size) (ht : 1 ≤ T.size) (hl : S.size = T.size) (he : (S.toList == T.toList) = kk) (hk : (xk == k) = kk) (hx : ((S.extract 1 S.size).toList == (T.extract 1 T.size).toList) = true)
    (hQ : ∀ a' w', Fkd a' { v with v4 := .bool true } → Below wq.heap.size wq w' → K a' w') :
    Code.wp Tryd.prog c (Exit.then K fun _ _ _ => False) a wq := by
  have HQ := hide hQ
  clear hQ
  obtain ⟨t', d'⟩ := a
  obtain ⟨v0, v1, v2, v4, v5, v6, v7, v8, v9, v10, v22⟩ := v
  simp only at h1v h2v h5v h7v h8v h9v h10v HQ
  subst h1v h2v h5v h7v h8v h9v h10v
  obtain ⟨hs1, hd1, q0, q1, q2, q4, q5, q6, q7, q8, q9, q10, q22⟩ := hF
  obtain ⟨u, hu⟩ := frame_kd t' hs1
  simp only at hd1 q0 q1 q2 q4 q5 q6 q7 q8 q9 q10 q22
  subst hu hd1
  have e0 : u 0 = v0 := q0
  have e1 : u 1 = .int .i64 k := q1
  have e2 : u 2 = .pointer (some ⟨b, 0, none⟩) := q2
  have e4 : u 4 = v4 := q4
  have e5 : u 5 = .bool true := q5
  have e6 : u 6 = v6 := q6
  have e7 : u 7 = .string S := q7
  have e8 : u 8 = .int .i64 0 := q8
  have e9 : u 9 = .string T := q9
  have e10 : u 10 = .int .i64 0 := q10
  have e22 : u 22 = v22 := q22
  rw [e0, e1, e2, e4, e5, e6, e7, e8, e9, e10, e22]
  clear q0 e0 q1 e1 q2 e2 q4 e4 q5 e5 q6 e6 q7 e7 q8 e8 q9 e9 q10 e10 q22 e22 hs1
  simp only [Tryd.f4, Option.getD_some, regOf] at hc
  injection hc with hc
  subst hc
  generalize u 3 = u3
  generalize u 11 = u11
  generalize u 12 = u12
  generalize u 13 = u13
  generalize u 14 = u14
  generalize u 15 = u15
  generalize u 16 = u16
  generalize u 17 = u17
  generalize u 18 = u18
  generalize u 19 = u19
  generalize u 20 = u20
  generalize u 21 = u21
  generalize u 23 = u23
  generalize u 24 = u24
  generalize u 25 = u25
  generalize u 26 = u26
  generalize u 27 = u27
  generalize u 28 = u28
  generalize u 29 = u29
  generalize u 30 = u30
  generalize u 31 = u31
  generalize u 32 = u32
  generalize u 33 = u33
  generalize u 34 = u34
  generalize u 35 = u35
  generalize u 36 = u36
  generalize u 37 = u37
  generalize u 38 = u38
  generalize u 39 = u39
  generalize u 40 = u40
  generalize u 41 = u41
  generalize u 42 = u42
  generalize u 43 = u43
  generalize u 44 = u44
  generalize u 45 = u45
  generalize u 46 = u46
  generalize u 47 = u47
  generalize u 48 = u48
  generalize u 49 = u49
  generalize u 50 = u50
  generalize u 51 = u51
  generalize u 52 = u52
  generalize u 53 = u53
  generalize u 54 = u54
  generalize u 55 = u55
  generalize u 56 = u56
  generalize u 57 = u57
  generalize u 58 = u58
  generalize u 59 = u59
  generalize u 60 = u60
  generalize u 61 = u61
  generalize u 62 = u62
  generalize u 63 = u63
  generalize u 64 = u64
  generalize u 65 = u65
  generalize u 66 = u66
  clear u
  have e1 : ((S.size : Int) == (T.size : Int)) = true := by rw [beq_iff_eq]; omega
  have e3 : (1 : Int) ≤ (S.size : Int) := by omega
  have e4 : (1 : Int) ≤ (T.size : Int) := by omega
  clear hl
  refine wp_region_phi (by kernel_rfl) (ns := 67) (uses := (fun i => match i with | 0 => [34] | 1 => [35] | 2 => [36] | 3 => [37] | 4 => [38] | 5 => [39] | 6 => [40] | 7 => [41] | 8 => [42] | 9 => [43] | 10 => [44] | 11 => [45] | 12 => [46] | 13 => [47] | 14 => [48] | 15 => [49] | 16 => [50] | 17 => [51] | 18 => [52] | 19 => [53] | 20 => [54] | 21 => [55] | 22 => [56] | 23 => [57] | 24 => [58] | 25 => [59] | 26 => [60] | 27 => [61] | 28 => [62] | 29 => [63] | 30 => [64] | 31 => [65] | 32 => [66] | 33 => [4] | _ => [])) (by kernel_rfl) (by kernel_rfl) (fun _ w w' => Below w.heap.size w w') (fun w => Below wq.heap.size wq w) (fun _ _ _ h r => h.trans (r.mono h.size)) ((Below.refl _ _).drew) (fun i => match i with | 0 => fun s w => s 34 = .bool true | 1 => fun s w => s 35 = .bool true | 2 => fun s w => s 36 = .int .i64 0 | 3 => fun s w => s 37 = .bool true | 4 => fun s w => s 38 = .bool true | 5 => fun s w => s 39 = .bool true | 6 => fun s w => s 40 = .int .i64 0 | 7 => fun s w => s 41 = .bool true | 8 => fun s w => s 42 = .bool true | 9 => fun s w => s 43 = .bool true | 10 => fun s w => s 44 = .string S | 11 => fun s w => s 45 = .int .i64 (S.size : Int) | 12 => fun s w => s 46 = .string T | 13 => fun s w => s 47 = .int .i64 (T.size : Int) | 14 => fun s w => s 48 = .bool true | 15 => fun s w => s 49 = .bool true | 16 => fun s w => s 50 = .bool true | 17 => fun s w => s 51 = .string S | 18 => fun s w => s 52 = .string T | 19 => fun s w => s 53 = .bool kk | 20 => fun s w => s 54 = .pointer (some ⟨b, 0, none⟩) | 21 => fun s w => s 55 = .int .i64 xk | 22 => fun s w => s 56 = .int .i64 k | 23 => fun s w => s 57 = .bool kk | 24 => fun s w => s 58 = .bool true | 25 => fun s w => s 59 = .bool true | 26 => fun s w => s 60 = .bool true | 27 => fun s w => s 61 = .string S | 28 => fun s w => s 62 = .string (S.extract 1 S.size) | 29 => fun s w => s 63 = .string T | 30 => fun s w => s 64 = .string (T.extract 1 T.size) | 31 => fun s w => s 65 = .bool true | 32 => fun s w => s 66 = .bool true | 33 => fun s w => s 4 = .bool true | _ => fun _ _ => True) ?phc ?phh ?pstep ?pdone
  case phc =>
    intro i s s' w hx h
    match i, hx, h with
    | 0, hx, h =>
      have e34 := hx 34 (by simp)
      first | exact (show _ from by simp only [← e34] at *; exact h) | (simp only [e34] at h; exact h)
    | 1, hx, h =>
      have e35 := hx 35 (by simp)
      first | exact (show _ from by simp only [← e35] at *; exact h) | (simp only [e35] at h; exact h)
    | 2, hx, h =>
      have e36 := hx 36 (by simp)
      first | exact (show _ from by simp only [← e36] at *; exact h) | (simp only [e36] at h; exact h)
    | 3, hx, h =>
      have e37 := hx 37 (by simp)
      first | exact (show _ from by simp only [← e37] at *; exact h) | (simp only [e37] at h; exact h)
    | 4, hx, h =>
      have e38 := hx 38 (by simp)
      first | exact (show _ from by simp only [← e38] at *; exact h) | (simp only [e38] at h; exact h)
    | 5, hx, h =>
      have e39 := hx 39 (by simp)
      first | exact (show _ from by simp only [← e39] at *; exact h) | (simp only [e39] at h; exact h)
    | 6, hx, h =>
      have e40 := hx 40 (by simp)
      first | exact (show _ from by simp only [← e40] at *; exact h) | (simp only [e40] at h; exact h)
    | 7, hx, h =>
      have e41 := hx 41 (by simp)
      first | exact (show _ from by simp only [← e41] at *; exact h) | (simp only [e41] at h; exact h)
    | 8, hx, h =>
      have e42 := hx 42 (by simp)
      first | exact (show _ from by simp only [← e42] at *; exact h) | (simp only [e42] at h; exact h)
    | 9, hx, h =>
      have e43 := hx 43 (by simp)
      first | exact (show _ from by simp only [← e43] at *; exact h) | (simp only [e43] at h; exact h)
    | 10, hx, h =>
      have e44 := hx 44 (by simp)
      first | exact (show _ from by simp only [← e44] at *; exact h) | (simp only [e44] at h; exact h)
    | 11, hx, h =>
      have e45 := hx 45 (by simp)
      first | exact (show _ from by simp only [← e45] at *; exact h) | (simp only [e45] at h; exact h)
    | 12, hx, h =>
      have e46 := hx 46 (by simp)
      first | exact (show _ from by simp only [← e46] at *; exact h) | (simp only [e46] at h; exact h)
    | 13, hx, h =>
      have e47 := hx 47 (by simp)
      first | exact (show _ from by simp only [← e47] at *; exact h) | (simp only [e47] at h; exact h)
    | 14, hx, h =>
      have e48 := hx 48 (by simp)
      first | exact (show _ from by simp only [← e48] at *; exact h) | (simp only [e48] at h; exact h)
    | 15, hx, h =>
      have e49 := hx 49 (by simp)
      first | exact (show _ from by simp only [← e49] at *; exact h) | (simp only [e49] at h; exact h)
    | 16, hx, h =>
      have e50 := hx 50 (by simp)
      first | exact (show _ from by simp only [← e50] at *; exact h) | (simp only [e50] at h; exact h)
    | 17, hx, h =>
      have e51 := hx 51 (by simp)
      first | exact (show _ from by simp only [← e51] at *; exact h) | (simp only [e51] at h; exact h)
    | 18, hx, h =>
      have e52 := hx 52 (by simp)
      first | exact (show _ from by simp only [← e52] at *; exact h) | (simp only [e52] at h; exact h)
    | 19, hx, h =>
      have e53 := hx 53 (by simp)
      first | exact (show _ from by simp only [← e53] at *; exact h) | (simp only [e53] at h; exact h)
    | 20, hx, h =>
      have e54 := hx 54 (by simp)
      first | exact (show _ from by simp only [← e54] at *; exact h) | (simp only [e54] at h; exact h)
    | 21, hx, h =>
      have e55 := hx 55 (by simp)
      first | exact (show _ from by simp only [← e55] at *; exact h) | (simp only [e55] at h; exact h)
    | 22, hx, h =>
      have e56 := hx 56 (by simp)
      first | exact (show _ from by simp only [← e56] at *; exact h) | (simp only [e56] at h; exact h)
    | 23, hx, h =>
      have e57 := hx 57 (by simp)
      first | exact (show _ from by simp only [← e57] at *; exact h) | (simp only [e57] at h; exact h)
    | 24, hx, h =>
      have e58 := hx 58 (by simp)
      first | exact (show _ from by simp only [← e58] at *; exact h) | (simp only [e58] at h; exact h)
    | 25, hx, h =>
      have e59 := hx 59 (by simp)
      first | exact (show _ from by simp only [← e59] at *; exact h) | (simp only [e59] at h; exact h)
    | 26, hx, h =>
      have e60 := hx 60 (by simp)
      first | exact (show _ from by simp only [← e60] at *; exact h) | (simp only [e60] at h; exact h)
    | 27, hx, h =>
      have e61 := hx 61 (by simp)
      first | exact (show _ from by simp only [← e61] at *; exact h) | (simp only [e61] at h; exact h)
    | 28, hx, h =>
      have e62 := hx 62 (by simp)
      first | exact (show _ from by simp only [← e62] at *; exact h) | (simp only [e62] at h; exact h)
    | 29, hx, h =>
      have e63 := hx 63 (by simp)
      first | exact (show _ from by simp only [← e63] at *; exact h) | (simp only [e63] at h; exact h)
    | 30, hx, h =>
      have e64 := hx 64 (by simp)
      first | exact (show _ from by simp only [← e64] at *; exact h) | (simp only [e64] at h; exact h)
    | 31, hx, h =>
      have e65 := hx 65 (by simp)
      first | exact (show _ from by simp only [← e65] at *; exact h) | (simp only [e65] at h; exact h)
    | 32, hx, h =>
      have e66 := hx 66 (by simp)
      first | exact (show _ from by simp only [← e66] at *; exact h) | (simp only [e66] at h; exact h)
    | 33, hx, h =>
      have e4 := hx 4 (by simp)
      first | exact (show _ from by simp only [← e4] at *; exact h) | (simp only [e4] at h; exact h)
    | (n + 34), _, h => exact h
  case phh =>
    intro i j s w w' hij h hb r
    match i, hij, h with
    | 0, hij, h =>
      exact h
    | 1, hij, h =>
      exact h
    | 2, hij, h =>
      exact h
    | 3, hij, h =>
      exact h
    | 4, hij, h =>
      exact h
    | 5, hij, h =>
      exact h
    | 6, hij, h =>
      exact h
    | 7, hij, h =>
      exact h
    | 8, hij, h =>
      exact h
    | 9, hij, h =>
      exact h
    | 10, hij, h =>
      exact h
    | 11, hij, h =>
      exact h
    | 12, hij, h =>
      exact h
    | 13, hij, h =>
      exact h
    | 14, hij, h =>
      exact h
    | 15, hij, h =>
      exact h
    | 16, hij, h =>
      exact h
    | 17, hij, h =>
      exact h
    | 18, hij, h =>
      exact h
    | 19, hij, h =>
      exact h
    | 20, hij, h =>
      exact h
    | 21, hij, h =>
      exact h
    | 22, hij, h =>
      exact h
    | 23, hij, h =>
      exact h
    | 24, hij, h =>
      exact h
    | 25, hij, h =>
      exact h
    | 26, hij, h =>
      exact h
    | 27, hij, h =>
      exact h
    | 28, hij, h =>
      exact h
    | 29, hij, h =>
      exact h
    | 30, hij, h =>
      exact h
    | 31, hij, h =>
      exact h
    | 32, hij, h =>
      exact h
    | 33, hij, h =>
      exact h
    | (n + 34), _, h => exact h
  case pstep =>
    intro i o ho a' w' hsa hb hd
    match i, ho with
    | 0, ho =>
      obtain rfl := Option.some.inj ho
      try dsimp only at hd
      have g5 : a'.tmps.getD 5 undef = .bool true := hsa.rest 5 (by rfl)
      refine wpOp_of rfl rfl ?_
      refine op_run (v := .bool true) (w' := w') ?_ ⟨_, rfl, ?_, ?_⟩
      · simp only [execOp, Act.eval, List.map_toArray, List.map_cons, List.map_nil, g5]; first | (go_simp; done) | rfl
      · try dsimp only
        exact (slots_put (ns := 67) (hsa.size.trans rfl) (by decide))
      · exact Below.refl _ _
    | 1, ho =>
      obtain rfl := Option.some.inj ho
      try dsimp only at hd
      have d0 : a'.tmps.getD 34 undef = .bool true := hd 0 (by rfl)
      refine wpOp_of rfl rfl ?_
      refine op_run (v := .bool true) (w' := w') ?_ ⟨_, rfl, ?_, ?_⟩
      · simp only [execOp, Act.eval, List.map_toArray, List.map_cons, List.map_nil, d0]; first | (go_simp; done) | rfl
      · try dsimp only
        exact (slots_put (ns := 67) (hsa.size.trans rfl) (by decide))
      · exact Below.refl _ _
    | 2, ho =>
      obtain rfl := Option.some.inj ho
      try dsimp only at hd
      have d1 : a'.tmps.getD 35 undef = .bool true := hd 1 (by rfl)
      have g8 : a'.tmps.getD 8 undef = .int .i64 0 := hsa.rest 8 (by rfl)
      refine wpOp_on (j := 1) (dj := 35) rfl rfl rfl d1 ?_
      refine op_run (v := .int .i64 0) (w' := w') ?_ ⟨_, rfl, ?_, ?_⟩
      · simp only [execOp, Act.eval, List.map_toArray, List.map_cons, List.map_nil, d1, g8]; first | (go_simp; done) | rfl
      · try dsimp only
        exact (slots_put (ns := 67) (hsa.size.trans rfl) (by decide))
      · exact Below.refl _ _
    | 3, ho =>
      obtain rfl := Option.some.inj ho
      try dsimp only at hd
      have d1 : a'.tmps.getD 35 undef = .bool true := hd 1 (by rfl)
      have d2 : a'.tmps.getD 36 undef = .int .i64 0 := hd 2 (by rfl)
      refine wpOp_on (j := 1) (dj := 35) rfl rfl rfl d1 ?_
      refine op_run (v := .bool true) (w' := w') ?_ ⟨_, rfl, ?_, ?_⟩
      · simp only [execOp, Act.eval, List.map_toArray, List.map_cons, List.map_nil, d1, d2]; first | (go_simp; done) | rfl
      · try dsimp only
        exact (slots_put (ns := 67) (hsa.size.trans rfl) (by decide))
      · exact Below.refl _ _
    | 4, ho =>
      obtain rfl := Option.some.inj ho
      try dsimp only at hd
      have d1 : a'.tmps.getD 35 undef = .bool true := hd 1 (by rfl)
      have d3 : a'.tmps.getD 37 undef = .bool true := hd 3 (by rfl)
      refine wpOp_of rfl rfl ?_
      refine op_run (v := .bool true) (w' := w') ?_ ⟨_, rfl, ?_, ?_⟩
      · simp only [execOp, Act.eval, List.map_toArray, List.map_cons, List.map_nil, d1, d3]; first | (go_simp; done) | rfl
      · try dsimp only
        exact (slots_put (ns := 67) (hsa.size.trans rfl) (by decide))
      · exact Below.refl _ _
    | 5, ho =>
      obtain rfl := Option.some.inj ho
      try dsimp only at hd
      have d4 : a'.tmps.getD 38 undef = .bool true := hd 4 (by rfl)
      refine wpOp_of rfl rfl ?_
      refine op_run (v := .bool true) (w' := w') ?_ ⟨_, rfl, ?_, ?_⟩
      · simp only [execOp, Act.eval, List.map_toArray, List.map_cons, List.map_nil, d4]; first | (go_simp; done) | rfl
      · try dsimp only
        exact (slots_put (ns := 67) (hsa.size.trans rfl) (by decide))
      · exact Below.refl _ _
    | 6, ho =>
      obtain rfl := Option.some.inj ho
      try dsimp only at hd
      have d5 : a'.tmps.getD 39 undef = .bool true := hd 5 (by rfl)
      have g10 : a'.tmps.getD 10 undef = .int .i64 0 := hsa.rest 10 (by rfl)
      refine wpOp_on (j := 5) (dj := 39) rfl rfl rfl d5 ?_
      refine op_run (v := .int .i64 0) (w' := w') ?_ ⟨_, rfl, ?_, ?_⟩
      · simp only [execOp, Act.eval, List.map_toArray, List.map_cons, List.map_nil, d5, g10]; first | (go_simp; done) | rfl
      · try dsimp only
        exact (slots_put (ns := 67) (hsa.size.trans rfl) (by decide))
      · exact Below.refl _ _
    | 7, ho =>
      obtain rfl := Option.some.inj ho
      try dsimp only at hd
      have d5 : a'.tmps.getD 39 undef = .bool true := hd 5 (by rfl)
      have d6 : a'.tmps.getD 40 undef = .int .i64 0 := hd 6 (by rfl)
      refine wpOp_on (j := 5) (dj := 39) rfl rfl rfl d5 ?_
      refine op_run (v := .bool true) (w' := w') ?_ ⟨_, rfl, ?_, ?_⟩
      · simp only [execOp, Act.eval, List.map_toArray, List.map_cons, List.map_nil, d5, d6]; first | (go_simp; done) | rfl
      · try dsimp only
        exact (slots_put (ns := 67) (hsa.size.trans rfl) (by decide))
      · exact Below.refl _ _
    | 8, ho =>
      obtain rfl := Option.some.inj ho
      try dsimp only at hd
      have d5 : a'.tmps.getD 39 undef = .bool true := hd 5 (by rfl)
      have d7 : a'.tmps.getD 41 undef = .bool true := hd 7 (by rfl)
      refine wpOp_of rfl rfl ?_
      refine op_run (v := .bool true) (w' := w') ?_ ⟨_, rfl, ?_, ?_⟩
      · simp only [execOp, Act.eval, List.map_toArray, List.map_cons, List.map_nil, d5, d7]; first | (go_simp; done) | rfl
      · try dsimp only
        exact (slots_put (ns := 67) (hsa.size.trans rfl) (by decide))
      · exact Below.refl _ _
    | 9, ho =>
      obtain rfl := Option.some.inj ho
      try dsimp only at hd
      have d8 : a'.tmps.getD 42 undef = .bool true := hd 8 (by rfl)
      refine wpOp_of rfl rfl ?_
      refine op_run (v := .bool true) (w' := w') ?_ ⟨_, rfl, ?_, ?_⟩
      · simp only [execOp, Act.eval, List.map_toArray, List.map_cons, List.map_nil, d8]; first | (go_simp; done) | rfl
      · try dsimp only
        exact (slots_put (ns := 67) (hsa.size.trans rfl) (by decide))
      · exact Below.refl _ _
    | 10, ho =>
      obtain rfl := Option.some.inj ho
      try dsimp only at hd
      have d9 : a'.tmps.getD 43 undef = .bool true := hd 9 (by rfl)
      have g7 : a'.tmps.getD 7 undef = .string S := hsa.rest 7 (by rfl)
      refine wpOp_on (j := 9) (dj := 43) rfl rfl rfl d9 ?_
      refine op_run (v := .string S) (w' := w') ?_ ⟨_, rfl, ?_, ?_⟩
      · simp only [execOp, Act.eval, List.map_toArray, List.map_cons, List.map_nil, d9, g7]; first | (go_simp; done) | rfl
      · try dsimp only
        exact (slots_put (ns := 67) (hsa.size.trans rfl) (by decide))
      · exact Below.refl _ _
    | 11, ho =>
      obtain rfl := Option.some.inj ho
      try dsimp only at hd
      have d9 : a'.tmps.getD 43 undef = .bool true := hd 9 (by rfl)
      have d10 : a'.tmps.getD 44 undef = .string S := hd 10 (by rfl)
      refine wpOp_on (j := 9) (dj := 43) rfl rfl rfl d9 ?_
      refine op_run (v := .int .i64 (S.size : Int)) (w' := w') ?_ ⟨_, rfl, ?_, ?_⟩
      · simp only [execOp, Act.eval, List.map_toArray, List.map_cons, List.map_nil, d9, d10]; first | (go_simp; done) | rfl
      · try dsimp only
        exact (slots_put (ns := 67) (hsa.size.trans rfl) (by decide))
      · exact Below.refl _ _
    | 12, ho =>
      obtain rfl := Option.some.inj ho
      try dsimp only at hd
      have d9 : a'.tmps.getD 43 undef = .bool true := hd 9 (by rfl)
      have g9 : a'.tmps.getD 9 undef = .string T := hsa.rest 9 (by rfl)
      refine wpOp_on (j := 9) (dj := 43) rfl rfl rfl d9 ?_
      refine op_run (v := .string T) (w' := w') ?_ ⟨_, rfl, ?_, ?_⟩
      · simp only [execOp, Act.eval, List.map_toArray, List.map_cons, List.map_nil, d9, g9]; first | (go_simp; done) | rfl
      · try dsimp only
        exact (slots_put (ns := 67) (hsa.size.trans rfl) (by decide))
      · exact Below.refl _ _
    | 13, ho =>
      obtain rfl := Option.some.inj ho
      try dsimp only at hd
      have d9 : a'.tmps.getD 43 undef = .bool true := hd 9 (by rfl)
      have d12 : a'.tmps.getD 46 undef = .string T := hd 12 (by rfl)
      refine wpOp_on (j := 9) (dj := 43) rfl rfl rfl d9 ?_
      refine op_run (v := .int .i64 (T.size : Int)) (w' := w') ?_ ⟨_, rfl, ?_, ?_⟩
      · simp only [execOp, Act.eval, List.map_toArray, List.map_cons, List.map_nil, d9, d12]; first | (go_simp; done) | rfl
      · try dsimp only
        exact (slots_put (ns := 67) (hsa.size.trans rfl) (by decide))
      · exact Below.refl _ _
    | 14, ho =>
      obtain rfl := Option.some.inj ho
      try dsimp only at hd
      have d9 : a'.tmps.getD 43 undef = .bool true := hd 9 (by rfl)
      have d11 : a'.tmps.getD 45 undef = .int .i64 (S.size : Int) := hd 11 (by rfl)
      have d13 : a'.tmps.getD 47 undef = .int .i64 (T.size : Int) := hd 13 (by rfl)
      refine wpOp_on (j := 9) (dj := 43) rfl rfl rfl d9 ?_
      refine op_run (v := .bool true) (w' := w') ?_ ⟨_, rfl, ?_, ?_⟩
      · simp only [execOp, Act.eval, List.map_toArray, List.map_cons, List.map_nil, d9, d11, d13]; first | (go_simp; done) | rfl
      · try dsimp only
        exact (slots_put (ns := 67) (hsa.size.trans rfl) (by decide))
      · exact Below.refl _ _
    | 15, ho =>
      obtain rfl := Option.some.inj ho
      try dsimp only at hd
      have d9 : a'.tmps.getD 43 undef = .bool true := hd 9 (by rfl)
      have d14 : a'.tmps.getD 48 undef = .bool true := hd 14 (by rfl)
      refine wpOp_of rfl rfl ?_
      refine op_run (v := .bool true) (w' := w') ?_ ⟨_, rfl, ?_, ?_⟩
      · simp only [execOp, Act.eval, List.map_toArray, List.map_cons, List.map_nil, d9, d14]; first | (go_simp; done) | rfl
      · try dsimp only
        exact (slots_put (ns := 67) (hsa.size.trans rfl) (by decide))
      · exact Below.refl _ _
    | 16, ho =>
      obtain rfl := Option.some.inj ho
      try dsimp only at hd
      have d15 : a'.tmps.getD 49 undef = .bool true := hd 15 (by rfl)
      refine wpOp_of rfl rfl ?_
      refine op_run (v := .bool true) (w' := w') ?_ ⟨_, rfl, ?_, ?_⟩
      · simp only [execOp, Act.eval, List.map_toArray, List.map_cons, List.map_nil, d15]; first | (go_simp; done) | rfl
      · try dsimp only
        exact (slots_put (ns := 67) (hsa.size.trans rfl) (by decide))
      · exact Below.refl _ _
    | 17, ho =>
      obtain rfl := Option.some.inj ho
      try dsimp only at hd
      have d16 : a'.tmps.getD 50 undef = .bool true := hd 16 (by rfl)
      have g7 : a'.tmps.getD 7 undef = .string S := hsa.rest 7 (by rfl)
      refine wpOp_on (j := 16) (dj := 50) rfl rfl rfl d16 ?_
      refine op_run (v := .string S) (w' := w') ?_ ⟨_, rfl, ?_, ?_⟩
      · simp only [execOp, Act.eval, List.map_toArray, List.map_cons, List.map_nil, d16, g7]; first | (go_simp; done) | rfl
      · try dsimp only
        exact (slots_put (ns := 67) (hsa.size.trans rfl) (by decide))
      · exact Below.refl _ _
    | 18, ho =>
      obtain rfl := Option.some.inj ho
      try dsimp only at hd
      have d16 : a'.tmps.getD 50 undef = .bool true := hd 16 (by rfl)
      have g9 : a'.tmps.getD 9 undef = .string T := hsa.rest 9 (by rfl)
      refine wpOp_on (j := 16) (dj := 50) rfl rfl rfl d16 ?_
      refine op_run (v := .string T) (w' := w') ?_ ⟨_, rfl, ?_, ?_⟩
      · simp only [execOp, Act.eval, List.map_toArray, List.map_cons, List.map_nil, d16, g9]; first | (go_simp; done) | rfl
      · try dsimp only
        exact (slots_put (ns := 67) (hsa.size.trans rfl) (by decide))
      · exact Below.refl _ _
    | 19, ho =>
      obtain rfl := Option.some.inj ho
      try dsimp only at hd
      have d16 : a'.tmps.getD 50 undef = .bool true := hd 16 (by rfl)
      have d17 : a'.tmps.getD 51 undef = .string S := hd 17 (by rfl)
      have d18 : a'.tmps.getD 52 undef = .string T := hd 18 (by rfl)
      refine wpOp_on (j := 16) (dj := 50) rfl rfl rfl d16 ?_
      refine op_run (v := .bool kk) (w' := w') ?_ ⟨_, rfl, ?_, ?_⟩
      · simp only [execOp, Act.eval, List.map_toArray, List.map_cons, List.map_nil, d16, d17, d18]; first | (go_simp; done) | rfl
      · try dsimp only
        exact (slots_put (ns := 67) (hsa.size.trans rfl) (by decide))
      · exact Below.refl _ _
    | 20, ho =>
      obtain rfl := Option.some.inj ho
      try dsimp only at hd
      have d16 : a'.tmps.getD 50 undef = .bool true := hd 16 (by rfl)
      have g2 : a'.tmps.getD 2 undef = .pointer (some ⟨b, 0, none⟩) := hsa.rest 2 (by rfl)
      refine wpOp_on (j := 16) (dj := 50) rfl rfl rfl d16 ?_
      refine op_run (v := .pointer (some ⟨b, 0, none⟩)) (w' := w') ?_ ⟨_, rfl, ?_, ?_⟩
      · simp only [execOp, Act.eval, List.map_toArray, List.map_cons, List.map_nil, d16, g2]; first | (go_simp; done) | rfl
      · try dsimp only
        exact (slots_put (ns := 67) (hsa.size.trans rfl) (by decide))
      · exact Below.refl _ _
    | 21, ho =>
      obtain rfl := Option.some.inj ho
      try dsimp only at hd
      have d16 : a'.tmps.getD 50 undef = .bool true := hd 16 (by rfl)
      have d20 : a'.tmps.getD 54 undef = .pointer (some ⟨b, 0, none⟩) := hd 20 (by rfl)
      have y : w'.cell? ⟨b, 0, none⟩ = some (.int .i64 xk) := (hb.cell (p := ⟨b, 0, none⟩) (heap_lt hB)).trans (box_cell hB 0 hcs)
      refine wpOp_on (j := 16) (dj := 50) rfl rfl rfl d16 ?_
      refine op_run (v := .int .i64 xk) (w' := w') ?_ ⟨_, rfl, ?_, ?_⟩
      · simp only [execOp, Act.eval, List.map_toArray, List.map_cons, List.map_nil, d16, d20, y]; first | (go_simp; done) | rfl
      · try dsimp only
        exact (slots_put (ns := 67) (hsa.size.trans rfl) (by decide))
      · exact Below.refl _ _
    | 22, ho =>
      obtain rfl := Option.some.inj ho
      try dsimp only at hd
      have d16 : a'.tmps.getD 50 undef = .bool true := hd 16 (by rfl)
      have g1 : a'.tmps.getD 1 undef = .int .i64 k := hsa.rest 1 (by rfl)
      refine wpOp_on (j := 16) (dj := 50) rfl rfl rfl d16 ?_
      refine op_run (v := .int .i64 k) (w' := w') ?_ ⟨_, rfl, ?_, ?_⟩
      · simp only [execOp, Act.eval, List.map_toArray, List.map_cons, List.map_nil, d16, g1]; first | (go_simp; done) | rfl
      · try dsimp only
        exact (slots_put (ns := 67) (hsa.size.trans rfl) (by decide))
      · exact Below.refl _ _
    | 23, ho =>
      obtain rfl := Option.some.inj ho
      try dsimp only at hd
      have d16 : a'.tmps.getD 50 undef = .bool true := hd 16 (by rfl)
      have d21 : a'.tmps.getD 55 undef = .int .i64 xk := hd 21 (by rfl)
      have d22 : a'.tmps.getD 56 undef = .int .i64 k := hd 22 (by rfl)
      refine wpOp_on (j := 16) (dj := 50) rfl rfl rfl d16 ?_
      refine op_run (v := .bool kk) (w' := w') ?_ ⟨_, rfl, ?_, ?_⟩
      · simp only [execOp, Act.eval, List.map_toArray, List.map_cons, List.map_nil, d16, d21, d22]; first | (go_simp; done) | rfl
      · try dsimp only
        exact (slots_put (ns := 67) (hsa.size.trans rfl) (by decide))
      · exact Below.refl _ _
    | 24, ho =>
      obtain rfl := Option.some.inj ho
      try dsimp only at hd
      have d16 : a'.tmps.getD 50 undef = .bool true := hd 16 (by rfl)
      have d19 : a'.tmps.getD 53 undef = .bool kk := hd 19 (by rfl)
      have d23 : a'.tmps.getD 57 undef = .bool kk := hd 23 (by rfl)
      refine wpOp_on (j := 16) (dj := 50) rfl rfl rfl d16 ?_
      refine op_run (v := .bool true) (w' := w') ?_ ⟨_, rfl, ?_, ?_⟩
      · simp only [execOp, Act.eval, List.map_toArray, List.map_cons, List.map_nil, d16, d19, d23]; first | (go_simp; done) | rfl
      · try dsimp only
        exact (slots_put (ns := 67) (hsa.size.trans rfl) (by decide))
      · exact Below.refl _ _
    | 25, ho =>
      obtain rfl := Option.some.inj ho
      try dsimp only at hd
      have d16 : a'.tmps.getD 50 undef = .bool true := hd 16 (by rfl)
      have d24 : a'.tmps.getD 58 undef = .bool true := hd 24 (by rfl)
      refine wpOp_of rfl rfl ?_
      refine op_run (v := .bool true) (w' := w') ?_ ⟨_, rfl, ?_, ?_⟩
      · simp only [execOp, Act.eval, List.map_toArray, List.map_cons, List.map_nil, d16, d24]; first | (go_simp; done) | rfl
      · try dsimp only
        exact (slots_put (ns := 67) (hsa.size.trans rfl) (by decide))
      · exact Below.refl _ _
    | 26, ho =>
      obtain rfl := Option.some.inj ho
      try dsimp only at hd
      have d25 : a'.tmps.getD 59 undef = .bool true := hd 25 (by rfl)
      refine wpOp_of rfl rfl ?_
      refine op_run (v := .bool true) (w' := w') ?_ ⟨_, rfl, ?_, ?_⟩
      · simp only [execOp, Act.eval, List.map_toArray, List.map_cons, List.map_nil, d25]; first | (go_simp; done) | rfl
      · try dsimp only
        exact (slots_put (ns := 67) (hsa.size.trans rfl) (by decide))
      · exact Below.refl _ _
    | 27, ho =>
      obtain rfl := Option.some.inj ho
      try dsimp only at hd
      have d26 : a'.tmps.getD 60 undef = .bool true := hd 26 (by rfl)
      have g7 : a'.tmps.getD 7 undef = .string S := hsa.rest 7 (by rfl)
      refine wpOp_on (j := 26) (dj := 60) rfl rfl rfl d26 ?_
      refine op_run (v := .string S) (w' := w') ?_ ⟨_, rfl, ?_, ?_⟩
      · simp only [execOp, Act.eval, List.map_toArray, List.map_cons, List.map_nil, d26, g7]; first | (go_simp; done) | rfl
      · try dsimp only
        exact (slots_put (ns := 67) (hsa.size.trans rfl) (by decide))
      · exact Below.refl _ _
    | 28, ho =>
      obtain rfl := Option.some.inj ho
      try dsimp only at hd
      have d26 : a'.tmps.getD 60 undef = .bool true := hd 26 (by rfl)
      have d27 : a'.tmps.getD 61 undef = .string S := hd 27 (by rfl)
      refine wpOp_on (j := 26) (dj := 60) rfl rfl rfl d26 ?_
      refine op_run (v := .string (S.extract 1 S.size)) (w' := w') ?_ ⟨_, rfl, ?_, ?_⟩
      · simp only [execOp, Act.eval, List.map_toArray, List.map_cons, List.map_nil, d26, d27]; first | (go_simp; done) | rfl
      · try dsimp only
        exact (slots_put (ns := 67) (hsa.size.trans rfl) (by decide))
      · exact Below.refl _ _
    | 29, ho =>
      obtain rfl := Option.some.inj ho
      try dsimp only at hd
      have d26 : a'.tmps.getD 60 undef = .bool true := hd 26 (by rfl)
      have g9 : a'.tmps.getD 9 undef = .string T := hsa.rest 9 (by rfl)
      refine wpOp_on (j := 26) (dj := 60) rfl rfl rfl d26 ?_
      refine op_run (v := .string T) (w' := w') ?_ ⟨_, rfl, ?_, ?_⟩
      · simp only [execOp, Act.eval, List.map_toArray, List.map_cons, List.map_nil, d26, g9]; first | (go_simp; done) | rfl
      · try dsimp only
        exact (slots_put (ns := 67) (hsa.size.trans rfl) (by decide))
      · exact Below.refl _ _
    | 30, ho =>
      obtain rfl := Option.some.inj ho
      try dsimp only at hd
      have d26 : a'.tmps.getD 60 undef = .bool true := hd 26 (by rfl)
      have d29 : a'.tmps.getD 63 undef = .string T := hd 29 (by rfl)
      refine wpOp_on (j := 26) (dj := 60) rfl rfl rfl d26 ?_
      refine op_run (v := .string (T.extract 1 T.size)) (w' := w') ?_ ⟨_, rfl, ?_, ?_⟩
      · simp only [execOp, Act.eval, List.map_toArray, List.map_cons, List.map_nil, d26, d29]; first | (go_simp; done) | rfl
      · try dsimp only
        exact (slots_put (ns := 67) (hsa.size.trans rfl) (by decide))
      · exact Below.refl _ _
    | 31, ho =>
      obtain rfl := Option.some.inj ho
      try dsimp only at hd
      have d26 : a'.tmps.getD 60 undef = .bool true := hd 26 (by rfl)
      have d28 : a'.tmps.getD 62 undef = .string (S.extract 1 S.size) := hd 28 (by rfl)
      have d30 : a'.tmps.getD 64 undef = .string (T.extract 1 T.size) := hd 30 (by rfl)
      refine wpOp_on (j := 26) (dj := 60) rfl rfl rfl d26 ?_
      refine op_run (v := .bool true) (w' := w') ?_ ⟨_, rfl, ?_, ?_⟩
      · simp only [execOp, Act.eval, List.map_toArray, List.map_cons, List.map_nil, d26, d28, d30]; first | (go_simp; done) | rfl
      · try dsimp only
        exact (slots_put (ns := 67) (hsa.size.trans rfl) (by decide))
      · exact Below.refl _ _
    | 32, ho =>
      obtain rfl := Option.some.inj ho
      try dsimp only at hd
      have d26 : a'.tmps.getD 60 undef = .bool true := hd 26 (by rfl)
      have d31 : a'.tmps.getD 65 undef = .bool true := hd 31 (by rfl)
      refine wpOp_of rfl rfl ?_
      refine op_run (v := .bool true) (w' := w') ?_ ⟨_, rfl, ?_, ?_⟩
      · simp only [execOp, Act.eval, List.map_toArray, List.map_cons, List.map_nil, d26, d31]; first | (go_simp; done) | rfl
      · try dsimp only
        exact (slots_put (ns := 67) (hsa.size.trans rfl) (by decide))
      · exact Below.refl _ _
    | 33, ho =>
      obtain rfl := Option.some.inj ho
      try dsimp only at hd
      have d32 : a'.tmps.getD 66 undef = .bool true := hd 32 (by rfl)
      refine wpOp_of rfl rfl ?_
      refine op_run (v := .bool true) (w' := w') ?_ ⟨_, rfl, ?_, ?_⟩
      · simp only [execOp, Act.eval, List.map_toArray, List.map_cons, List.map_nil, d32]; first | (go_simp; done) | rfl
      · try dsimp only
        exact (slots_put (ns := 67) (hsa.size.trans rfl) (by decide))
      · exact Below.refl _ _
    | (n + 34), ho => exact absurd ho (by simp)
  case pdone =>
    intro a' w' hsa hb hd
    have d0 : a'.tmps.getD 34 undef = .bool true := hd 0 (by decide)
    have d1 : a'.tmps.getD 35 undef = .bool true := hd 1 (by decide)
    have d2 : a'.tmps.getD 36 undef = .int .i64 0 := hd 2 (by decide)
    have d3 : a'.tmps.getD 37 undef = .bool true := hd 3 (by decide)
    have d4 : a'.tmps.getD 38 undef = .bool true := hd 4 (by decide)
    have d5 : a'.tmps.getD 39 undef = .bool true := hd 5 (by decide)
    have d6 : a'.tmps.getD 40 undef = .int .i64 0 := hd 6 (by decide)
    have d7 : a'.tmps.getD 41 undef = .bool true := hd 7 (by decide)
    have d8 : a'.tmps.getD 42 undef = .bool true := hd 8 (by decide)
    have d9 : a'.tmps.getD 43 undef = .bool true := hd 9 (by decide)
    have d10 : a'.tmps.getD 44 undef = .string S := hd 10 (by decide)
    have d11 : a'.tmps.getD 45 undef = .int .i64 (S.size : Int) := hd 11 (by decide)
    have d12 : a'.tmps.getD 46 undef = .string T := hd 12 (by decide)
    have d13 : a'.tmps.getD 47 undef = .int .i64 (T.size : Int) := hd 13 (by decide)
    have d14 : a'.tmps.getD 48 undef = .bool true := hd 14 (by decide)
    have d15 : a'.tmps.getD 49 undef = .bool true := hd 15 (by decide)
    have d16 : a'.tmps.getD 50 undef = .bool true := hd 16 (by decide)
    have d17 : a'.tmps.getD 51 undef = .string S := hd 17 (by decide)
    have d18 : a'.tmps.getD 52 undef = .string T := hd 18 (by decide)
    have d19 : a'.tmps.getD 53 undef = .bool kk := hd 19 (by decide)
    have d20 : a'.tmps.getD 54 undef = .pointer (some ⟨b, 0, none⟩) := hd 20 (by decide)
    have d21 : a'.tmps.getD 55 undef = .int .i64 xk := hd 21 (by decide)
    have d22 : a'.tmps.getD 56 undef = .int .i64 k := hd 22 (by decide)
    have d23 : a'.tmps.getD 57 undef = .bool kk := hd 23 (by decide)
    have d24 : a'.tmps.getD 58 undef = .bool true := hd 24 (by decide)
    have d25 : a'.tmps.getD 59 undef = .bool true := hd 25 (by decide)
    have d26 : a'.tmps.getD 60 undef = .bool true := hd 26 (by decide)
    have d27 : a'.tmps.getD 61 undef = .string S := hd 27 (by decide)
    have d28 : a'.tmps.getD 62 undef = .string (S.extract 1 S.size) := hd 28 (by decide)
    have d29 : a'.tmps.getD 63 undef = .string T := hd 29 (by decide)
    have d30 : a'.tmps.getD 64 undef = .string (T.extract 1 T.size) := hd 30 (by decide)
    have d31 : a'.tmps.getD 65 undef = .bool true := hd 31 (by decide)
    have d32 : a'.tmps.getD 66 undef = .bool true := hd 32 (by decide)
    have d33 : a'.tmps.getD 4 undef = .bool true := hd 33 (by decide)
    exact HQ.out _ _ ⟨hsa.size.trans rfl, hsa.defers.trans rfl, hsa.rest 0 (by rfl), hsa.rest 1 (by rfl), hsa.rest 2 (by rfl), d33, hsa.rest 5 (by rfl), hsa.rest 6 (by rfl), hsa.rest 7 (by rfl), hsa.rest 8 (by rfl), hsa.rest 9 (by rfl), hsa.rest 10 (by rfl), hsa.rest 22 (by rfl)⟩ hb
theorem kd_ret {W : World} {a : Act} {v : Vkd} {b : Bool} {R : Ending → World → Prop} (hF : Fkd a v) (h0 : v.v4 = .bool b) (h : R (.returned (.bool b)) W) :
    bodyPost Tryd.prog Tryd.f4 R .ret a W := by
  have g0 := slot_get (hF.s4.trans h0)
  refine bodyPost_ret (v := .bool b) ?_ hF.defers h
  simp [results, Tryd.results4, go_sem, g0]
end Go.Proofs.YthfflefnapbkiabDoor
