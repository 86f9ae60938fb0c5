/-
  CommandAsks: its regions (mkasks.py)
-/
import Derived.Test.YthfflefnapbkiaaGreatDoorZHC
import Derived.Laws.StructEq
namespace Go.Proofs.YthfflefnapbkiaaGreatDoor
open Go.RowKit

attribute [local go_sem ↓] Go.wp_at_zero Go.wp_at_succ
set_option linter.unusedSimpArgs false
set_option linter.unusedVariables false
set_option maxRecDepth 100000 in
theorem frame_ak (t : Array Value) (h : t.size = 64) : ∃ u : Nat → Value, t = List.toArray (u 0 :: u 1 :: u 2 :: u 3 :: u 4 :: u 5 :: u 6 :: u 7 :: u 8 :: u 9 :: u 10 :: u 11 :: u 12 :: u 13 :: u 14 :: u 15 :: u 16 :: u 17 :: u 18 :: u 19 :: u 20 :: u 21 :: u 22 :: u 23 :: u 24 :: u 25 :: u 26 :: u 27 :: u 28 :: u 29 :: u 30 :: u 31 :: u 32 :: u 33 :: u 34 :: u 35 :: u 36 :: u 37 :: u 38 :: u 39 :: u 40 :: u 41 :: u 42 :: u 43 :: u 44 :: u 45 :: u 46 :: u 47 :: u 48 :: u 49 :: u 50 :: u 51 :: u 52 :: u 53 :: u 54 :: u 55 :: u 56 :: u 57 :: u 58 :: u 59 :: u 60 :: u 61 :: u 62 :: u 63 :: []) := by
  refine ⟨fun i => t.getD i undef, ?_⟩
  have e : (List.toArray ((fun i => t.getD i undef) 0 :: (fun i => t.getD i undef) 1 :: (fun i => t.getD i undef) 2 :: (fun i => t.getD i undef) 3 :: (fun i => t.getD i undef) 4 :: (fun i => t.getD i undef) 5 :: (fun i => t.getD i undef) 6 :: (fun i => t.getD i undef) 7 :: (fun i => t.getD i undef) 8 :: (fun i => t.getD i undef) 9 :: (fun i => t.getD i undef) 10 :: (fun i => t.getD i undef) 11 :: (fun i => t.getD i undef) 12 :: (fun i => t.getD i undef) 13 :: (fun i => t.getD i undef) 14 :: (fun i => t.getD i undef) 15 :: (fun i => t.getD i undef) 16 :: (fun i => t.getD i undef) 17 :: (fun i => t.getD i undef) 18 :: (fun i => t.getD i undef) 19 :: (fun i => t.getD i undef) 20 :: (fun i => t.getD i undef) 21 :: (fun i => t.getD i undef) 22 :: (fun i => t.getD i undef) 23 :: (fun i => t.getD i undef) 24 :: (fun i => t.getD i undef) 25 :: (fun i => t.getD i undef) 26 :: (fun i => t.getD i undef) 27 :: (fun i => t.getD i undef) 28 :: (fun i => t.getD i undef) 29 :: (fun i => t.getD i undef) 30 :: (fun i => t.getD i undef) 31 :: (fun i => t.getD i undef) 32 :: (fun i => t.getD i undef) 33 :: (fun i => t.getD i undef) 34 :: (fun i => t.getD i undef) 35 :: (fun i => t.getD i undef) 36 :: (fun i => t.getD i undef) 37 :: (fun i => t.getD i undef) 38 :: (fun i => t.getD i undef) 39 :: (fun i => t.getD i undef) 40 :: (fun i => t.getD i undef) 41 :: (fun i => t.getD i undef) 42 :: (fun i => t.getD i undef) 43 :: (fun i => t.getD i undef) 44 :: (fun i => t.getD i undef) 45 :: (fun i => t.getD i undef) 46 :: (fun i => t.getD i undef) 47 :: (fun i => t.getD i undef) 48 :: (fun i => t.getD i undef) 49 :: (fun i => t.getD i undef) 50 :: (fun i => t.getD i undef) 51 :: (fun i => t.getD i undef) 52 :: (fun i => t.getD i undef) 53 :: (fun i => t.getD i undef) 54 :: (fun i => t.getD i undef) 55 :: (fun i => t.getD i undef) 56 :: (fun i => t.getD i undef) 57 :: (fun i => t.getD i undef) 58 :: (fun i => t.getD i undef) 59 :: (fun i => t.getD i undef) 60 :: (fun i => t.getD i undef) 61 :: (fun i => t.getD i undef) 62 :: (fun i => t.getD i undef) 63 :: []) : Array Value) = ((List.range 64).map fun i => t.getD i undef).toArray := rfl
  refine Eq.trans ?_ e.symm
  apply Array.ext
  · simp [h]
  · intro k h1 h2
    simp [Array.getD, h1]
/-- The slots that matter. -/
structure Vak where
  v0 : Value
  v1 : Value
  v2 : Value
  v4 : Value
  v5 : Value
  v6 : Value
  v7 : Value
  v8 : Value
  v9 : Value
  v10 : Value
  v11 : Value
  v12 : Value
  v13 : Value
structure Fak (a : Act) (v : Vak) : Prop where
  size : a.tmps.size = 64
  defers : a.defers = []
  s0 : a.tmps.getD 0 undef = v.v0
  s1 : a.tmps.getD 1 undef = v.v1
  s2 : a.tmps.getD 2 undef = v.v2
  s4 : a.tmps.getD 4 undef = v.v4
  s5 : a.tmps.getD 5 undef = v.v5
  s6 : a.tmps.getD 6 undef = v.v6
  s7 : a.tmps.getD 7 undef = v.v7
  s8 : a.tmps.getD 8 undef = v.v8
  s9 : a.tmps.getD 9 undef = v.v9
  s10 : a.tmps.getD 10 undef = v.v10
  s11 : a.tmps.getD 11 undef = v.v11
  s12 : a.tmps.getD 12 undef = v.v12
  s13 : a.tmps.getD 13 undef = v.v13
set_option maxHeartbeats 8000000 in
set_option maxRecDepth 100000 in
theorem ak_r0 {K : Act → World → Prop} {c : Code} (hc : regOf (Tryz.f3.body.getD .skip) 0 = some c) (a : Act) {v : Vak} {wq : World} {x : CM} (hF : Fak a v) (h0v : v.v0 = x.v) (hQ : ∀ a' w' b, Fak a' { v with v2 := .pointer (some ⟨b, 0, none⟩), v4 := .bool false } → w'.heap[b]? = some (.cells x.cells 23 (0, 0)) → Below wq.heap.size wq w' → K a' w') :
    Code.wp Tryz.prog c (Exit.then K fun _ _ _ => False) a wq := by
  have HQ := hide hQ
  clear hQ
  obtain ⟨t', d'⟩ := a
  obtain ⟨v0, v1, v2, v4, v5, v6, v7, v8, v9, v10, v11, v12, v13⟩ := v
  simp only at h0v HQ
  subst h0v
  obtain ⟨hs1, hd1, q0, q1, q2, q4, q5, q6, q7, q8, q9, q10, q11, q12, q13⟩ := hF
  obtain ⟨u, hu⟩ := frame_ak t' hs1
  simp only at hd1 q0 q1 q2 q4 q5 q6 q7 q8 q9 q10 q11 q12 q13
  subst hu hd1
  have e0 : u 0 = x.v := q0
  have e1 : u 1 = v1 := q1
  have e2 : u 2 = v2 := q2
  have e4 : u 4 = v4 := q4
  have e5 : u 5 = v5 := q5
  have e6 : u 6 = v6 := q6
  have e7 : u 7 = v7 := q7
  have e8 : u 8 = v8 := q8
  have e9 : u 9 = v9 := q9
  have e10 : u 10 = v10 := q10
  have e11 : u 11 = v11 := q11
  have e12 : u 12 = v12 := q12
  have e13 : u 13 = v13 := q13
  rw [e0, e1, e2, e4, e5, e6, e7, e8, e9, e10, e11, e12, e13]
  clear q0 e0 q1 e1 q2 e2 q4 e4 q5 e5 q6 e6 q7 e7 q8 e8 q9 e9 q10 e10 q11 e11 q12 e12 q13 e13 hs1
  simp only [Tryz.f3, Option.getD_some, regOf] at hc
  injection hc with hc
  subst hc
  generalize u 3 = u3
  generalize u 14 = u14
  generalize u 15 = u15
  generalize u 16 = u16
  generalize u 17 = u17
  generalize u 18 = u18
  generalize u 19 = u19
  generalize u 20 = u20
  generalize u 21 = u21
  generalize u 22 = u22
  generalize u 23 = u23
  generalize u 24 = u24
  generalize u 25 = u25
  generalize u 26 = u26
  generalize u 27 = u27
  generalize u 28 = u28
  generalize u 29 = u29
  generalize u 30 = u30
  generalize u 31 = u31
  generalize u 32 = u32
  generalize u 33 = u33
  generalize u 34 = u34
  generalize u 35 = u35
  generalize u 36 = u36
  generalize u 37 = u37
  generalize u 38 = u38
  generalize u 39 = u39
  generalize u 40 = u40
  generalize u 41 = u41
  generalize u 42 = u42
  generalize u 43 = u43
  generalize u 44 = u44
  generalize u 45 = u45
  generalize u 46 = u46
  generalize u 47 = u47
  generalize u 48 = u48
  generalize u 49 = u49
  generalize u 50 = u50
  generalize u 51 = u51
  generalize u 52 = u52
  generalize u 53 = u53
  generalize u 54 = u54
  generalize u 55 = u55
  generalize u 56 = u56
  generalize u 57 = u57
  generalize u 58 = u58
  generalize u 59 = u59
  generalize u 60 = u60
  generalize u 61 = u61
  generalize u 62 = u62
  generalize u 63 = u63
  clear u
  simp only [CM.v, CM.cells] at *
  go_wp2
  exact HQ.out _ _ wq.heap.size ⟨rfl, rfl, rfl, rfl, rfl, rfl, rfl, rfl, rfl, rfl, rfl, rfl, rfl, rfl, rfl⟩ (heap_alloc_new _ _) ((Below.refl _ _).alloc (Nat.le_refl _) _)
set_option maxHeartbeats 8000000 in
set_option maxRecDepth 100000 in
theorem ak_r1 {K : Act → World → Prop} {c : Code} (hc : regOf (Tryz.f3.body.getD .skip) 1 = some c) (a : Act) {v : Vak} {wq : World}  (hF : Fak a v) (hC : ∀ W, Below wq.heap.size wq W → Calls Tryz.prog 5 #[] W fun e w' => e = .returned (.bool true) ∧ Below W.heap.size W w')
    (hQ : ∀ a' w', Fak a' { v with v5 := .bool true } → Below wq.heap.size wq w' → K a' w') :
    Code.wp Tryz.prog c (Exit.then K fun _ _ _ => False) a wq := by
  have HQ := hide hQ
  clear hQ
  obtain ⟨t', d'⟩ := a
  obtain ⟨v0, v1, v2, v4, v5, v6, v7, v8, v9, v10, v11, v12, v13⟩ := v
  obtain ⟨hs1, hd1, q0, q1, q2, q4, q5, q6, q7, q8, q9, q10, q11, q12, q13⟩ := hF
  obtain ⟨u, hu⟩ := frame_ak t' hs1
  simp only at hd1 q0 q1 q2 q4 q5 q6 q7 q8 q9 q10 q11 q12 q13
  subst hu hd1
  have e0 : u 0 = v0 := q0
  have e1 : u 1 = v1 := q1
  have e2 : u 2 = v2 := q2
  have e4 : u 4 = v4 := q4
  have e5 : u 5 = v5 := q5
  have e6 : u 6 = v6 := q6
  have e7 : u 7 = v7 := q7
  have e8 : u 8 = v8 := q8
  have e9 : u 9 = v9 := q9
  have e10 : u 10 = v10 := q10
  have e11 : u 11 = v11 := q11
  have e12 : u 12 = v12 := q12
  have e13 : u 13 = v13 := q13
  rw [e0, e1, e2, e4, e5, e6, e7, e8, e9, e10, e11, e12, e13]
  clear q0 e0 q1 e1 q2 e2 q4 e4 q5 e5 q6 e6 q7 e7 q8 e8 q9 e9 q10 e10 q11 e11 q12 e12 q13 e13 hs1
  simp only [Tryz.f3, Option.getD_some, regOf] at hc
  injection hc with hc
  subst hc
  generalize u 3 = u3
  generalize u 14 = u14
  generalize u 15 = u15
  generalize u 16 = u16
  generalize u 17 = u17
  generalize u 18 = u18
  generalize u 19 = u19
  generalize u 20 = u20
  generalize u 21 = u21
  generalize u 22 = u22
  generalize u 23 = u23
  generalize u 24 = u24
  generalize u 25 = u25
  generalize u 26 = u26
  generalize u 27 = u27
  generalize u 28 = u28
  generalize u 29 = u29
  generalize u 30 = u30
  generalize u 31 = u31
  generalize u 32 = u32
  generalize u 33 = u33
  generalize u 34 = u34
  generalize u 35 = u35
  generalize u 36 = u36
  generalize u 37 = u37
  generalize u 38 = u38
  generalize u 39 = u39
  generalize u 40 = u40
  generalize u 41 = u41
  generalize u 42 = u42
  generalize u 43 = u43
  generalize u 44 = u44
  generalize u 45 = u45
  generalize u 46 = u46
  generalize u 47 = u47
  generalize u 48 = u48
  generalize u 49 = u49
  generalize u 50 = u50
  generalize u 51 = u51
  generalize u 52 = u52
  generalize u 53 = u53
  generalize u 54 = u54
  generalize u 55 = u55
  generalize u 56 = u56
  generalize u 57 = u57
  generalize u 58 = u58
  generalize u 59 = u59
  generalize u 60 = u60
  generalize u 61 = u61
  generalize u 62 = u62
  generalize u 63 = u63
  clear u
  have HC := hide hC
  clear hC
  go_wp2_with (go_at_call 5; refine (HC.out _ (Below.refl _ _)).mono ?_; rintro e w1 ⟨rfl, b1⟩)
  exact HQ.out _ _ ⟨rfl, rfl, rfl, rfl, rfl, rfl, rfl, rfl, rfl, rfl, rfl, rfl, rfl, rfl, rfl⟩ b1
set_option maxHeartbeats 8000000 in
set_option maxRecDepth 100000 in
theorem ak_r2 {K : Act → World → Prop} {c : Code} (hc : regOf (Tryz.f3.body.getD .skip) 2 = some c) (a : Act) {v : Vak} {wq : World} {b : Nat} {x : CM} {T : ByteArray} {er : Int} (hF : Fak a v) (h2v : v.v2 = .pointer (some ⟨b, 0, none⟩)) (hB : wq.heap[b]? = some (.cells x.cells 23 (0, 0))) (hC : ∀ W, Below wq.heap.size wq W → Calls Tryz.prog 6 #[x.v] W fun e w' => e = .returned (.tuple #[.string T, .int .i64 er]) ∧ Below W.heap.size W w')
    (hQ : ∀ a' w', Fak a' { v with v6 := .string T, v7 := .int .i64 er } → Below wq.heap.size wq w' → K a' w') :
    Code.wp Tryz.prog c (Exit.then K fun _ _ _ => False) a wq := by
  have HQ := hide hQ
  clear hQ
  obtain ⟨t', d'⟩ := a
  obtain ⟨v0, v1, v2, v4, v5, v6, v7, v8, v9, v10, v11, v12, v13⟩ := v
  simp only at h2v HQ
  subst h2v
  obtain ⟨hs1, hd1, q0, q1, q2, q4, q5, q6, q7, q8, q9, q10, q11, q12, q13⟩ := hF
  obtain ⟨u, hu⟩ := frame_ak t' hs1
  simp only at hd1 q0 q1 q2 q4 q5 q6 q7 q8 q9 q10 q11 q12 q13
  subst hu hd1
  have e0 : u 0 = v0 := q0
  have e1 : u 1 = v1 := q1
  have e2 : u 2 = .pointer (some ⟨b, 0, none⟩) := q2
  have e4 : u 4 = v4 := q4
  have e5 : u 5 = v5 := q5
  have e6 : u 6 = v6 := q6
  have e7 : u 7 = v7 := q7
  have e8 : u 8 = v8 := q8
  have e9 : u 9 = v9 := q9
  have e10 : u 10 = v10 := q10
  have e11 : u 11 = v11 := q11
  have e12 : u 12 = v12 := q12
  have e13 : u 13 = v13 := q13
  rw [e0, e1, e2, e4, e5, e6, e7, e8, e9, e10, e11, e12, e13]
  clear q0 e0 q1 e1 q2 e2 q4 e4 q5 e5 q6 e6 q7 e7 q8 e8 q9 e9 q10 e10 q11 e11 q12 e12 q13 e13 hs1
  simp only [Tryz.f3, Option.getD_some, regOf] at hc
  injection hc with hc
  subst hc
  generalize u 3 = u3
  generalize u 14 = u14
  generalize u 15 = u15
  generalize u 16 = u16
  generalize u 17 = u17
  generalize u 18 = u18
  generalize u 19 = u19
  generalize u 20 = u20
  generalize u 21 = u21
  generalize u 22 = u22
  generalize u 23 = u23
  generalize u 24 = u24
  generalize u 25 = u25
  generalize u 26 = u26
  generalize u 27 = u27
  generalize u 28 = u28
  generalize u 29 = u29
  generalize u 30 = u30
  generalize u 31 = u31
  generalize u 32 = u32
  generalize u 33 = u33
  generalize u 34 = u34
  generalize u 35 = u35
  generalize u 36 = u36
  generalize u 37 = u37
  generalize u 38 = u38
  generalize u 39 = u39
  generalize u 40 = u40
  generalize u 41 = u41
  generalize u 42 = u42
  generalize u 43 = u43
  generalize u 44 = u44
  generalize u 45 = u45
  generalize u 46 = u46
  generalize u 47 = u47
  generalize u 48 = u48
  generalize u 49 = u49
  generalize u 50 = u50
  generalize u 51 = u51
  generalize u 52 = u52
  generalize u 53 = u53
  generalize u 54 = u54
  generalize u 55 = u55
  generalize u 56 = u56
  generalize u 57 = u57
  generalize u 58 = u58
  generalize u 59 = u59
  generalize u 60 = u60
  generalize u 61 = u61
  generalize u 62 = u62
  generalize u 63 = u63
  clear u
  have HC := hide hC
  have c0 := box_cell hB 0 rfl
  have c1 := box_cell hB 1 rfl
  have c2 := box_cell hB 2 rfl
  have c3 := box_cell hB 3 rfl
  have c4 := box_cell hB 4 rfl
  have c5 := box_cell hB 5 rfl
  have c6 := box_cell hB 6 rfl
  have c7 := box_cell hB 7 rfl
  have c8 := box_cell hB 8 rfl
  clear hC hB
  simp only [CM.v, CM.cells] at *
  go_wp2_with (go_at_call 6; refine (HC.out _ (Below.refl _ _)).mono ?_; rintro e w1 ⟨rfl, b1⟩)
  exact HQ.out _ _ ⟨rfl, rfl, rfl, rfl, rfl, rfl, rfl, rfl, rfl, rfl, rfl, rfl, rfl, rfl, rfl⟩ b1
set_option maxHeartbeats 8000000 in
set_option maxRecDepth 100000 in
theorem ak_r3 {K : Act → World → Prop} {c : Code} (hc : regOf (Tryz.f3.body.getD .skip) 3 = some c) (a : Act) {v : Vak} {wq : World} {b : Nat} {x : CM} {T : ByteArray} {rr : Bool} (hF : Fak a v) (h2v : v.v2 = .pointer (some ⟨b, 0, none⟩)) (hB : wq.heap[b]? = some (.cells x.cells 23 (0, 0))) (hC : ∀ W, Below wq.heap.size wq W → Calls Tryz.prog 7 #[x.v] W fun e w' => e = .returned (.tuple #[.string T, .bool rr]) ∧ Below W.heap.size W w')
    (hQ : ∀ a' w', Fak a' { v with v8 := .string T, v9 := .bool rr } → Below wq.heap.size wq w' → K a' w') :
    Code.wp Tryz.prog c (Exit.then K fun _ _ _ => False) a wq := by
  have HQ := hide hQ
  clear hQ
  obtain ⟨t', d'⟩ := a
  obtain ⟨v0, v1, v2, v4, v5, v6, v7, v8, v9, v10, v11, v12, v13⟩ := v
  simp only at h2v HQ
  subst h2v
  obtain ⟨hs1, hd1, q0, q1, q2, q4, q5, q6, q7, q8, q9, q10, q11, q12, q13⟩ := hF
  obtain ⟨u, hu⟩ := frame_ak t' hs1
  simp only at hd1 q0 q1 q2 q4 q5 q6 q7 q8 q9 q10 q11 q12 q13
  subst hu hd1
  have e0 : u 0 = v0 := q0
  have e1 : u 1 = v1 := q1
  have e2 : u 2 = .pointer (some ⟨b, 0, none⟩) := q2
  have e4 : u 4 = v4 := q4
  have e5 : u 5 = v5 := q5
  have e6 : u 6 = v6 := q6
  have e7 : u 7 = v7 := q7
  have e8 : u 8 = v8 := q8
  have e9 : u 9 = v9 := q9
  have e10 : u 10 = v10 := q10
  have e11 : u 11 = v11 := q11
  have e12 : u 12 = v12 := q12
  have e13 : u 13 = v13 := q13
  rw [e0, e1, e2, e4, e5, e6, e7, e8, e9, e10, e11, e12, e13]
  clear q0 e0 q1 e1 q2 e2 q4 e4 q5 e5 q6 e6 q7 e7 q8 e8 q9 e9 q10 e10 q11 e11 q12 e12 q13 e13 hs1
  simp only [Tryz.f3, Option.getD_some, regOf] at hc
  injection hc with hc
  subst hc
  generalize u 3 = u3
  generalize u 14 = u14
  generalize u 15 = u15
  generalize u 16 = u16
  generalize u 17 = u17
  generalize u 18 = u18
  generalize u 19 = u19
  generalize u 20 = u20
  generalize u 21 = u21
  generalize u 22 = u22
  generalize u 23 = u23
  generalize u 24 = u24
  generalize u 25 = u25
  generalize u 26 = u26
  generalize u 27 = u27
  generalize u 28 = u28
  generalize u 29 = u29
  generalize u 30 = u30
  generalize u 31 = u31
  generalize u 32 = u32
  generalize u 33 = u33
  generalize u 34 = u34
  generalize u 35 = u35
  generalize u 36 = u36
  generalize u 37 = u37
  generalize u 38 = u38
  generalize u 39 = u39
  generalize u 40 = u40
  generalize u 41 = u41
  generalize u 42 = u42
  generalize u 43 = u43
  generalize u 44 = u44
  generalize u 45 = u45
  generalize u 46 = u46
  generalize u 47 = u47
  generalize u 48 = u48
  generalize u 49 = u49
  generalize u 50 = u50
  generalize u 51 = u51
  generalize u 52 = u52
  generalize u 53 = u53
  generalize u 54 = u54
  generalize u 55 = u55
  generalize u 56 = u56
  generalize u 57 = u57
  generalize u 58 = u58
  generalize u 59 = u59
  generalize u 60 = u60
  generalize u 61 = u61
  generalize u 62 = u62
  generalize u 63 = u63
  clear u
  have HC := hide hC
  have c0 := box_cell hB 0 rfl
  have c1 := box_cell hB 1 rfl
  have c2 := box_cell hB 2 rfl
  have c3 := box_cell hB 3 rfl
  have c4 := box_cell hB 4 rfl
  have c5 := box_cell hB 5 rfl
  have c6 := box_cell hB 6 rfl
  have c7 := box_cell hB 7 rfl
  have c8 := box_cell hB 8 rfl
  clear hC hB
  simp only [CM.v, CM.cells] at *
  go_wp2_with (go_at_call 7; refine (HC.out _ (Below.refl _ _)).mono ?_; rintro e w1 ⟨rfl, b1⟩)
  exact HQ.out _ _ ⟨rfl, rfl, rfl, rfl, rfl, rfl, rfl, rfl, rfl, rfl, rfl, rfl, rfl, rfl, rfl⟩ b1
set_option maxHeartbeats 8000000 in
set_option maxRecDepth 100000 in
theorem ak_r4 {K : Act → World → Prop} {c : Code} (hc : regOf (Tryz.f3.body.getD .skip) 4 = some c) (a : Act) {v : Vak} {wq : World} {T : ByteArray} {x : CM} {er : Int} (hF : Fak a v) (h1v : v.v1 = .string T) (hC : ∀ W, Below wq.heap.size wq W → Calls Tryz.prog 8 #[.string T] W fun e w' => e = .returned (.tuple #[x.v, .int .i64 er]) ∧ Below W.heap.size W w')
    (hQ : ∀ a' w' b, Fak a' { v with v10 := .pointer (some ⟨b, 0, none⟩), v11 := .int .i64 er } → w'.heap[b]? = some (.cells x.cells 23 (0, 0)) → Below wq.heap.size wq w' → K a' w') :
    Code.wp Tryz.prog c (Exit.then K fun _ _ _ => False) a wq := by
  have HQ := hide hQ
  clear hQ
  obtain ⟨t', d'⟩ := a
  obtain ⟨v0, v1, v2, v4, v5, v6, v7, v8, v9, v10, v11, v12, v13⟩ := v
  simp only at h1v HQ
  subst h1v
  obtain ⟨hs1, hd1, q0, q1, q2, q4, q5, q6, q7, q8, q9, q10, q11, q12, q13⟩ := hF
  obtain ⟨u, hu⟩ := frame_ak t' hs1
  simp only at hd1 q0 q1 q2 q4 q5 q6 q7 q8 q9 q10 q11 q12 q13
  subst hu hd1
  have e0 : u 0 = v0 := q0
  have e1 : u 1 = .string T := q1
  have e2 : u 2 = v2 := q2
  have e4 : u 4 = v4 := q4
  have e5 : u 5 = v5 := q5
  have e6 : u 6 = v6 := q6
  have e7 : u 7 = v7 := q7
  have e8 : u 8 = v8 := q8
  have e9 : u 9 = v9 := q9
  have e10 : u 10 = v10 := q10
  have e11 : u 11 = v11 := q11
  have e12 : u 12 = v12 := q12
  have e13 : u 13 = v13 := q13
  rw [e0, e1, e2, e4, e5, e6, e7, e8, e9, e10, e11, e12, e13]
  clear q0 e0 q1 e1 q2 e2 q4 e4 q5 e5 q6 e6 q7 e7 q8 e8 q9 e9 q10 e10 q11 e11 q12 e12 q13 e13 hs1
  simp only [Tryz.f3, Option.getD_some, regOf] at hc
  injection hc with hc
  subst hc
  generalize u 3 = u3
  generalize u 14 = u14
  generalize u 15 = u15
  generalize u 16 = u16
  generalize u 17 = u17
  generalize u 18 = u18
  generalize u 19 = u19
  generalize u 20 = u20
  generalize u 21 = u21
  generalize u 22 = u22
  generalize u 23 = u23
  generalize u 24 = u24
  generalize u 25 = u25
  generalize u 26 = u26
  generalize u 27 = u27
  generalize u 28 = u28
  generalize u 29 = u29
  generalize u 30 = u30
  generalize u 31 = u31
  generalize u 32 = u32
  generalize u 33 = u33
  generalize u 34 = u34
  generalize u 35 = u35
  generalize u 36 = u36
  generalize u 37 = u37
  generalize u 38 = u38
  generalize u 39 = u39
  generalize u 40 = u40
  generalize u 41 = u41
  generalize u 42 = u42
  generalize u 43 = u43
  generalize u 44 = u44
  generalize u 45 = u45
  generalize u 46 = u46
  generalize u 47 = u47
  generalize u 48 = u48
  generalize u 49 = u49
  generalize u 50 = u50
  generalize u 51 = u51
  generalize u 52 = u52
  generalize u 53 = u53
  generalize u 54 = u54
  generalize u 55 = u55
  generalize u 56 = u56
  generalize u 57 = u57
  generalize u 58 = u58
  generalize u 59 = u59
  generalize u 60 = u60
  generalize u 61 = u61
  generalize u 62 = u62
  generalize u 63 = u63
  clear u
  have HC := hide hC
  clear hC
  simp only [CM.v, CM.cells] at *
  go_wp2_with (go_at_call 8; refine (HC.out _ (Below.refl _ _)).mono ?_; rintro e w1 ⟨rfl, b1⟩)
  exact HQ.out _ _ w1.heap.size ⟨rfl, rfl, rfl, rfl, rfl, rfl, rfl, rfl, rfl, rfl, rfl, rfl, rfl, rfl, rfl⟩ (heap_alloc_new _ _) (b1.alloc b1.size _)
set_option maxHeartbeats 8000000 in
set_option maxRecDepth 100000 in
theorem ak_r5 {K : Act → World → Prop} {c : Code} (hc : regOf (Tryz.f3.body.getD .skip) 5 = some c) (a : Act) {v : Vak} {wq : World} {T : ByteArray} {x : CM} {er : Int} (hF : Fak a v) (h1v : v.v1 = .string T) (hC : ∀ W, Below wq.heap.size wq W → Calls Tryz.prog 9 #[.string T] W fun e w' => e = .returned (.tuple #[x.v, .int .i64 er]) ∧ Below W.heap.size W w')
    (hQ : ∀ a' w' b, Fak a' { v with v12 := .pointer (some ⟨b, 0, none⟩), v13 := .int .i64 er } → w'.heap[b]? = some (.cells x.cells 23 (0, 0)) → Below wq.heap.size wq w' → K a' w') :
    Code.wp Tryz.prog c (Exit.then K fun _ _ _ => False) a wq := by
  have HQ := hide hQ
  clear hQ
  obtain ⟨t', d'⟩ := a
  obtain ⟨v0, v1, v2, v4, v5, v6, v7, v8, v9, v10, v11, v12, v13⟩ := v
  simp only at h1v HQ
  subst h1v
  obtain ⟨hs1, hd1, q0, q1, q2, q4, q5, q6, q7, q8, q9, q10, q11, q12, q13⟩ := hF
  obtain ⟨u, hu⟩ := frame_ak t' hs1
  simp only at hd1 q0 q1 q2 q4 q5 q6 q7 q8 q9 q10 q11 q12 q13
  subst hu hd1
  have e0 : u 0 = v0 := q0
  have e1 : u 1 = .string T := q1
  have e2 : u 2 = v2 := q2
  have e4 : u 4 = v4 := q4
  have e5 : u 5 = v5 := q5
  have e6 : u 6 = v6 := q6
  have e7 : u 7 = v7 := q7
  have e8 : u 8 = v8 := q8
  have e9 : u 9 = v9 := q9
  have e10 : u 10 = v10 := q10
  have e11 : u 11 = v11 := q11
  have e12 : u 12 = v12 := q12
  have e13 : u 13 = v13 := q13
  rw [e0, e1, e2, e4, e5, e6, e7, e8, e9, e10, e11, e12, e13]
  clear q0 e0 q1 e1 q2 e2 q4 e4 q5 e5 q6 e6 q7 e7 q8 e8 q9 e9 q10 e10 q11 e11 q12 e12 q13 e13 hs1
  simp only [Tryz.f3, Option.getD_some, regOf] at hc
  injection hc with hc
  subst hc
  generalize u 3 = u3
  generalize u 14 = u14
  generalize u 15 = u15
  generalize u 16 = u16
  generalize u 17 = u17
  generalize u 18 = u18
  generalize u 19 = u19
  generalize u 20 = u20
  generalize u 21 = u21
  generalize u 22 = u22
  generalize u 23 = u23
  generalize u 24 = u24
  generalize u 25 = u25
  generalize u 26 = u26
  generalize u 27 = u27
  generalize u 28 = u28
  generalize u 29 = u29
  generalize u 30 = u30
  generalize u 31 = u31
  generalize u 32 = u32
  generalize u 33 = u33
  generalize u 34 = u34
  generalize u 35 = u35
  generalize u 36 = u36
  generalize u 37 = u37
  generalize u 38 = u38
  generalize u 39 = u39
  generalize u 40 = u40
  generalize u 41 = u41
  generalize u 42 = u42
  generalize u 43 = u43
  generalize u 44 = u44
  generalize u 45 = u45
  generalize u 46 = u46
  generalize u 47 = u47
  generalize u 48 = u48
  generalize u 49 = u49
  generalize u 50 = u50
  generalize u 51 = u51
  generalize u 52 = u52
  generalize u 53 = u53
  generalize u 54 = u54
  generalize u 55 = u55
  generalize u 56 = u56
  generalize u 57 = u57
  generalize u 58 = u58
  generalize u 59 = u59
  generalize u 60 = u60
  generalize u 61 = u61
  generalize u 62 = u62
  generalize u 63 = u63
  clear u
  have HC := hide hC
  clear hC
  simp only [CM.v, CM.cells] at *
  go_wp2_with (go_at_call 9; refine (HC.out _ (Below.refl _ _)).mono ?_; rintro e w1 ⟨rfl, b1⟩)
  exact HQ.out _ _ w1.heap.size ⟨rfl, rfl, rfl, rfl, rfl, rfl, rfl, rfl, rfl, rfl, rfl, rfl, rfl, rfl, rfl⟩ (heap_alloc_new _ _) (b1.alloc b1.size _)
set_option maxHeartbeats 8000000 in
set_option maxRecDepth 100000 in
theorem ak_r6t {K : Act → World → Prop} {c : Code} (hc : regOf (Tryz.f3.body.getD .skip) 6 = some c) (a : Act) {v : Vak} {wq : World} {b1 b2 : Nat} {T : ByteArray} {d : CM} {er : Int} (hF : Fak a v) (h5v : v.v5 = .bool true) (h6v : v.v6 = .string T) (h7v : v.v7 = .int .i64 0) (h8v : v.v8 = .string T) (h9v : v.v9 = .bool true) (h10v : v.v10 = .pointer (some ⟨b1, 0, none⟩)) (h11v : v.v11 = .int .i64 er) (h12v : v.v12 = .pointer (some ⟨b2, 0, none⟩)) (h13v : v.v13 = .int .i64 er) (h1 : wq.heap[b1]? = some (.cells d.cells 23 (0, 0))) (h2 : wq.heap[b2]? = some (.cells d.cells 23 (0, 0)))
    (hQ : ∀ a', Fak a' { v with v4 := .bool true } → K a' wq) :
    Code.wp Tryz.prog c (Exit.then K fun _ _ _ => False) a wq := by
  have HQ := hide hQ
  clear hQ
  obtain ⟨t', d'⟩ := a
  obtain ⟨v0, v1, v2, v4, v5, v6, v7, v8, v9, v10, v11, v12, v13⟩ := v
  simp only at h5v h6v h7v h8v h9v h10v h11v h12v h13v HQ
  subst h5v h6v h7v h8v h9v h10v h11v h12v h13v
  obtain ⟨hs1, hd1, q0, q1, q2, q4, q5, q6, q7, q8, q9, q10, q11, q12, q13⟩ := hF
  obtain ⟨u, hu⟩ := frame_ak t' hs1
  simp only at hd1 q0 q1 q2 q4 q5 q6 q7 q8 q9 q10 q11 q12 q13
  subst hu hd1
  have e0 : u 0 = v0 := q0
  have e1 : u 1 = v1 := q1
  have e2 : u 2 = v2 := q2
  have e4 : u 4 = v4 := q4
  have e5 : u 5 = .bool true := q5
  have e6 : u 6 = .string T := q6
  have e7 : u 7 = .int .i64 0 := q7
  have e8 : u 8 = .string T := q8
  have e9 : u 9 = .bool true := q9
  have e10 : u 10 = .pointer (some ⟨b1, 0, none⟩) := q10
  have e11 : u 11 = .int .i64 er := q11
  have e12 : u 12 = .pointer (some ⟨b2, 0, none⟩) := q12
  have e13 : u 13 = .int .i64 er := q13
  rw [e0, e1, e2, e4, e5, e6, e7, e8, e9, e10, e11, e12, e13]
  clear q0 e0 q1 e1 q2 e2 q4 e4 q5 e5 q6 e6 q7 e7 q8 e8 q9 e9 q10 e10 q11 e11 q12 e12 q13 e13 hs1
  simp only [Tryz.f3, Option.getD_some, regOf] at hc
  injection hc with hc
  subst hc
  generalize u 3 = u3
  generalize u 14 = u14
  generalize u 15 = u15
  generalize u 16 = u16
  generalize u 17 = u17
  generalize u 18 = u18
  generalize u 19 = u19
  generalize u 20 = u20
  generalize u 21 = u21
  generalize u 22 = u22
  generalize u 23 = u23
  generalize u 24 = u24
  generalize u 25 = u25
  generalize u 26 = u26
  generalize u 27 = u27
  generalize u 28 = u28
  generalize u 29 = u29
  generalize u 30 = u30
  generalize u 31 = u31
  generalize u 32 = u32
  generalize u 33 = u33
  generalize u 34 = u34
  generalize u 35 = u35
  generalize u 36 = u36
  generalize u 37 = u37
  generalize u 38 = u38
  generalize u 39 = u39
  generalize u 40 = u40
  generalize u 41 = u41
  generalize u 42 = u42
  generalize u 43 = u43
  generalize u 44 = u44
  generalize u 45 = u45
  generalize u 46 = u46
  generalize u 47 = u47
  generalize u 48 = u48
  generalize u 49 = u49
  generalize u 50 = u50
  generalize u 51 = u51
  generalize u 52 = u52
  generalize u 53 = u53
  generalize u 54 = u54
  generalize u 55 = u55
  generalize u 56 = u56
  generalize u 57 = u57
  generalize u 58 = u58
  generalize u 59 = u59
  generalize u 60 = u60
  generalize u 61 = u61
  generalize u 62 = u62
  generalize u 63 = u63
  clear u
  obtain ⟨xk, xt, xm, xs, xy, xv, xn, xo, xa⟩ := d
  simp only [CM.cells] at h1 h2
  have c0 := box_cell h1 0 rfl
  have c1 := box_cell h1 1 rfl
  have c2 := box_cell h1 2 rfl
  have c3 := box_cell h1 3 rfl
  have c4 := box_cell h1 4 rfl
  have c5 := box_cell h1 5 rfl
  have c6 := box_cell h1 6 rfl
  have c7 := box_cell h1 7 rfl
  have c8 := box_cell h1 8 rfl
  have d0 := box_cell h2 0 rfl
  have d1 := box_cell h2 1 rfl
  have d2 := box_cell h2 2 rfl
  have d3 := box_cell h2 3 rfl
  have d4 := box_cell h2 4 rfl
  have d5 := box_cell h2 5 rfl
  have d6 := box_cell h2 6 rfl
  have d7 := box_cell h2 7 rfl
  have d8 := box_cell h2 8 rfl
  clear h1 h2
  go_wp2
  exact HQ.out _ ⟨rfl, rfl, rfl, rfl, rfl, rfl, rfl, rfl, rfl, rfl, rfl, rfl, rfl, rfl, rfl⟩
set_option maxHeartbeats 8000000 in
set_option maxRecDepth 100000 in
theorem ak_r6f {K : Act → World → Prop} {c : Code} (hc : regOf (Tryz.f3.body.getD .skip) 6 = some c) (a : Act) {v : Vak} {wq : World} {b1 b2 : Nat} {T : ByteArray} {d : CM} {er : Int} (hF : Fak a v) (h5v : v.v5 = .bool true) (h6v : v.v6 = .string T) (h7v : v.v7 = .int .i64 1) (h8v : v.v8 = .string T) (h9v : v.v9 = .bool false) (h10v : v.v10 = .pointer (some ⟨b1, 0, none⟩)) (h11v : v.v11 = .int .i64 er) (h12v : v.v12 = .pointer (some ⟨b2, 0, none⟩)) (h13v : v.v13 = .int .i64 er) (h1 : wq.heap[b1]? = some (.cells d.cells 23 (0, 0))) (h2 : wq.heap[b2]? = some (.cells d.cells 23 (0, 0)))
    (hQ : ∀ a', Fak a' { v with v4 := .bool true } → K a' wq) :
    Code.wp Tryz.prog c (Exit.then K fun _ _ _ => False) a wq := by
  have HQ := hide hQ
  clear hQ
  obtain ⟨t', d'⟩ := a
  obtain ⟨v0, v1, v2, v4, v5, v6, v7, v8, v9, v10, v11, v12, v13⟩ := v
  simp only at h5v h6v h7v h8v h9v h10v h11v h12v h13v HQ
  subst h5v h6v h7v h8v h9v h10v h11v h12v h13v
  obtain ⟨hs1, hd1, q0, q1, q2, q4, q5, q6, q7, q8, q9, q10, q11, q12, q13⟩ := hF
  obtain ⟨u, hu⟩ := frame_ak t' hs1
  simp only at hd1 q0 q1 q2 q4 q5 q6 q7 q8 q9 q10 q11 q12 q13
  subst hu hd1
  have e0 : u 0 = v0 := q0
  have e1 : u 1 = v1 := q1
  have e2 : u 2 = v2 := q2
  have e4 : u 4 = v4 := q4
  have e5 : u 5 = .bool true := q5
  have e6 : u 6 = .string T := q6
  have e7 : u 7 = .int .i64 1 := q7
  have e8 : u 8 = .string T := q8
  have e9 : u 9 = .bool false := q9
  have e10 : u 10 = .pointer (some ⟨b1, 0, none⟩) := q10
  have e11 : u 11 = .int .i64 er := q11
  have e12 : u 12 = .pointer (some ⟨b2, 0, none⟩) := q12
  have e13 : u 13 = .int .i64 er := q13
  rw [e0, e1, e2, e4, e5, e6, e7, e8, e9, e10, e11, e12, e13]
  clear q0 e0 q1 e1 q2 e2 q4 e4 q5 e5 q6 e6 q7 e7 q8 e8 q9 e9 q10 e10 q11 e11 q12 e12 q13 e13 hs1
  simp only [Tryz.f3, Option.getD_some, regOf] at hc
  injection hc with hc
  subst hc
  generalize u 3 = u3
  generalize u 14 = u14
  generalize u 15 = u15
  generalize u 16 = u16
  generalize u 17 = u17
  generalize u 18 = u18
  generalize u 19 = u19
  generalize u 20 = u20
  generalize u 21 = u21
  generalize u 22 = u22
  generalize u 23 = u23
  generalize u 24 = u24
  generalize u 25 = u25
  generalize u 26 = u26
  generalize u 27 = u27
  generalize u 28 = u28
  generalize u 29 = u29
  generalize u 30 = u30
  generalize u 31 = u31
  generalize u 32 = u32
  generalize u 33 = u33
  generalize u 34 = u34
  generalize u 35 = u35
  generalize u 36 = u36
  generalize u 37 = u37
  generalize u 38 = u38
  generalize u 39 = u39
  generalize u 40 = u40
  generalize u 41 = u41
  generalize u 42 = u42
  generalize u 43 = u43
  generalize u 44 = u44
  generalize u 45 = u45
  generalize u 46 = u46
  generalize u 47 = u47
  generalize u 48 = u48
  generalize u 49 = u49
  generalize u 50 = u50
  generalize u 51 = u51
  generalize u 52 = u52
  generalize u 53 = u53
  generalize u 54 = u54
  generalize u 55 = u55
  generalize u 56 = u56
  generalize u 57 = u57
  generalize u 58 = u58
  generalize u 59 = u59
  generalize u 60 = u60
  generalize u 61 = u61
  generalize u 62 = u62
  generalize u 63 = u63
  clear u
  obtain ⟨xk, xt, xm, xs, xy, xv, xn, xo, xa⟩ := d
  simp only [CM.cells] at h1 h2
  have c0 := box_cell h1 0 rfl
  have c1 := box_cell h1 1 rfl
  have c2 := box_cell h1 2 rfl
  have c3 := box_cell h1 3 rfl
  have c4 := box_cell h1 4 rfl
  have c5 := box_cell h1 5 rfl
  have c6 := box_cell h1 6 rfl
  have c7 := box_cell h1 7 rfl
  have c8 := box_cell h1 8 rfl
  have d0 := box_cell h2 0 rfl
  have d1 := box_cell h2 1 rfl
  have d2 := box_cell h2 2 rfl
  have d3 := box_cell h2 3 rfl
  have d4 := box_cell h2 4 rfl
  have d5 := box_cell h2 5 rfl
  have d6 := box_cell h2 6 rfl
  have d7 := box_cell h2 7 rfl
  have d8 := box_cell h2 8 rfl
  clear h1 h2
  go_wp2
  exact HQ.out _ ⟨rfl, rfl, rfl, rfl, rfl, rfl, rfl, rfl, rfl, rfl, rfl, rfl, rfl, rfl, rfl⟩
theorem ak_ret {W : World} {a : Act} {v : Vak} {b : Bool} {R : Ending → World → Prop} (hF : Fak a v) (h0 : v.v4 = .bool b) (h : R (.returned (.bool b)) W) :
    bodyPost Tryz.prog Tryz.f3 R .ret a W := by
  have g0 := slot_get (hF.s4.trans h0)
  refine bodyPost_ret (v := .bool b) ?_ hF.defers h
  simp [results, Tryz.results3, go_sem, g0]
end Go.Proofs.YthfflefnapbkiaaGreatDoor
