/-
  CommandBytes: its regions (mkbytes.py)
-/
import Derived.Test.YthfflefnapbkiaaDoorZHC
import Derived.Test.YthfflefnapbkiaaDoorZHA
import Derived.Laws.StructEq
namespace Go.Proofs.YthfflefnapbkiaaDoor
open Go.RowKit

attribute [local go_sem ↓] Go.wp_at_zero Go.wp_at_succ
set_option linter.unusedSimpArgs false
set_option linter.unusedVariables false
set_option maxRecDepth 100000 in
theorem frame_by (t : Array Value) (h : t.size = 78) : ∃ u : Nat → Value, t = List.toArray (u 0 :: u 1 :: u 2 :: u 3 :: u 4 :: u 5 :: u 6 :: u 7 :: u 8 :: u 9 :: u 10 :: u 11 :: u 12 :: u 13 :: u 14 :: u 15 :: u 16 :: u 17 :: u 18 :: u 19 :: u 20 :: u 21 :: u 22 :: u 23 :: u 24 :: u 25 :: u 26 :: u 27 :: u 28 :: u 29 :: u 30 :: u 31 :: u 32 :: u 33 :: u 34 :: u 35 :: u 36 :: u 37 :: u 38 :: u 39 :: u 40 :: u 41 :: u 42 :: u 43 :: u 44 :: u 45 :: u 46 :: u 47 :: u 48 :: u 49 :: u 50 :: u 51 :: u 52 :: u 53 :: u 54 :: u 55 :: u 56 :: u 57 :: u 58 :: u 59 :: u 60 :: u 61 :: u 62 :: u 63 :: u 64 :: u 65 :: u 66 :: u 67 :: u 68 :: u 69 :: u 70 :: u 71 :: u 72 :: u 73 :: u 74 :: u 75 :: u 76 :: u 77 :: []) := by
  refine ⟨fun i => t.getD i undef, ?_⟩
  have e : (List.toArray ((fun i => t.getD i undef) 0 :: (fun i => t.getD i undef) 1 :: (fun i => t.getD i undef) 2 :: (fun i => t.getD i undef) 3 :: (fun i => t.getD i undef) 4 :: (fun i => t.getD i undef) 5 :: (fun i => t.getD i undef) 6 :: (fun i => t.getD i undef) 7 :: (fun i => t.getD i undef) 8 :: (fun i => t.getD i undef) 9 :: (fun i => t.getD i undef) 10 :: (fun i => t.getD i undef) 11 :: (fun i => t.getD i undef) 12 :: (fun i => t.getD i undef) 13 :: (fun i => t.getD i undef) 14 :: (fun i => t.getD i undef) 15 :: (fun i => t.getD i undef) 16 :: (fun i => t.getD i undef) 17 :: (fun i => t.getD i undef) 18 :: (fun i => t.getD i undef) 19 :: (fun i => t.getD i undef) 20 :: (fun i => t.getD i undef) 21 :: (fun i => t.getD i undef) 22 :: (fun i => t.getD i undef) 23 :: (fun i => t.getD i undef) 24 :: (fun i => t.getD i undef) 25 :: (fun i => t.getD i undef) 26 :: (fun i => t.getD i undef) 27 :: (fun i => t.getD i undef) 28 :: (fun i => t.getD i undef) 29 :: (fun i => t.getD i undef) 30 :: (fun i => t.getD i undef) 31 :: (fun i => t.getD i undef) 32 :: (fun i => t.getD i undef) 33 :: (fun i => t.getD i undef) 34 :: (fun i => t.getD i undef) 35 :: (fun i => t.getD i undef) 36 :: (fun i => t.getD i undef) 37 :: (fun i => t.getD i undef) 38 :: (fun i => t.getD i undef) 39 :: (fun i => t.getD i undef) 40 :: (fun i => t.getD i undef) 41 :: (fun i => t.getD i undef) 42 :: (fun i => t.getD i undef) 43 :: (fun i => t.getD i undef) 44 :: (fun i => t.getD i undef) 45 :: (fun i => t.getD i undef) 46 :: (fun i => t.getD i undef) 47 :: (fun i => t.getD i undef) 48 :: (fun i => t.getD i undef) 49 :: (fun i => t.getD i undef) 50 :: (fun i => t.getD i undef) 51 :: (fun i => t.getD i undef) 52 :: (fun i => t.getD i undef) 53 :: (fun i => t.getD i undef) 54 :: (fun i => t.getD i undef) 55 :: (fun i => t.getD i undef) 56 :: (fun i => t.getD i undef) 57 :: (fun i => t.getD i undef) 58 :: (fun i => t.getD i undef) 59 :: (fun i => t.getD i undef) 60 :: (fun i => t.getD i undef) 61 :: (fun i => t.getD i undef) 62 :: (fun i => t.getD i undef) 63 :: (fun i => t.getD i undef) 64 :: (fun i => t.getD i undef) 65 :: (fun i => t.getD i undef) 66 :: (fun i => t.getD i undef) 67 :: (fun i => t.getD i undef) 68 :: (fun i => t.getD i undef) 69 :: (fun i => t.getD i undef) 70 :: (fun i => t.getD i undef) 71 :: (fun i => t.getD i undef) 72 :: (fun i => t.getD i undef) 73 :: (fun i => t.getD i undef) 74 :: (fun i => t.getD i undef) 75 :: (fun i => t.getD i undef) 76 :: (fun i => t.getD i undef) 77 :: []) : Array Value) = ((List.range 78).map fun i => t.getD i undef).toArray := rfl
  refine Eq.trans ?_ e.symm
  apply Array.ext
  · simp [h]
  · intro k h1 h2
    simp [Array.getD, h1]
/-- The slots that matter. -/
structure Vby where
  v0 : Value
  v1 : Value
  v2 : Value
  v4 : Value
  v5 : Value
  v6 : Value
  v7 : Value
  v8 : Value
  v9 : Value
  v10 : Value
  v11 : Value
  v12 : Value
  v13 : Value
structure Fby (a : Act) (v : Vby) : Prop where
  size : a.tmps.size = 78
  defers : a.defers = []
  s0 : a.tmps.getD 0 undef = v.v0
  s1 : a.tmps.getD 1 undef = v.v1
  s2 : a.tmps.getD 2 undef = v.v2
  s4 : a.tmps.getD 4 undef = v.v4
  s5 : a.tmps.getD 5 undef = v.v5
  s6 : a.tmps.getD 6 undef = v.v6
  s7 : a.tmps.getD 7 undef = v.v7
  s8 : a.tmps.getD 8 undef = v.v8
  s9 : a.tmps.getD 9 undef = v.v9
  s10 : a.tmps.getD 10 undef = v.v10
  s11 : a.tmps.getD 11 undef = v.v11
  s12 : a.tmps.getD 12 undef = v.v12
  s13 : a.tmps.getD 13 undef = v.v13
set_option maxHeartbeats 8000000 in
set_option maxRecDepth 100000 in
theorem by_r0 {K : Act → World → Prop} {c : Code} (hc : regOf (Tryd.f3.body.getD .skip) 0 = some c) (a : Act) {v : Vby} {wq : World} {x : CM} (hF : Fby a v) (h0v : v.v0 = x.v) (hQ : ∀ a' w' b, Fby a' { v with v2 := .pointer (some ⟨b, 0, none⟩), v4 := .bool false } → w'.heap[b]? = some (.cells x.cells 23 (0, 0)) → Below wq.heap.size wq w' → K a' w') :
    Code.wp Tryd.prog c (Exit.then K fun _ _ _ => False) a wq := by
  have HQ := hide hQ
  clear hQ
  obtain ⟨t', d'⟩ := a
  obtain ⟨v0, v1, v2, v4, v5, v6, v7, v8, v9, v10, v11, v12, v13⟩ := v
  simp only at h0v HQ
  subst h0v
  obtain ⟨hs1, hd1, q0, q1, q2, q4, q5, q6, q7, q8, q9, q10, q11, q12, q13⟩ := hF
  obtain ⟨u, hu⟩ := frame_by t' hs1
  simp only at hd1 q0 q1 q2 q4 q5 q6 q7 q8 q9 q10 q11 q12 q13
  subst hu hd1
  have e0 : u 0 = x.v := q0
  have e1 : u 1 = v1 := q1
  have e2 : u 2 = v2 := q2
  have e4 : u 4 = v4 := q4
  have e5 : u 5 = v5 := q5
  have e6 : u 6 = v6 := q6
  have e7 : u 7 = v7 := q7
  have e8 : u 8 = v8 := q8
  have e9 : u 9 = v9 := q9
  have e10 : u 10 = v10 := q10
  have e11 : u 11 = v11 := q11
  have e12 : u 12 = v12 := q12
  have e13 : u 13 = v13 := q13
  rw [e0, e1, e2, e4, e5, e6, e7, e8, e9, e10, e11, e12, e13]
  clear q0 e0 q1 e1 q2 e2 q4 e4 q5 e5 q6 e6 q7 e7 q8 e8 q9 e9 q10 e10 q11 e11 q12 e12 q13 e13 hs1
  simp only [Tryd.f3, Option.getD_some, regOf] at hc
  injection hc with hc
  subst hc
  generalize u 3 = u3
  generalize u 14 = u14
  generalize u 15 = u15
  generalize u 16 = u16
  generalize u 17 = u17
  generalize u 18 = u18
  generalize u 19 = u19
  generalize u 20 = u20
  generalize u 21 = u21
  generalize u 22 = u22
  generalize u 23 = u23
  generalize u 24 = u24
  generalize u 25 = u25
  generalize u 26 = u26
  generalize u 27 = u27
  generalize u 28 = u28
  generalize u 29 = u29
  generalize u 30 = u30
  generalize u 31 = u31
  generalize u 32 = u32
  generalize u 33 = u33
  generalize u 34 = u34
  generalize u 35 = u35
  generalize u 36 = u36
  generalize u 37 = u37
  generalize u 38 = u38
  generalize u 39 = u39
  generalize u 40 = u40
  generalize u 41 = u41
  generalize u 42 = u42
  generalize u 43 = u43
  generalize u 44 = u44
  generalize u 45 = u45
  generalize u 46 = u46
  generalize u 47 = u47
  generalize u 48 = u48
  generalize u 49 = u49
  generalize u 50 = u50
  generalize u 51 = u51
  generalize u 52 = u52
  generalize u 53 = u53
  generalize u 54 = u54
  generalize u 55 = u55
  generalize u 56 = u56
  generalize u 57 = u57
  generalize u 58 = u58
  generalize u 59 = u59
  generalize u 60 = u60
  generalize u 61 = u61
  generalize u 62 = u62
  generalize u 63 = u63
  generalize u 64 = u64
  generalize u 65 = u65
  generalize u 66 = u66
  generalize u 67 = u67
  generalize u 68 = u68
  generalize u 69 = u69
  generalize u 70 = u70
  generalize u 71 = u71
  generalize u 72 = u72
  generalize u 73 = u73
  generalize u 74 = u74
  generalize u 75 = u75
  generalize u 76 = u76
  generalize u 77 = u77
  clear u
  simp only [CM.v, CM.cells] at *
  go_wp2
  exact HQ.out _ _ wq.heap.size ⟨rfl, rfl, rfl, rfl, rfl, rfl, rfl, rfl, rfl, rfl, rfl, rfl, rfl, rfl, rfl⟩ (heap_alloc_new _ _) ((Below.refl _ _).alloc (Nat.le_refl _) _)
set_option maxHeartbeats 8000000 in
set_option maxRecDepth 100000 in
theorem by_r1 {K : Act → World → Prop} {c : Code} (hc : regOf (Tryd.f3.body.getD .skip) 1 = some c) (a : Act) {v : Vby} {wq : World}  (hF : Fby a v) (hC : ∀ W, Below wq.heap.size wq W → Calls Tryd.prog 7 #[] W fun e w' => e = .returned (.bool true) ∧ Below W.heap.size W w')
    (hQ : ∀ a' w', Fby a' { v with v5 := .bool true } → Below wq.heap.size wq w' → K a' w') :
    Code.wp Tryd.prog c (Exit.then K fun _ _ _ => False) a wq := by
  have HQ := hide hQ
  clear hQ
  obtain ⟨t', d'⟩ := a
  obtain ⟨v0, v1, v2, v4, v5, v6, v7, v8, v9, v10, v11, v12, v13⟩ := v
  obtain ⟨hs1, hd1, q0, q1, q2, q4, q5, q6, q7, q8, q9, q10, q11, q12, q13⟩ := hF
  obtain ⟨u, hu⟩ := frame_by t' hs1
  simp only at hd1 q0 q1 q2 q4 q5 q6 q7 q8 q9 q10 q11 q12 q13
  subst hu hd1
  have e0 : u 0 = v0 := q0
  have e1 : u 1 = v1 := q1
  have e2 : u 2 = v2 := q2
  have e4 : u 4 = v4 := q4
  have e5 : u 5 = v5 := q5
  have e6 : u 6 = v6 := q6
  have e7 : u 7 = v7 := q7
  have e8 : u 8 = v8 := q8
  have e9 : u 9 = v9 := q9
  have e10 : u 10 = v10 := q10
  have e11 : u 11 = v11 := q11
  have e12 : u 12 = v12 := q12
  have e13 : u 13 = v13 := q13
  rw [e0, e1, e2, e4, e5, e6, e7, e8, e9, e10, e11, e12, e13]
  clear q0 e0 q1 e1 q2 e2 q4 e4 q5 e5 q6 e6 q7 e7 q8 e8 q9 e9 q10 e10 q11 e11 q12 e12 q13 e13 hs1
  simp only [Tryd.f3, Option.getD_some, regOf] at hc
  injection hc with hc
  subst hc
  generalize u 3 = u3
  generalize u 14 = u14
  generalize u 15 = u15
  generalize u 16 = u16
  generalize u 17 = u17
  generalize u 18 = u18
  generalize u 19 = u19
  generalize u 20 = u20
  generalize u 21 = u21
  generalize u 22 = u22
  generalize u 23 = u23
  generalize u 24 = u24
  generalize u 25 = u25
  generalize u 26 = u26
  generalize u 27 = u27
  generalize u 28 = u28
  generalize u 29 = u29
  generalize u 30 = u30
  generalize u 31 = u31
  generalize u 32 = u32
  generalize u 33 = u33
  generalize u 34 = u34
  generalize u 35 = u35
  generalize u 36 = u36
  generalize u 37 = u37
  generalize u 38 = u38
  generalize u 39 = u39
  generalize u 40 = u40
  generalize u 41 = u41
  generalize u 42 = u42
  generalize u 43 = u43
  generalize u 44 = u44
  generalize u 45 = u45
  generalize u 46 = u46
  generalize u 47 = u47
  generalize u 48 = u48
  generalize u 49 = u49
  generalize u 50 = u50
  generalize u 51 = u51
  generalize u 52 = u52
  generalize u 53 = u53
  generalize u 54 = u54
  generalize u 55 = u55
  generalize u 56 = u56
  generalize u 57 = u57
  generalize u 58 = u58
  generalize u 59 = u59
  generalize u 60 = u60
  generalize u 61 = u61
  generalize u 62 = u62
  generalize u 63 = u63
  generalize u 64 = u64
  generalize u 65 = u65
  generalize u 66 = u66
  generalize u 67 = u67
  generalize u 68 = u68
  generalize u 69 = u69
  generalize u 70 = u70
  generalize u 71 = u71
  generalize u 72 = u72
  generalize u 73 = u73
  generalize u 74 = u74
  generalize u 75 = u75
  generalize u 76 = u76
  generalize u 77 = u77
  clear u
  have HC := hide hC
  clear hC
  go_wp2_with (go_at_call 7; refine (HC.out _ (Below.refl _ _)).mono ?_; rintro e w1 ⟨rfl, b1⟩)
  exact HQ.out _ _ ⟨rfl, rfl, rfl, rfl, rfl, rfl, rfl, rfl, rfl, rfl, rfl, rfl, rfl, rfl, rfl⟩ b1
set_option maxHeartbeats 8000000 in
set_option maxRecDepth 100000 in
theorem by_r2 {K : Act → World → Prop} {c : Code} (hc : regOf (Tryd.f3.body.getD .skip) 2 = some c) (a : Act) {v : Vby} {wq : World} {b : Nat} {x : CM} {T : ByteArray} {er : Int} (hF : Fby a v) (h2v : v.v2 = .pointer (some ⟨b, 0, none⟩)) (hB : wq.heap[b]? = some (.cells x.cells 23 (0, 0))) (hC : ∀ W, Below wq.heap.size wq W → Calls Tryd.prog 8 #[x.v] W fun e w' => e = .returned (.tuple #[.string T, .int .i64 er]) ∧ Below W.heap.size W w')
    (hQ : ∀ a' w', Fby a' { v with v6 := .string T, v7 := .int .i64 er } → Below wq.heap.size wq w' → K a' w') :
    Code.wp Tryd.prog c (Exit.then K fun _ _ _ => False) a wq := by
  have HQ := hide hQ
  clear hQ
  obtain ⟨t', d'⟩ := a
  obtain ⟨v0, v1, v2, v4, v5, v6, v7, v8, v9, v10, v11, v12, v13⟩ := v
  simp only at h2v HQ
  subst h2v
  obtain ⟨hs1, hd1, q0, q1, q2, q4, q5, q6, q7, q8, q9, q10, q11, q12, q13⟩ := hF
  obtain ⟨u, hu⟩ := frame_by t' hs1
  simp only at hd1 q0 q1 q2 q4 q5 q6 q7 q8 q9 q10 q11 q12 q13
  subst hu hd1
  have e0 : u 0 = v0 := q0
  have e1 : u 1 = v1 := q1
  have e2 : u 2 = .pointer (some ⟨b, 0, none⟩) := q2
  have e4 : u 4 = v4 := q4
  have e5 : u 5 = v5 := q5
  have e6 : u 6 = v6 := q6
  have e7 : u 7 = v7 := q7
  have e8 : u 8 = v8 := q8
  have e9 : u 9 = v9 := q9
  have e10 : u 10 = v10 := q10
  have e11 : u 11 = v11 := q11
  have e12 : u 12 = v12 := q12
  have e13 : u 13 = v13 := q13
  rw [e0, e1, e2, e4, e5, e6, e7, e8, e9, e10, e11, e12, e13]
  clear q0 e0 q1 e1 q2 e2 q4 e4 q5 e5 q6 e6 q7 e7 q8 e8 q9 e9 q10 e10 q11 e11 q12 e12 q13 e13 hs1
  simp only [Tryd.f3, Option.getD_some, regOf] at hc
  injection hc with hc
  subst hc
  generalize u 3 = u3
  generalize u 14 = u14
  generalize u 15 = u15
  generalize u 16 = u16
  generalize u 17 = u17
  generalize u 18 = u18
  generalize u 19 = u19
  generalize u 20 = u20
  generalize u 21 = u21
  generalize u 22 = u22
  generalize u 23 = u23
  generalize u 24 = u24
  generalize u 25 = u25
  generalize u 26 = u26
  generalize u 27 = u27
  generalize u 28 = u28
  generalize u 29 = u29
  generalize u 30 = u30
  generalize u 31 = u31
  generalize u 32 = u32
  generalize u 33 = u33
  generalize u 34 = u34
  generalize u 35 = u35
  generalize u 36 = u36
  generalize u 37 = u37
  generalize u 38 = u38
  generalize u 39 = u39
  generalize u 40 = u40
  generalize u 41 = u41
  generalize u 42 = u42
  generalize u 43 = u43
  generalize u 44 = u44
  generalize u 45 = u45
  generalize u 46 = u46
  generalize u 47 = u47
  generalize u 48 = u48
  generalize u 49 = u49
  generalize u 50 = u50
  generalize u 51 = u51
  generalize u 52 = u52
  generalize u 53 = u53
  generalize u 54 = u54
  generalize u 55 = u55
  generalize u 56 = u56
  generalize u 57 = u57
  generalize u 58 = u58
  generalize u 59 = u59
  generalize u 60 = u60
  generalize u 61 = u61
  generalize u 62 = u62
  generalize u 63 = u63
  generalize u 64 = u64
  generalize u 65 = u65
  generalize u 66 = u66
  generalize u 67 = u67
  generalize u 68 = u68
  generalize u 69 = u69
  generalize u 70 = u70
  generalize u 71 = u71
  generalize u 72 = u72
  generalize u 73 = u73
  generalize u 74 = u74
  generalize u 75 = u75
  generalize u 76 = u76
  generalize u 77 = u77
  clear u
  have HC := hide hC
  have c0 := box_cell hB 0 rfl
  have c1 := box_cell hB 1 rfl
  have c2 := box_cell hB 2 rfl
  have c3 := box_cell hB 3 rfl
  have c4 := box_cell hB 4 rfl
  have c5 := box_cell hB 5 rfl
  have c6 := box_cell hB 6 rfl
  have c7 := box_cell hB 7 rfl
  have c8 := box_cell hB 8 rfl
  clear hC hB
  simp only [CM.v, CM.cells] at *
  go_wp2_with (go_at_call 8; refine (HC.out _ (Below.refl _ _)).mono ?_; rintro e w1 ⟨rfl, b1⟩)
  exact HQ.out _ _ ⟨rfl, rfl, rfl, rfl, rfl, rfl, rfl, rfl, rfl, rfl, rfl, rfl, rfl, rfl, rfl⟩ b1
set_option maxHeartbeats 8000000 in
set_option maxRecDepth 100000 in
theorem by_r3 {K : Act → World → Prop} {c : Code} (hc : regOf (Tryd.f3.body.getD .skip) 3 = some c) (a : Act) {v : Vby} {wq : World} {b : Nat} {x : CM} {T : ByteArray} {rr : Bool} (hF : Fby a v) (h2v : v.v2 = .pointer (some ⟨b, 0, none⟩)) (hB : wq.heap[b]? = some (.cells x.cells 23 (0, 0))) (hC : ∀ W, Below wq.heap.size wq W → Calls Tryd.prog 9 #[x.v] W fun e w' => e = .returned (.tuple #[.string T, .bool rr]) ∧ Below W.heap.size W w')
    (hQ : ∀ a' w', Fby a' { v with v8 := .string T, v9 := .bool rr } → Below wq.heap.size wq w' → K a' w') :
    Code.wp Tryd.prog c (Exit.then K fun _ _ _ => False) a wq := by
  have HQ := hide hQ
  clear hQ
  obtain ⟨t', d'⟩ := a
  obtain ⟨v0, v1, v2, v4, v5, v6, v7, v8, v9, v10, v11, v12, v13⟩ := v
  simp only at h2v HQ
  subst h2v
  obtain ⟨hs1, hd1, q0, q1, q2, q4, q5, q6, q7, q8, q9, q10, q11, q12, q13⟩ := hF
  obtain ⟨u, hu⟩ := frame_by t' hs1
  simp only at hd1 q0 q1 q2 q4 q5 q6 q7 q8 q9 q10 q11 q12 q13
  subst hu hd1
  have e0 : u 0 = v0 := q0
  have e1 : u 1 = v1 := q1
  have e2 : u 2 = .pointer (some ⟨b, 0, none⟩) := q2
  have e4 : u 4 = v4 := q4
  have e5 : u 5 = v5 := q5
  have e6 : u 6 = v6 := q6
  have e7 : u 7 = v7 := q7
  have e8 : u 8 = v8 := q8
  have e9 : u 9 = v9 := q9
  have e10 : u 10 = v10 := q10
  have e11 : u 11 = v11 := q11
  have e12 : u 12 = v12 := q12
  have e13 : u 13 = v13 := q13
  rw [e0, e1, e2, e4, e5, e6, e7, e8, e9, e10, e11, e12, e13]
  clear q0 e0 q1 e1 q2 e2 q4 e4 q5 e5 q6 e6 q7 e7 q8 e8 q9 e9 q10 e10 q11 e11 q12 e12 q13 e13 hs1
  simp only [Tryd.f3, Option.getD_some, regOf] at hc
  injection hc with hc
  subst hc
  generalize u 3 = u3
  generalize u 14 = u14
  generalize u 15 = u15
  generalize u 16 = u16
  generalize u 17 = u17
  generalize u 18 = u18
  generalize u 19 = u19
  generalize u 20 = u20
  generalize u 21 = u21
  generalize u 22 = u22
  generalize u 23 = u23
  generalize u 24 = u24
  generalize u 25 = u25
  generalize u 26 = u26
  generalize u 27 = u27
  generalize u 28 = u28
  generalize u 29 = u29
  generalize u 30 = u30
  generalize u 31 = u31
  generalize u 32 = u32
  generalize u 33 = u33
  generalize u 34 = u34
  generalize u 35 = u35
  generalize u 36 = u36
  generalize u 37 = u37
  generalize u 38 = u38
  generalize u 39 = u39
  generalize u 40 = u40
  generalize u 41 = u41
  generalize u 42 = u42
  generalize u 43 = u43
  generalize u 44 = u44
  generalize u 45 = u45
  generalize u 46 = u46
  generalize u 47 = u47
  generalize u 48 = u48
  generalize u 49 = u49
  generalize u 50 = u50
  generalize u 51 = u51
  generalize u 52 = u52
  generalize u 53 = u53
  generalize u 54 = u54
  generalize u 55 = u55
  generalize u 56 = u56
  generalize u 57 = u57
  generalize u 58 = u58
  generalize u 59 = u59
  generalize u 60 = u60
  generalize u 61 = u61
  generalize u 62 = u62
  generalize u 63 = u63
  generalize u 64 = u64
  generalize u 65 = u65
  generalize u 66 = u66
  generalize u 67 = u67
  generalize u 68 = u68
  generalize u 69 = u69
  generalize u 70 = u70
  generalize u 71 = u71
  generalize u 72 = u72
  generalize u 73 = u73
  generalize u 74 = u74
  generalize u 75 = u75
  generalize u 76 = u76
  generalize u 77 = u77
  clear u
  have HC := hide hC
  have c0 := box_cell hB 0 rfl
  have c1 := box_cell hB 1 rfl
  have c2 := box_cell hB 2 rfl
  have c3 := box_cell hB 3 rfl
  have c4 := box_cell hB 4 rfl
  have c5 := box_cell hB 5 rfl
  have c6 := box_cell hB 6 rfl
  have c7 := box_cell hB 7 rfl
  have c8 := box_cell hB 8 rfl
  clear hC hB
  simp only [CM.v, CM.cells] at *
  go_wp2_with (go_at_call 9; refine (HC.out _ (Below.refl _ _)).mono ?_; rintro e w1 ⟨rfl, b1⟩)
  exact HQ.out _ _ ⟨rfl, rfl, rfl, rfl, rfl, rfl, rfl, rfl, rfl, rfl, rfl, rfl, rfl, rfl, rfl⟩ b1
set_option maxHeartbeats 8000000 in
set_option maxRecDepth 100000 in
theorem by_r4 {K : Act → World → Prop} {c : Code} (hc : regOf (Tryd.f3.body.getD .skip) 4 = some c) (a : Act) {v : Vby} {wq : World} {T : ByteArray} {x : CM} {er : Int} (hF : Fby a v) (h1v : v.v1 = .string T) (hC : ∀ W, Below wq.heap.size wq W → Calls Tryd.prog 10 #[.string T] W fun e w' => e = .returned (.tuple #[x.v, .int .i64 er]) ∧ Below W.heap.size W w')
    (hQ : ∀ a' w' b, Fby a' { v with v10 := .pointer (some ⟨b, 0, none⟩), v11 := .int .i64 er } → w'.heap[b]? = some (.cells x.cells 23 (0, 0)) → Below wq.heap.size wq w' → K a' w') :
    Code.wp Tryd.prog c (Exit.then K fun _ _ _ => False) a wq := by
  have HQ := hide hQ
  clear hQ
  obtain ⟨t', d'⟩ := a
  obtain ⟨v0, v1, v2, v4, v5, v6, v7, v8, v9, v10, v11, v12, v13⟩ := v
  simp only at h1v HQ
  subst h1v
  obtain ⟨hs1, hd1, q0, q1, q2, q4, q5, q6, q7, q8, q9, q10, q11, q12, q13⟩ := hF
  obtain ⟨u, hu⟩ := frame_by t' hs1
  simp only at hd1 q0 q1 q2 q4 q5 q6 q7 q8 q9 q10 q11 q12 q13
  subst hu hd1
  have e0 : u 0 = v0 := q0
  have e1 : u 1 = .string T := q1
  have e2 : u 2 = v2 := q2
  have e4 : u 4 = v4 := q4
  have e5 : u 5 = v5 := q5
  have e6 : u 6 = v6 := q6
  have e7 : u 7 = v7 := q7
  have e8 : u 8 = v8 := q8
  have e9 : u 9 = v9 := q9
  have e10 : u 10 = v10 := q10
  have e11 : u 11 = v11 := q11
  have e12 : u 12 = v12 := q12
  have e13 : u 13 = v13 := q13
  rw [e0, e1, e2, e4, e5, e6, e7, e8, e9, e10, e11, e12, e13]
  clear q0 e0 q1 e1 q2 e2 q4 e4 q5 e5 q6 e6 q7 e7 q8 e8 q9 e9 q10 e10 q11 e11 q12 e12 q13 e13 hs1
  simp only [Tryd.f3, Option.getD_some, regOf] at hc
  injection hc with hc
  subst hc
  generalize u 3 = u3
  generalize u 14 = u14
  generalize u 15 = u15
  generalize u 16 = u16
  generalize u 17 = u17
  generalize u 18 = u18
  generalize u 19 = u19
  generalize u 20 = u20
  generalize u 21 = u21
  generalize u 22 = u22
  generalize u 23 = u23
  generalize u 24 = u24
  generalize u 25 = u25
  generalize u 26 = u26
  generalize u 27 = u27
  generalize u 28 = u28
  generalize u 29 = u29
  generalize u 30 = u30
  generalize u 31 = u31
  generalize u 32 = u32
  generalize u 33 = u33
  generalize u 34 = u34
  generalize u 35 = u35
  generalize u 36 = u36
  generalize u 37 = u37
  generalize u 38 = u38
  generalize u 39 = u39
  generalize u 40 = u40
  generalize u 41 = u41
  generalize u 42 = u42
  generalize u 43 = u43
  generalize u 44 = u44
  generalize u 45 = u45
  generalize u 46 = u46
  generalize u 47 = u47
  generalize u 48 = u48
  generalize u 49 = u49
  generalize u 50 = u50
  generalize u 51 = u51
  generalize u 52 = u52
  generalize u 53 = u53
  generalize u 54 = u54
  generalize u 55 = u55
  generalize u 56 = u56
  generalize u 57 = u57
  generalize u 58 = u58
  generalize u 59 = u59
  generalize u 60 = u60
  generalize u 61 = u61
  generalize u 62 = u62
  generalize u 63 = u63
  generalize u 64 = u64
  generalize u 65 = u65
  generalize u 66 = u66
  generalize u 67 = u67
  generalize u 68 = u68
  generalize u 69 = u69
  generalize u 70 = u70
  generalize u 71 = u71
  generalize u 72 = u72
  generalize u 73 = u73
  generalize u 74 = u74
  generalize u 75 = u75
  generalize u 76 = u76
  generalize u 77 = u77
  clear u
  have HC := hide hC
  clear hC
  simp only [CM.v, CM.cells] at *
  go_wp2_with (go_at_call 10; refine (HC.out _ (Below.refl _ _)).mono ?_; rintro e w1 ⟨rfl, b1⟩)
  exact HQ.out _ _ w1.heap.size ⟨rfl, rfl, rfl, rfl, rfl, rfl, rfl, rfl, rfl, rfl, rfl, rfl, rfl, rfl, rfl⟩ (heap_alloc_new _ _) (b1.alloc b1.size _)
set_option maxHeartbeats 8000000 in
set_option maxRecDepth 100000 in
theorem by_r5 {K : Act → World → Prop} {c : Code} (hc : regOf (Tryd.f3.body.getD .skip) 5 = some c) (a : Act) {v : Vby} {wq : World} {T : ByteArray} {x : CM} {er : Int} (hF : Fby a v) (h1v : v.v1 = .string T) (hC : ∀ W, Below wq.heap.size wq W → Calls Tryd.prog 11 #[.string T] W fun e w' => e = .returned (.tuple #[x.v, .int .i64 er]) ∧ Below W.heap.size W w')
    (hQ : ∀ a' w' b, Fby a' { v with v12 := .pointer (some ⟨b, 0, none⟩), v13 := .int .i64 er } → w'.heap[b]? = some (.cells x.cells 23 (0, 0)) → Below wq.heap.size wq w' → K a' w') :
    Code.wp Tryd.prog c (Exit.then K fun _ _ _ => False) a wq := by
  have HQ := hide hQ
  clear hQ
  obtain ⟨t', d'⟩ := a
  obtain ⟨v0, v1, v2, v4, v5, v6, v7, v8, v9, v10, v11, v12, v13⟩ := v
  simp only at h1v HQ
  subst h1v
  obtain ⟨hs1, hd1, q0, q1, q2, q4, q5, q6, q7, q8, q9, q10, q11, q12, q13⟩ := hF
  obtain ⟨u, hu⟩ := frame_by t' hs1
  simp only at hd1 q0 q1 q2 q4 q5 q6 q7 q8 q9 q10 q11 q12 q13
  subst hu hd1
  have e0 : u 0 = v0 := q0
  have e1 : u 1 = .string T := q1
  have e2 : u 2 = v2 := q2
  have e4 : u 4 = v4 := q4
  have e5 : u 5 = v5 := q5
  have e6 : u 6 = v6 := q6
  have e7 : u 7 = v7 := q7
  have e8 : u 8 = v8 := q8
  have e9 : u 9 = v9 := q9
  have e10 : u 10 = v10 := q10
  have e11 : u 11 = v11 := q11
  have e12 : u 12 = v12 := q12
  have e13 : u 13 = v13 := q13
  rw [e0, e1, e2, e4, e5, e6, e7, e8, e9, e10, e11, e12, e13]
  clear q0 e0 q1 e1 q2 e2 q4 e4 q5 e5 q6 e6 q7 e7 q8 e8 q9 e9 q10 e10 q11 e11 q12 e12 q13 e13 hs1
  simp only [Tryd.f3, Option.getD_some, regOf] at hc
  injection hc with hc
  subst hc
  generalize u 3 = u3
  generalize u 14 = u14
  generalize u 15 = u15
  generalize u 16 = u16
  generalize u 17 = u17
  generalize u 18 = u18
  generalize u 19 = u19
  generalize u 20 = u20
  generalize u 21 = u21
  generalize u 22 = u22
  generalize u 23 = u23
  generalize u 24 = u24
  generalize u 25 = u25
  generalize u 26 = u26
  generalize u 27 = u27
  generalize u 28 = u28
  generalize u 29 = u29
  generalize u 30 = u30
  generalize u 31 = u31
  generalize u 32 = u32
  generalize u 33 = u33
  generalize u 34 = u34
  generalize u 35 = u35
  generalize u 36 = u36
  generalize u 37 = u37
  generalize u 38 = u38
  generalize u 39 = u39
  generalize u 40 = u40
  generalize u 41 = u41
  generalize u 42 = u42
  generalize u 43 = u43
  generalize u 44 = u44
  generalize u 45 = u45
  generalize u 46 = u46
  generalize u 47 = u47
  generalize u 48 = u48
  generalize u 49 = u49
  generalize u 50 = u50
  generalize u 51 = u51
  generalize u 52 = u52
  generalize u 53 = u53
  generalize u 54 = u54
  generalize u 55 = u55
  generalize u 56 = u56
  generalize u 57 = u57
  generalize u 58 = u58
  generalize u 59 = u59
  generalize u 60 = u60
  generalize u 61 = u61
  generalize u 62 = u62
  generalize u 63 = u63
  generalize u 64 = u64
  generalize u 65 = u65
  generalize u 66 = u66
  generalize u 67 = u67
  generalize u 68 = u68
  generalize u 69 = u69
  generalize u 70 = u70
  generalize u 71 = u71
  generalize u 72 = u72
  generalize u 73 = u73
  generalize u 74 = u74
  generalize u 75 = u75
  generalize u 76 = u76
  generalize u 77 = u77
  clear u
  have HC := hide hC
  clear hC
  simp only [CM.v, CM.cells] at *
  go_wp2_with (go_at_call 11; refine (HC.out _ (Below.refl _ _)).mono ?_; rintro e w1 ⟨rfl, b1⟩)
  exact HQ.out _ _ w1.heap.size ⟨rfl, rfl, rfl, rfl, rfl, rfl, rfl, rfl, rfl, rfl, rfl, rfl, rfl, rfl, rfl⟩ (heap_alloc_new _ _) (b1.alloc b1.size _)
set_option maxHeartbeats 8000000 in
set_option maxRecDepth 100000 in
theorem by_r6t {K : Act → World → Prop} {c : Code} (hc : regOf (Tryd.f3.body.getD .skip) 6 = some c) (a : Act) {v : Vby} {wq : World} {b b1 b2 : Nat} {xk xs xn xo xa dk ds dn doo da er : Int} {xt xm xy xv dt dm dy dv zs T : ByteArray} {wb : Bool} (hF : Fby a v) (h1v : v.v1 = .string zs) (h2v : v.v2 = .pointer (some ⟨b, 0, none⟩)) (h5v : v.v5 = .bool true) (h6v : v.v6 = .string T) (h7v : v.v7 = .int .i64 0) (h8v : v.v8 = .string T) (h9v : v.v9 = .bool true) (h10v : v.v10 = .pointer (some ⟨b1, 0, none⟩)) (h11v : v.v11 = .int .i64 er) (h12v : v.v12 = .pointer (some ⟨b2, 0, none⟩)) (h13v : v.v13 = .int .i64 er) (hB : wq.heap[b]? = some (.cells #[.int .i64 xk, .string xt, .string xm, .int .i64 xs, .string xy, .string xv, .int .i64 xn, .int .i64 xo, .int .i64 xa] 23 (0, 0))) (h1 : wq.heap[b1]? = some (.cells #[.int .i64 dk, .string dt, .string dm, .int .i64 ds, .string dy, .string dv, .int .i64 dn, .int .i64 doo, .int .i64 da] 23 (0, 0))) (h2 : wq.heap[b2]? = some (.cells #[.int .i64 dk, .string dt, .string dm, .int .i64 ds, .string dy, .string dv, .int .i64 dn, .int .i64 doo, .int .i64 da] 23 (0, 0))) (hR1 : ∀ W, Below wq.heap.size wq W → Calls Tryd.prog 12 #[.agg #[.int .i64 xk, .string xt, .string xm, .int .i64 xs, .string xy, .string xv, .int .i64 xn, .int .i64 xo, .int .i64 xa]] W fun e w' => e = .returned (.bool true) ∧ Below W.heap.size W w') (hR2 : ∀ W, Below wq.heap.size wq W → Calls Tryd.prog 13 #[.agg #[.int .i64 xk, .string xt, .string xm, .int .i64 xs, .string xy, .string xv, .int .i64 xn, .int .i64 xo, .int .i64 xa]] W fun e w' => e = .returned (.bool true) ∧ Below W.heap.size W w') (hW1 : ∀ W, Below wq.heap.size wq W → Calls Tryd.prog 14 #[.string zs] W fun e w' => e = .returned (.bool wb) ∧ Below W.heap.size W w') (hW2 : ∀ W, Below wq.heap.size wq W → Calls Tryd.prog 15 #[.string zs] W fun e w' => e = .returned (.bool wb) ∧ Below W.heap.size W w')
    (hQ : ∀ a' w', Fby a' { v with v4 := .bool true } → Below wq.heap.size wq w' → K a' w') :
    Code.wp Tryd.prog c (Exit.then K fun _ _ _ => False) a wq := by
  have HQ := hide hQ
  clear hQ
  obtain ⟨t', d'⟩ := a
  obtain ⟨v0, v1, v2, v4, v5, v6, v7, v8, v9, v10, v11, v12, v13⟩ := v
  simp only at h1v h2v h5v h6v h7v h8v h9v h10v h11v h12v h13v HQ
  subst h1v h2v h5v h6v h7v h8v h9v h10v h11v h12v h13v
  obtain ⟨hs1, hd1, q0, q1, q2, q4, q5, q6, q7, q8, q9, q10, q11, q12, q13⟩ := hF
  obtain ⟨u, hu⟩ := frame_by t' hs1
  simp only at hd1 q0 q1 q2 q4 q5 q6 q7 q8 q9 q10 q11 q12 q13
  subst hu hd1
  have e0 : u 0 = v0 := q0
  have e1 : u 1 = .string zs := q1
  have e2 : u 2 = .pointer (some ⟨b, 0, none⟩) := q2
  have e4 : u 4 = v4 := q4
  have e5 : u 5 = .bool true := q5
  have e6 : u 6 = .string T := q6
  have e7 : u 7 = .int .i64 0 := q7
  have e8 : u 8 = .string T := q8
  have e9 : u 9 = .bool true := q9
  have e10 : u 10 = .pointer (some ⟨b1, 0, none⟩) := q10
  have e11 : u 11 = .int .i64 er := q11
  have e12 : u 12 = .pointer (some ⟨b2, 0, none⟩) := q12
  have e13 : u 13 = .int .i64 er := q13
  rw [e0, e1, e2, e4, e5, e6, e7, e8, e9, e10, e11, e12, e13]
  clear q0 e0 q1 e1 q2 e2 q4 e4 q5 e5 q6 e6 q7 e7 q8 e8 q9 e9 q10 e10 q11 e11 q12 e12 q13 e13 hs1
  simp only [Tryd.f3, Option.getD_some, regOf] at hc
  injection hc with hc
  subst hc
  generalize u 3 = u3
  generalize u 14 = u14
  generalize u 15 = u15
  generalize u 16 = u16
  generalize u 17 = u17
  generalize u 18 = u18
  generalize u 19 = u19
  generalize u 20 = u20
  generalize u 21 = u21
  generalize u 22 = u22
  generalize u 23 = u23
  generalize u 24 = u24
  generalize u 25 = u25
  generalize u 26 = u26
  generalize u 27 = u27
  generalize u 28 = u28
  generalize u 29 = u29
  generalize u 30 = u30
  generalize u 31 = u31
  generalize u 32 = u32
  generalize u 33 = u33
  generalize u 34 = u34
  generalize u 35 = u35
  generalize u 36 = u36
  generalize u 37 = u37
  generalize u 38 = u38
  generalize u 39 = u39
  generalize u 40 = u40
  generalize u 41 = u41
  generalize u 42 = u42
  generalize u 43 = u43
  generalize u 44 = u44
  generalize u 45 = u45
  generalize u 46 = u46
  generalize u 47 = u47
  generalize u 48 = u48
  generalize u 49 = u49
  generalize u 50 = u50
  generalize u 51 = u51
  generalize u 52 = u52
  generalize u 53 = u53
  generalize u 54 = u54
  generalize u 55 = u55
  generalize u 56 = u56
  generalize u 57 = u57
  generalize u 58 = u58
  generalize u 59 = u59
  generalize u 60 = u60
  generalize u 61 = u61
  generalize u 62 = u62
  generalize u 63 = u63
  generalize u 64 = u64
  generalize u 65 = u65
  generalize u 66 = u66
  generalize u 67 = u67
  generalize u 68 = u68
  generalize u 69 = u69
  generalize u 70 = u70
  generalize u 71 = u71
  generalize u 72 = u72
  generalize u 73 = u73
  generalize u 74 = u74
  generalize u 75 = u75
  generalize u 76 = u76
  generalize u 77 = u77
  clear u
  refine wp_region_phi (by kernel_rfl) (ns := 78) (uses := (fun i => match i with | 0 => [35] | 1 => [36] | 2 => [37] | 3 => [38] | 4 => [39] | 5 => [40] | 6 => [41] | 7 => [42] | 8 => [43] | 9 => [44] | 10 => [45] | 11 => [46] | 12 => [47] | 13 => [48] | 14 => [49] | 15 => [50] | 16 => [51] | 17 => [52] | 18 => [53] | 19 => [54] | 20 => [55] | 21 => [56] | 22 => [57] | 23 => [58] | 24 => [59] | 25 => [60] | 26 => [61] | 27 => [62] | 28 => [63] | 29 => [64] | 30 => [65] | 31 => [66] | 32 => [67] | 33 => [68] | 34 => [69] | 35 => [70] | 36 => [71] | 37 => [72] | 38 => [73] | 39 => [74] | 40 => [75] | 41 => [76] | 42 => [77] | 43 => [4] | _ => [])) (by kernel_rfl) (by kernel_rfl) (fun _ w w' => Below w.heap.size w w') (fun w => Below wq.heap.size wq w) (fun _ _ _ h r => h.trans (r.mono h.size)) ((Below.refl _ _).drew) (fun i => match i with | 0 => fun s w => s 35 = .bool true | 1 => fun s w => s 36 = .bool true | 2 => fun s w => s 37 = .agg #[.int .i64 xk, .string xt, .string xm, .int .i64 xs, .string xy, .string xv, .int .i64 xn, .int .i64 xo, .int .i64 xa] | 3 => fun s w => s 38 = .bool true | 4 => fun s w => s 39 = .agg #[.int .i64 xk, .string xt, .string xm, .int .i64 xs, .string xy, .string xv, .int .i64 xn, .int .i64 xo, .int .i64 xa] | 5 => fun s w => s 40 = .bool true | 6 => fun s w => s 41 = .bool true | 7 => fun s w => s 42 = .bool true | 8 => fun s w => s 43 = .bool true | 9 => fun s w => s 44 = .string T | 10 => fun s w => s 45 = .string T | 11 => fun s w => s 46 = .bool true | 12 => fun s w => s 47 = .bool true | 13 => fun s w => s 48 = .bool true | 14 => fun s w => s 49 = .int .i64 0 | 15 => fun s w => s 50 = .bool true | 16 => fun s w => s 51 = .bool true | 17 => fun s w => s 52 = .bool true | 18 => fun s w => s 53 = .bool true | 19 => fun s w => s 54 = .bool true | 20 => fun s w => s 55 = .bool true | 21 => fun s w => s 56 = .bool true | 22 => fun s w => s 57 = undef | 23 => fun s w => s 58 = undef | 24 => fun s w => s 59 = .bool true | 25 => fun s w => s 60 = .bool true | 26 => fun s w => s 61 = .bool true | 27 => fun s w => s 62 = .agg #[.int .i64 dk, .string dt, .string dm, .int .i64 ds, .string dy, .string dv, .int .i64 dn, .int .i64 doo, .int .i64 da] | 28 => fun s w => s 63 = .agg #[.int .i64 dk, .string dt, .string dm, .int .i64 ds, .string dy, .string dv, .int .i64 dn, .int .i64 doo, .int .i64 da] | 29 => fun s w => s 64 = .bool true | 30 => fun s w => s 65 = .bool true | 31 => fun s w => s 66 = .bool true | 32 => fun s w => s 67 = .int .i64 er | 33 => fun s w => s 68 = .int .i64 er | 34 => fun s w => s 69 = .bool true | 35 => fun s w => s 70 = .bool true | 36 => fun s w => s 71 = .bool true | 37 => fun s w => s 72 = .string zs | 38 => fun s w => s 73 = .bool wb | 39 => fun s w => s 74 = .string zs | 40 => fun s w => s 75 = .bool wb | 41 => fun s w => s 76 = .bool true | 42 => fun s w => s 77 = .bool true | 43 => fun s w => s 4 = .bool true | _ => fun _ _ => True) ?phc ?phh ?pstep ?pdone
  case phc =>
    intro i s s' w hx h
    match i, hx, h with
    | 0, hx, h =>
      have e35 := hx 35 (by simp)
      first | exact (show _ from by simp only [← e35] at *; exact h) | (simp only [e35] at h; exact h)
    | 1, hx, h =>
      have e36 := hx 36 (by simp)
      first | exact (show _ from by simp only [← e36] at *; exact h) | (simp only [e36] at h; exact h)
    | 2, hx, h =>
      have e37 := hx 37 (by simp)
      first | exact (show _ from by simp only [← e37] at *; exact h) | (simp only [e37] at h; exact h)
    | 3, hx, h =>
      have e38 := hx 38 (by simp)
      first | exact (show _ from by simp only [← e38] at *; exact h) | (simp only [e38] at h; exact h)
    | 4, hx, h =>
      have e39 := hx 39 (by simp)
      first | exact (show _ from by simp only [← e39] at *; exact h) | (simp only [e39] at h; exact h)
    | 5, hx, h =>
      have e40 := hx 40 (by simp)
      first | exact (show _ from by simp only [← e40] at *; exact h) | (simp only [e40] at h; exact h)
    | 6, hx, h =>
      have e41 := hx 41 (by simp)
      first | exact (show _ from by simp only [← e41] at *; exact h) | (simp only [e41] at h; exact h)
    | 7, hx, h =>
      have e42 := hx 42 (by simp)
      first | exact (show _ from by simp only [← e42] at *; exact h) | (simp only [e42] at h; exact h)
    | 8, hx, h =>
      have e43 := hx 43 (by simp)
      first | exact (show _ from by simp only [← e43] at *; exact h) | (simp only [e43] at h; exact h)
    | 9, hx, h =>
      have e44 := hx 44 (by simp)
      first | exact (show _ from by simp only [← e44] at *; exact h) | (simp only [e44] at h; exact h)
    | 10, hx, h =>
      have e45 := hx 45 (by simp)
      first | exact (show _ from by simp only [← e45] at *; exact h) | (simp only [e45] at h; exact h)
    | 11, hx, h =>
      have e46 := hx 46 (by simp)
      first | exact (show _ from by simp only [← e46] at *; exact h) | (simp only [e46] at h; exact h)
    | 12, hx, h =>
      have e47 := hx 47 (by simp)
      first | exact (show _ from by simp only [← e47] at *; exact h) | (simp only [e47] at h; exact h)
    | 13, hx, h =>
      have e48 := hx 48 (by simp)
      first | exact (show _ from by simp only [← e48] at *; exact h) | (simp only [e48] at h; exact h)
    | 14, hx, h =>
      have e49 := hx 49 (by simp)
      first | exact (show _ from by simp only [← e49] at *; exact h) | (simp only [e49] at h; exact h)
    | 15, hx, h =>
      have e50 := hx 50 (by simp)
      first | exact (show _ from by simp only [← e50] at *; exact h) | (simp only [e50] at h; exact h)
    | 16, hx, h =>
      have e51 := hx 51 (by simp)
      first | exact (show _ from by simp only [← e51] at *; exact h) | (simp only [e51] at h; exact h)
    | 17, hx, h =>
      have e52 := hx 52 (by simp)
      first | exact (show _ from by simp only [← e52] at *; exact h) | (simp only [e52] at h; exact h)
    | 18, hx, h =>
      have e53 := hx 53 (by simp)
      first | exact (show _ from by simp only [← e53] at *; exact h) | (simp only [e53] at h; exact h)
    | 19, hx, h =>
      have e54 := hx 54 (by simp)
      first | exact (show _ from by simp only [← e54] at *; exact h) | (simp only [e54] at h; exact h)
    | 20, hx, h =>
      have e55 := hx 55 (by simp)
      first | exact (show _ from by simp only [← e55] at *; exact h) | (simp only [e55] at h; exact h)
    | 21, hx, h =>
      have e56 := hx 56 (by simp)
      first | exact (show _ from by simp only [← e56] at *; exact h) | (simp only [e56] at h; exact h)
    | 22, hx, h =>
      have e57 := hx 57 (by simp)
      first | exact (show _ from by simp only [← e57] at *; exact h) | (simp only [e57] at h; exact h)
    | 23, hx, h =>
      have e58 := hx 58 (by simp)
      first | exact (show _ from by simp only [← e58] at *; exact h) | (simp only [e58] at h; exact h)
    | 24, hx, h =>
      have e59 := hx 59 (by simp)
      first | exact (show _ from by simp only [← e59] at *; exact h) | (simp only [e59] at h; exact h)
    | 25, hx, h =>
      have e60 := hx 60 (by simp)
      first | exact (show _ from by simp only [← e60] at *; exact h) | (simp only [e60] at h; exact h)
    | 26, hx, h =>
      have e61 := hx 61 (by simp)
      first | exact (show _ from by simp only [← e61] at *; exact h) | (simp only [e61] at h; exact h)
    | 27, hx, h =>
      have e62 := hx 62 (by simp)
      first | exact (show _ from by simp only [← e62] at *; exact h) | (simp only [e62] at h; exact h)
    | 28, hx, h =>
      have e63 := hx 63 (by simp)
      first | exact (show _ from by simp only [← e63] at *; exact h) | (simp only [e63] at h; exact h)
    | 29, hx, h =>
      have e64 := hx 64 (by simp)
      first | exact (show _ from by simp only [← e64] at *; exact h) | (simp only [e64] at h; exact h)
    | 30, hx, h =>
      have e65 := hx 65 (by simp)
      first | exact (show _ from by simp only [← e65] at *; exact h) | (simp only [e65] at h; exact h)
    | 31, hx, h =>
      have e66 := hx 66 (by simp)
      first | exact (show _ from by simp only [← e66] at *; exact h) | (simp only [e66] at h; exact h)
    | 32, hx, h =>
      have e67 := hx 67 (by simp)
      first | exact (show _ from by simp only [← e67] at *; exact h) | (simp only [e67] at h; exact h)
    | 33, hx, h =>
      have e68 := hx 68 (by simp)
      first | exact (show _ from by simp only [← e68] at *; exact h) | (simp only [e68] at h; exact h)
    | 34, hx, h =>
      have e69 := hx 69 (by simp)
      first | exact (show _ from by simp only [← e69] at *; exact h) | (simp only [e69] at h; exact h)
    | 35, hx, h =>
      have e70 := hx 70 (by simp)
      first | exact (show _ from by simp only [← e70] at *; exact h) | (simp only [e70] at h; exact h)
    | 36, hx, h =>
      have e71 := hx 71 (by simp)
      first | exact (show _ from by simp only [← e71] at *; exact h) | (simp only [e71] at h; exact h)
    | 37, hx, h =>
      have e72 := hx 72 (by simp)
      first | exact (show _ from by simp only [← e72] at *; exact h) | (simp only [e72] at h; exact h)
    | 38, hx, h =>
      have e73 := hx 73 (by simp)
      first | exact (show _ from by simp only [← e73] at *; exact h) | (simp only [e73] at h; exact h)
    | 39, hx, h =>
      have e74 := hx 74 (by simp)
      first | exact (show _ from by simp only [← e74] at *; exact h) | (simp only [e74] at h; exact h)
    | 40, hx, h =>
      have e75 := hx 75 (by simp)
      first | exact (show _ from by simp only [← e75] at *; exact h) | (simp only [e75] at h; exact h)
    | 41, hx, h =>
      have e76 := hx 76 (by simp)
      first | exact (show _ from by simp only [← e76] at *; exact h) | (simp only [e76] at h; exact h)
    | 42, hx, h =>
      have e77 := hx 77 (by simp)
      first | exact (show _ from by simp only [← e77] at *; exact h) | (simp only [e77] at h; exact h)
    | 43, hx, h =>
      have e4 := hx 4 (by simp)
      first | exact (show _ from by simp only [← e4] at *; exact h) | (simp only [e4] at h; exact h)
    | (n + 44), _, h => exact h
  case phh =>
    intro i j s w w' hij h hb r
    match i, hij, h with
    | 0, hij, h =>
      exact h
    | 1, hij, h =>
      exact h
    | 2, hij, h =>
      exact h
    | 3, hij, h =>
      exact h
    | 4, hij, h =>
      exact h
    | 5, hij, h =>
      exact h
    | 6, hij, h =>
      exact h
    | 7, hij, h =>
      exact h
    | 8, hij, h =>
      exact h
    | 9, hij, h =>
      exact h
    | 10, hij, h =>
      exact h
    | 11, hij, h =>
      exact h
    | 12, hij, h =>
      exact h
    | 13, hij, h =>
      exact h
    | 14, hij, h =>
      exact h
    | 15, hij, h =>
      exact h
    | 16, hij, h =>
      exact h
    | 17, hij, h =>
      exact h
    | 18, hij, h =>
      exact h
    | 19, hij, h =>
      exact h
    | 20, hij, h =>
      exact h
    | 21, hij, h =>
      exact h
    | 22, hij, h =>
      exact h
    | 23, hij, h =>
      exact h
    | 24, hij, h =>
      exact h
    | 25, hij, h =>
      exact h
    | 26, hij, h =>
      exact h
    | 27, hij, h =>
      exact h
    | 28, hij, h =>
      exact h
    | 29, hij, h =>
      exact h
    | 30, hij, h =>
      exact h
    | 31, hij, h =>
      exact h
    | 32, hij, h =>
      exact h
    | 33, hij, h =>
      exact h
    | 34, hij, h =>
      exact h
    | 35, hij, h =>
      exact h
    | 36, hij, h =>
      exact h
    | 37, hij, h =>
      exact h
    | 38, hij, h =>
      exact h
    | 39, hij, h =>
      exact h
    | 40, hij, h =>
      exact h
    | 41, hij, h =>
      exact h
    | 42, hij, h =>
      exact h
    | 43, hij, h =>
      exact h
    | (n + 44), _, h => exact h
  case pstep =>
    intro i o ho a' w' hsa hb hd
    match i, ho with
    | 0, ho =>
      obtain rfl := Option.some.inj ho
      try dsimp only at hd
      have g5 : a'.tmps.getD 5 undef = .bool true := hsa.rest 5 (by rfl)
      refine wpOp_of rfl rfl ?_
      refine op_run (v := .bool true) (w' := w') ?_ ⟨_, rfl, ?_, ?_⟩
      · simp only [execOp, Act.eval, List.map_toArray, List.map_cons, List.map_nil, g5]; first | (go_simp; done) | rfl
      · try dsimp only
        exact (slots_put (ns := 78) (hsa.size.trans rfl) (by decide))
      · exact Below.refl _ _
    | 1, ho =>
      obtain rfl := Option.some.inj ho
      try dsimp only at hd
      have d0 : a'.tmps.getD 35 undef = .bool true := hd 0 (by rfl)
      refine wpOp_of rfl rfl ?_
      refine op_run (v := .bool true) (w' := w') ?_ ⟨_, rfl, ?_, ?_⟩
      · simp only [execOp, Act.eval, List.map_toArray, List.map_cons, List.map_nil, d0]; first | (go_simp; done) | rfl
      · try dsimp only
        exact (slots_put (ns := 78) (hsa.size.trans rfl) (by decide))
      · exact Below.refl _ _
    | 2, ho =>
      obtain rfl := Option.some.inj ho
      try dsimp only at hd
      have d1 : a'.tmps.getD 36 undef = .bool true := hd 1 (by rfl)
      have g2 : a'.tmps.getD 2 undef = .pointer (some ⟨b, 0, none⟩) := hsa.rest 2 (by rfl)
      have hz := (hb.block _ (heap_lt hB)).trans hB
      have y0 : w'.cell? ⟨b, 0, none⟩ = some (.int .i64 xk) := box_cell hz 0 rfl
      have y1 : w'.cell? ⟨b, 1, none⟩ = some (.string xt) := box_cell hz 1 rfl
      have y2 : w'.cell? ⟨b, 2, none⟩ = some (.string xm) := box_cell hz 2 rfl
      have y3 : w'.cell? ⟨b, 3, none⟩ = some (.int .i64 xs) := box_cell hz 3 rfl
      have y4 : w'.cell? ⟨b, 4, none⟩ = some (.string xy) := box_cell hz 4 rfl
      have y5 : w'.cell? ⟨b, 5, none⟩ = some (.string xv) := box_cell hz 5 rfl
      have y6 : w'.cell? ⟨b, 6, none⟩ = some (.int .i64 xn) := box_cell hz 6 rfl
      have y7 : w'.cell? ⟨b, 7, none⟩ = some (.int .i64 xo) := box_cell hz 7 rfl
      have y8 : w'.cell? ⟨b, 8, none⟩ = some (.int .i64 xa) := box_cell hz 8 rfl
      clear hz
      refine wpOp_on (j := 1) (dj := 36) rfl rfl rfl d1 ?_
      refine op_run (v := .agg #[.int .i64 xk, .string xt, .string xm, .int .i64 xs, .string xy, .string xv, .int .i64 xn, .int .i64 xo, .int .i64 xa]) (w' := w') ?_ ⟨_, rfl, ?_, ?_⟩
      · simp only [execOp, Act.eval, List.map_toArray, List.map_cons, List.map_nil, d1, g2, y0, y1, y2, y3, y4, y5, y6, y7, y8]; first | (go_simp; done) | rfl
      · try dsimp only
        exact (slots_put (ns := 78) (hsa.size.trans rfl) (by decide))
      · exact Below.refl _ _
    | 3, ho =>
      obtain rfl := Option.some.inj ho
      try dsimp only at hd
      have d1 : a'.tmps.getD 36 undef = .bool true := hd 1 (by rfl)
      have d2 : a'.tmps.getD 37 undef = .agg #[.int .i64 xk, .string xt, .string xm, .int .i64 xs, .string xy, .string xv, .int .i64 xn, .int .i64 xo, .int .i64 xa] := hd 2 (by rfl)
      refine wpOp_on (j := 1) (dj := 36) rfl rfl rfl d1 ?_
      refine op_call 12 _ _ rfl (enters_of Tryd.func12 (by kernel_rfl) rfl) [.agg #[.int .i64 xk, .string xt, .string xm, .int .i64 xs, .string xy, .string xv, .int .i64 xn, .int .i64 xo, .int .i64 xa]] (by simp only [List.map, Act.eval, d1, d2]) (hR1 w' hb) ?_
      rintro e w'' ⟨rfl, b2⟩
      refine ⟨_, rfl, _, rfl, ?_, ?_⟩
      · try dsimp only
        exact (slots_put (ns := 78) (hsa.size.trans rfl) (by decide))
      · exact b2
    | 4, ho =>
      obtain rfl := Option.some.inj ho
      try dsimp only at hd
      have d1 : a'.tmps.getD 36 undef = .bool true := hd 1 (by rfl)
      have g2 : a'.tmps.getD 2 undef = .pointer (some ⟨b, 0, none⟩) := hsa.rest 2 (by rfl)
      have hz := (hb.block _ (heap_lt hB)).trans hB
      have y0 : w'.cell? ⟨b, 0, none⟩ = some (.int .i64 xk) := box_cell hz 0 rfl
      have y1 : w'.cell? ⟨b, 1, none⟩ = some (.string xt) := box_cell hz 1 rfl
      have y2 : w'.cell? ⟨b, 2, none⟩ = some (.string xm) := box_cell hz 2 rfl
      have y3 : w'.cell? ⟨b, 3, none⟩ = some (.int .i64 xs) := box_cell hz 3 rfl
      have y4 : w'.cell? ⟨b, 4, none⟩ = some (.string xy) := box_cell hz 4 rfl
      have y5 : w'.cell? ⟨b, 5, none⟩ = some (.string xv) := box_cell hz 5 rfl
      have y6 : w'.cell? ⟨b, 6, none⟩ = some (.int .i64 xn) := box_cell hz 6 rfl
      have y7 : w'.cell? ⟨b, 7, none⟩ = some (.int .i64 xo) := box_cell hz 7 rfl
      have y8 : w'.cell? ⟨b, 8, none⟩ = some (.int .i64 xa) := box_cell hz 8 rfl
      clear hz
      refine wpOp_on (j := 1) (dj := 36) rfl rfl rfl d1 ?_
      refine op_run (v := .agg #[.int .i64 xk, .string xt, .string xm, .int .i64 xs, .string xy, .string xv, .int .i64 xn, .int .i64 xo, .int .i64 xa]) (w' := w') ?_ ⟨_, rfl, ?_, ?_⟩
      · simp only [execOp, Act.eval, List.map_toArray, List.map_cons, List.map_nil, d1, g2, y0, y1, y2, y3, y4, y5, y6, y7, y8]; first | (go_simp; done) | rfl
      · try dsimp only
        exact (slots_put (ns := 78) (hsa.size.trans rfl) (by decide))
      · exact Below.refl _ _
    | 5, ho =>
      obtain rfl := Option.some.inj ho
      try dsimp only at hd
      have d1 : a'.tmps.getD 36 undef = .bool true := hd 1 (by rfl)
      have d4 : a'.tmps.getD 39 undef = .agg #[.int .i64 xk, .string xt, .string xm, .int .i64 xs, .string xy, .string xv, .int .i64 xn, .int .i64 xo, .int .i64 xa] := hd 4 (by rfl)
      refine wpOp_on (j := 1) (dj := 36) rfl rfl rfl d1 ?_
      refine op_call 13 _ _ rfl (enters_of Tryd.func13 (by kernel_rfl) rfl) [.agg #[.int .i64 xk, .string xt, .string xm, .int .i64 xs, .string xy, .string xv, .int .i64 xn, .int .i64 xo, .int .i64 xa]] (by simp only [List.map, Act.eval, d1, d4]) (hR2 w' hb) ?_
      rintro e w'' ⟨rfl, b2⟩
      refine ⟨_, rfl, _, rfl, ?_, ?_⟩
      · try dsimp only
        exact (slots_put (ns := 78) (hsa.size.trans rfl) (by decide))
      · exact b2
    | 6, ho =>
      obtain rfl := Option.some.inj ho
      try dsimp only at hd
      have d1 : a'.tmps.getD 36 undef = .bool true := hd 1 (by rfl)
      have d3 : a'.tmps.getD 38 undef = .bool true := hd 3 (by rfl)
      have d5 : a'.tmps.getD 40 undef = .bool true := hd 5 (by rfl)
      refine wpOp_on (j := 1) (dj := 36) rfl rfl rfl d1 ?_
      refine op_run (v := .bool true) (w' := w') ?_ ⟨_, rfl, ?_, ?_⟩
      · simp only [execOp, Act.eval, List.map_toArray, List.map_cons, List.map_nil, d1, d3, d5]; first | (go_simp; done) | rfl
      · try dsimp only
        exact (slots_put (ns := 78) (hsa.size.trans rfl) (by decide))
      · exact Below.refl _ _
    | 7, ho =>
      obtain rfl := Option.some.inj ho
      try dsimp only at hd
      have d1 : a'.tmps.getD 36 undef = .bool true := hd 1 (by rfl)
      have d6 : a'.tmps.getD 41 undef = .bool true := hd 6 (by rfl)
      refine wpOp_of rfl rfl ?_
      refine op_run (v := .bool true) (w' := w') ?_ ⟨_, rfl, ?_, ?_⟩
      · simp only [execOp, Act.eval, List.map_toArray, List.map_cons, List.map_nil, d1, d6]; first | (go_simp; done) | rfl
      · try dsimp only
        exact (slots_put (ns := 78) (hsa.size.trans rfl) (by decide))
      · exact Below.refl _ _
    | 8, ho =>
      obtain rfl := Option.some.inj ho
      try dsimp only at hd
      have d7 : a'.tmps.getD 42 undef = .bool true := hd 7 (by rfl)
      refine wpOp_of rfl rfl ?_
      refine op_run (v := .bool true) (w' := w') ?_ ⟨_, rfl, ?_, ?_⟩
      · simp only [execOp, Act.eval, List.map_toArray, List.map_cons, List.map_nil, d7]; first | (go_simp; done) | rfl
      · try dsimp only
        exact (slots_put (ns := 78) (hsa.size.trans rfl) (by decide))
      · exact Below.refl _ _
    | 9, ho =>
      obtain rfl := Option.some.inj ho
      try dsimp only at hd
      have d8 : a'.tmps.getD 43 undef = .bool true := hd 8 (by rfl)
      have g6 : a'.tmps.getD 6 undef = .string T := hsa.rest 6 (by rfl)
      refine wpOp_on (j := 8) (dj := 43) rfl rfl rfl d8 ?_
      refine op_run (v := .string T) (w' := w') ?_ ⟨_, rfl, ?_, ?_⟩
      · simp only [execOp, Act.eval, List.map_toArray, List.map_cons, List.map_nil, d8, g6]; first | (go_simp; done) | rfl
      · try dsimp only
        exact (slots_put (ns := 78) (hsa.size.trans rfl) (by decide))
      · exact Below.refl _ _
    | 10, ho =>
      obtain rfl := Option.some.inj ho
      try dsimp only at hd
      have d8 : a'.tmps.getD 43 undef = .bool true := hd 8 (by rfl)
      have g8 : a'.tmps.getD 8 undef = .string T := hsa.rest 8 (by rfl)
      refine wpOp_on (j := 8) (dj := 43) rfl rfl rfl d8 ?_
      refine op_run (v := .string T) (w' := w') ?_ ⟨_, rfl, ?_, ?_⟩
      · simp only [execOp, Act.eval, List.map_toArray, List.map_cons, List.map_nil, d8, g8]; first | (go_simp; done) | rfl
      · try dsimp only
        exact (slots_put (ns := 78) (hsa.size.trans rfl) (by decide))
      · exact Below.refl _ _
    | 11, ho =>
      obtain rfl := Option.some.inj ho
      try dsimp only at hd
      have d8 : a'.tmps.getD 43 undef = .bool true := hd 8 (by rfl)
      have d9 : a'.tmps.getD 44 undef = .string T := hd 9 (by rfl)
      have d10 : a'.tmps.getD 45 undef = .string T := hd 10 (by rfl)
      refine wpOp_on (j := 8) (dj := 43) rfl rfl rfl d8 ?_
      refine op_run (v := .bool true) (w' := w') ?_ ⟨_, rfl, ?_, ?_⟩
      · simp only [execOp, Act.eval, List.map_toArray, List.map_cons, List.map_nil, d8, d9, d10]; first | (go_simp; done) | rfl
      · try dsimp only
        exact (slots_put (ns := 78) (hsa.size.trans rfl) (by decide))
      · exact Below.refl _ _
    | 12, ho =>
      obtain rfl := Option.some.inj ho
      try dsimp only at hd
      have d8 : a'.tmps.getD 43 undef = .bool true := hd 8 (by rfl)
      have d11 : a'.tmps.getD 46 undef = .bool true := hd 11 (by rfl)
      refine wpOp_of rfl rfl ?_
      refine op_run (v := .bool true) (w' := w') ?_ ⟨_, rfl, ?_, ?_⟩
      · simp only [execOp, Act.eval, List.map_toArray, List.map_cons, List.map_nil, d8, d11]; first | (go_simp; done) | rfl
      · try dsimp only
        exact (slots_put (ns := 78) (hsa.size.trans rfl) (by decide))
      · exact Below.refl _ _
    | 13, ho =>
      obtain rfl := Option.some.inj ho
      try dsimp only at hd
      have d12 : a'.tmps.getD 47 undef = .bool true := hd 12 (by rfl)
      refine wpOp_of rfl rfl ?_
      refine op_run (v := .bool true) (w' := w') ?_ ⟨_, rfl, ?_, ?_⟩
      · simp only [execOp, Act.eval, List.map_toArray, List.map_cons, List.map_nil, d12]; first | (go_simp; done) | rfl
      · try dsimp only
        exact (slots_put (ns := 78) (hsa.size.trans rfl) (by decide))
      · exact Below.refl _ _
    | 14, ho =>
      obtain rfl := Option.some.inj ho
      try dsimp only at hd
      have d13 : a'.tmps.getD 48 undef = .bool true := hd 13 (by rfl)
      have g7 : a'.tmps.getD 7 undef = .int .i64 0 := hsa.rest 7 (by rfl)
      refine wpOp_on (j := 13) (dj := 48) rfl rfl rfl d13 ?_
      refine op_run (v := .int .i64 0) (w' := w') ?_ ⟨_, rfl, ?_, ?_⟩
      · simp only [execOp, Act.eval, List.map_toArray, List.map_cons, List.map_nil, d13, g7]; first | (go_simp; done) | rfl
      · try dsimp only
        exact (slots_put (ns := 78) (hsa.size.trans rfl) (by decide))
      · exact Below.refl _ _
    | 15, ho =>
      obtain rfl := Option.some.inj ho
      try dsimp only at hd
      have d13 : a'.tmps.getD 48 undef = .bool true := hd 13 (by rfl)
      have d14 : a'.tmps.getD 49 undef = .int .i64 0 := hd 14 (by rfl)
      refine wpOp_on (j := 13) (dj := 48) rfl rfl rfl d13 ?_
      refine op_run (v := .bool true) (w' := w') ?_ ⟨_, rfl, ?_, ?_⟩
      · simp only [execOp, Act.eval, List.map_toArray, List.map_cons, List.map_nil, d13, d14]; first | (go_simp; done) | rfl
      · try dsimp only
        exact (slots_put (ns := 78) (hsa.size.trans rfl) (by decide))
      · exact Below.refl _ _
    | 16, ho =>
      obtain rfl := Option.some.inj ho
      try dsimp only at hd
      have d13 : a'.tmps.getD 48 undef = .bool true := hd 13 (by rfl)
      have g9 : a'.tmps.getD 9 undef = .bool true := hsa.rest 9 (by rfl)
      refine wpOp_on (j := 13) (dj := 48) rfl rfl rfl d13 ?_
      refine op_run (v := .bool true) (w' := w') ?_ ⟨_, rfl, ?_, ?_⟩
      · simp only [execOp, Act.eval, List.map_toArray, List.map_cons, List.map_nil, d13, g9]; first | (go_simp; done) | rfl
      · try dsimp only
        exact (slots_put (ns := 78) (hsa.size.trans rfl) (by decide))
      · exact Below.refl _ _
    | 17, ho =>
      obtain rfl := Option.some.inj ho
      try dsimp only at hd
      have d13 : a'.tmps.getD 48 undef = .bool true := hd 13 (by rfl)
      have d15 : a'.tmps.getD 50 undef = .bool true := hd 15 (by rfl)
      have d16 : a'.tmps.getD 51 undef = .bool true := hd 16 (by rfl)
      refine wpOp_on (j := 13) (dj := 48) rfl rfl rfl d13 ?_
      refine op_run (v := .bool true) (w' := w') ?_ ⟨_, rfl, ?_, ?_⟩
      · simp only [execOp, Act.eval, List.map_toArray, List.map_cons, List.map_nil, d13, d15, d16]; first | (go_simp; done) | rfl
      · try dsimp only
        exact (slots_put (ns := 78) (hsa.size.trans rfl) (by decide))
      · exact Below.refl _ _
    | 18, ho =>
      obtain rfl := Option.some.inj ho
      try dsimp only at hd
      have d13 : a'.tmps.getD 48 undef = .bool true := hd 13 (by rfl)
      have d17 : a'.tmps.getD 52 undef = .bool true := hd 17 (by rfl)
      refine wpOp_of rfl rfl ?_
      refine op_run (v := .bool true) (w' := w') ?_ ⟨_, rfl, ?_, ?_⟩
      · simp only [execOp, Act.eval, List.map_toArray, List.map_cons, List.map_nil, d13, d17]; first | (go_simp; done) | rfl
      · try dsimp only
        exact (slots_put (ns := 78) (hsa.size.trans rfl) (by decide))
      · exact Below.refl _ _
    | 19, ho =>
      obtain rfl := Option.some.inj ho
      try dsimp only at hd
      have d18 : a'.tmps.getD 53 undef = .bool true := hd 18 (by rfl)
      refine wpOp_of rfl rfl ?_
      refine op_run (v := .bool true) (w' := w') ?_ ⟨_, rfl, ?_, ?_⟩
      · simp only [execOp, Act.eval, List.map_toArray, List.map_cons, List.map_nil, d18]; first | (go_simp; done) | rfl
      · try dsimp only
        exact (slots_put (ns := 78) (hsa.size.trans rfl) (by decide))
      · exact Below.refl _ _
    | 20, ho =>
      obtain rfl := Option.some.inj ho
      try dsimp only at hd
      have d19 : a'.tmps.getD 54 undef = .bool true := hd 19 (by rfl)
      have g9 : a'.tmps.getD 9 undef = .bool true := hsa.rest 9 (by rfl)
      refine wpOp_on (j := 19) (dj := 54) rfl rfl rfl d19 ?_
      refine op_run (v := .bool true) (w' := w') ?_ ⟨_, rfl, ?_, ?_⟩
      · simp only [execOp, Act.eval, List.map_toArray, List.map_cons, List.map_nil, d19, g9]; first | (go_simp; done) | rfl
      · try dsimp only
        exact (slots_put (ns := 78) (hsa.size.trans rfl) (by decide))
      · exact Below.refl _ _
    | 21, ho =>
      obtain rfl := Option.some.inj ho
      try dsimp only at hd
      have d19 : a'.tmps.getD 54 undef = .bool true := hd 19 (by rfl)
      have d20 : a'.tmps.getD 55 undef = .bool true := hd 20 (by rfl)
      refine wpOp_on (j := 19) (dj := 54) rfl rfl rfl d19 ?_
      refine op_run (v := .bool true) (w' := w') ?_ ⟨_, rfl, ?_, ?_⟩
      · simp only [execOp, Act.eval, List.map_toArray, List.map_cons, List.map_nil, d19, d20]; first | (go_simp; done) | rfl
      · try dsimp only
        exact (slots_put (ns := 78) (hsa.size.trans rfl) (by decide))
      · exact Below.refl _ _
    | 22, ho =>
      obtain rfl := Option.some.inj ho
      try dsimp only at hd
      have d21 : a'.tmps.getD 56 undef = .bool true := hd 21 (by rfl)
      refine wpOp_off (j := 21) (dj := 56) rfl rfl rfl d21 (by simp [undef]) ⟨undef, rfl, ?_, ?_⟩
      · exact (slots_put (ns := 78) (hsa.size.trans rfl) (by decide))
      · exact Below.refl _ _
    | 23, ho =>
      obtain rfl := Option.some.inj ho
      try dsimp only at hd
      have d21 : a'.tmps.getD 56 undef = .bool true := hd 21 (by rfl)
      refine wpOp_off (j := 21) (dj := 56) rfl rfl rfl d21 (by simp [undef]) ⟨undef, rfl, ?_, ?_⟩
      · exact (slots_put (ns := 78) (hsa.size.trans rfl) (by decide))
      · exact Below.refl _ _
    | 24, ho =>
      obtain rfl := Option.some.inj ho
      try dsimp only at hd
      have d19 : a'.tmps.getD 54 undef = .bool true := hd 19 (by rfl)
      have d21 : a'.tmps.getD 56 undef = .bool true := hd 21 (by rfl)
      have d23 : a'.tmps.getD 58 undef = undef := hd 23 (by rfl)
      refine wpOp_on (j := 19) (dj := 54) rfl rfl rfl d19 ?_
      refine op_run (v := .bool true) (w' := w') ?_ ⟨_, rfl, ?_, ?_⟩
      · simp only [execOp, Act.eval, List.map_toArray, List.map_cons, List.map_nil, d19, d21, d23]; first | (go_simp; done) | rfl
      · try dsimp only
        exact (slots_put (ns := 78) (hsa.size.trans rfl) (by decide))
      · exact Below.refl _ _
    | 25, ho =>
      obtain rfl := Option.some.inj ho
      try dsimp only at hd
      have d19 : a'.tmps.getD 54 undef = .bool true := hd 19 (by rfl)
      have d24 : a'.tmps.getD 59 undef = .bool true := hd 24 (by rfl)
      refine wpOp_of rfl rfl ?_
      refine op_run (v := .bool true) (w' := w') ?_ ⟨_, rfl, ?_, ?_⟩
      · simp only [execOp, Act.eval, List.map_toArray, List.map_cons, List.map_nil, d19, d24]; first | (go_simp; done) | rfl
      · try dsimp only
        exact (slots_put (ns := 78) (hsa.size.trans rfl) (by decide))
      · exact Below.refl _ _
    | 26, ho =>
      obtain rfl := Option.some.inj ho
      try dsimp only at hd
      have d25 : a'.tmps.getD 60 undef = .bool true := hd 25 (by rfl)
      refine wpOp_of rfl rfl ?_
      refine op_run (v := .bool true) (w' := w') ?_ ⟨_, rfl, ?_, ?_⟩
      · simp only [execOp, Act.eval, List.map_toArray, List.map_cons, List.map_nil, d25]; first | (go_simp; done) | rfl
      · try dsimp only
        exact (slots_put (ns := 78) (hsa.size.trans rfl) (by decide))
      · exact Below.refl _ _
    | 27, ho =>
      obtain rfl := Option.some.inj ho
      try dsimp only at hd
      have d26 : a'.tmps.getD 61 undef = .bool true := hd 26 (by rfl)
      have g10 : a'.tmps.getD 10 undef = .pointer (some ⟨b1, 0, none⟩) := hsa.rest 10 (by rfl)
      have hz := (hb.block _ (heap_lt h1)).trans h1
      have y0 : w'.cell? ⟨b1, 0, none⟩ = some (.int .i64 dk) := box_cell hz 0 rfl
      have y1 : w'.cell? ⟨b1, 1, none⟩ = some (.string dt) := box_cell hz 1 rfl
      have y2 : w'.cell? ⟨b1, 2, none⟩ = some (.string dm) := box_cell hz 2 rfl
      have y3 : w'.cell? ⟨b1, 3, none⟩ = some (.int .i64 ds) := box_cell hz 3 rfl
      have y4 : w'.cell? ⟨b1, 4, none⟩ = some (.string dy) := box_cell hz 4 rfl
      have y5 : w'.cell? ⟨b1, 5, none⟩ = some (.string dv) := box_cell hz 5 rfl
      have y6 : w'.cell? ⟨b1, 6, none⟩ = some (.int .i64 dn) := box_cell hz 6 rfl
      have y7 : w'.cell? ⟨b1, 7, none⟩ = some (.int .i64 doo) := box_cell hz 7 rfl
      have y8 : w'.cell? ⟨b1, 8, none⟩ = some (.int .i64 da) := box_cell hz 8 rfl
      clear hz
      refine wpOp_on (j := 26) (dj := 61) rfl rfl rfl d26 ?_
      refine op_run (v := .agg #[.int .i64 dk, .string dt, .string dm, .int .i64 ds, .string dy, .string dv, .int .i64 dn, .int .i64 doo, .int .i64 da]) (w' := w') ?_ ⟨_, rfl, ?_, ?_⟩
      · simp only [execOp, Act.eval, List.map_toArray, List.map_cons, List.map_nil, d26, g10, y0, y1, y2, y3, y4, y5, y6, y7, y8]; first | (go_simp; done) | rfl
      · try dsimp only
        exact (slots_put (ns := 78) (hsa.size.trans rfl) (by decide))
      · exact Below.refl _ _
    | 28, ho =>
      obtain rfl := Option.some.inj ho
      try dsimp only at hd
      have d26 : a'.tmps.getD 61 undef = .bool true := hd 26 (by rfl)
      have g12 : a'.tmps.getD 12 undef = .pointer (some ⟨b2, 0, none⟩) := hsa.rest 12 (by rfl)
      have hz := (hb.block _ (heap_lt h2)).trans h2
      have y0 : w'.cell? ⟨b2, 0, none⟩ = some (.int .i64 dk) := box_cell hz 0 rfl
      have y1 : w'.cell? ⟨b2, 1, none⟩ = some (.string dt) := box_cell hz 1 rfl
      have y2 : w'.cell? ⟨b2, 2, none⟩ = some (.string dm) := box_cell hz 2 rfl
      have y3 : w'.cell? ⟨b2, 3, none⟩ = some (.int .i64 ds) := box_cell hz 3 rfl
      have y4 : w'.cell? ⟨b2, 4, none⟩ = some (.string dy) := box_cell hz 4 rfl
      have y5 : w'.cell? ⟨b2, 5, none⟩ = some (.string dv) := box_cell hz 5 rfl
      have y6 : w'.cell? ⟨b2, 6, none⟩ = some (.int .i64 dn) := box_cell hz 6 rfl
      have y7 : w'.cell? ⟨b2, 7, none⟩ = some (.int .i64 doo) := box_cell hz 7 rfl
      have y8 : w'.cell? ⟨b2, 8, none⟩ = some (.int .i64 da) := box_cell hz 8 rfl
      clear hz
      refine wpOp_on (j := 26) (dj := 61) rfl rfl rfl d26 ?_
      refine op_run (v := .agg #[.int .i64 dk, .string dt, .string dm, .int .i64 ds, .string dy, .string dv, .int .i64 dn, .int .i64 doo, .int .i64 da]) (w' := w') ?_ ⟨_, rfl, ?_, ?_⟩
      · simp only [execOp, Act.eval, List.map_toArray, List.map_cons, List.map_nil, d26, g12, y0, y1, y2, y3, y4, y5, y6, y7, y8]; first | (go_simp; done) | rfl
      · try dsimp only
        exact (slots_put (ns := 78) (hsa.size.trans rfl) (by decide))
      · exact Below.refl _ _
    | 29, ho =>
      obtain rfl := Option.some.inj ho
      try dsimp only at hd
      have d26 : a'.tmps.getD 61 undef = .bool true := hd 26 (by rfl)
      have d27 : a'.tmps.getD 62 undef = .agg #[.int .i64 dk, .string dt, .string dm, .int .i64 ds, .string dy, .string dv, .int .i64 dn, .int .i64 doo, .int .i64 da] := hd 27 (by rfl)
      have d28 : a'.tmps.getD 63 undef = .agg #[.int .i64 dk, .string dt, .string dm, .int .i64 ds, .string dy, .string dv, .int .i64 dn, .int .i64 doo, .int .i64 da] := hd 28 (by rfl)
      refine wpOp_on (j := 26) (dj := 61) rfl rfl rfl d26 ?_
      refine op_run (v := .bool true) (w' := w') ?_ ⟨_, rfl, ?_, ?_⟩
      · simp only [execOp, Act.eval, List.map_toArray, List.map_cons, List.map_nil, d26, d27, d28]; first | (go_simp; done) | rfl
      · try dsimp only
        exact (slots_put (ns := 78) (hsa.size.trans rfl) (by decide))
      · exact Below.refl _ _
    | 30, ho =>
      obtain rfl := Option.some.inj ho
      try dsimp only at hd
      have d26 : a'.tmps.getD 61 undef = .bool true := hd 26 (by rfl)
      have d29 : a'.tmps.getD 64 undef = .bool true := hd 29 (by rfl)
      refine wpOp_of rfl rfl ?_
      refine op_run (v := .bool true) (w' := w') ?_ ⟨_, rfl, ?_, ?_⟩
      · simp only [execOp, Act.eval, List.map_toArray, List.map_cons, List.map_nil, d26, d29]; first | (go_simp; done) | rfl
      · try dsimp only
        exact (slots_put (ns := 78) (hsa.size.trans rfl) (by decide))
      · exact Below.refl _ _
    | 31, ho =>
      obtain rfl := Option.some.inj ho
      try dsimp only at hd
      have d30 : a'.tmps.getD 65 undef = .bool true := hd 30 (by rfl)
      refine wpOp_of rfl rfl ?_
      refine op_run (v := .bool true) (w' := w') ?_ ⟨_, rfl, ?_, ?_⟩
      · simp only [execOp, Act.eval, List.map_toArray, List.map_cons, List.map_nil, d30]; first | (go_simp; done) | rfl
      · try dsimp only
        exact (slots_put (ns := 78) (hsa.size.trans rfl) (by decide))
      · exact Below.refl _ _
    | 32, ho =>
      obtain rfl := Option.some.inj ho
      try dsimp only at hd
      have d31 : a'.tmps.getD 66 undef = .bool true := hd 31 (by rfl)
      have g11 : a'.tmps.getD 11 undef = .int .i64 er := hsa.rest 11 (by rfl)
      refine wpOp_on (j := 31) (dj := 66) rfl rfl rfl d31 ?_
      refine op_run (v := .int .i64 er) (w' := w') ?_ ⟨_, rfl, ?_, ?_⟩
      · simp only [execOp, Act.eval, List.map_toArray, List.map_cons, List.map_nil, d31, g11]; first | (go_simp; done) | rfl
      · try dsimp only
        exact (slots_put (ns := 78) (hsa.size.trans rfl) (by decide))
      · exact Below.refl _ _
    | 33, ho =>
      obtain rfl := Option.some.inj ho
      try dsimp only at hd
      have d31 : a'.tmps.getD 66 undef = .bool true := hd 31 (by rfl)
      have g13 : a'.tmps.getD 13 undef = .int .i64 er := hsa.rest 13 (by rfl)
      refine wpOp_on (j := 31) (dj := 66) rfl rfl rfl d31 ?_
      refine op_run (v := .int .i64 er) (w' := w') ?_ ⟨_, rfl, ?_, ?_⟩
      · simp only [execOp, Act.eval, List.map_toArray, List.map_cons, List.map_nil, d31, g13]; first | (go_simp; done) | rfl
      · try dsimp only
        exact (slots_put (ns := 78) (hsa.size.trans rfl) (by decide))
      · exact Below.refl _ _
    | 34, ho =>
      obtain rfl := Option.some.inj ho
      try dsimp only at hd
      have d31 : a'.tmps.getD 66 undef = .bool true := hd 31 (by rfl)
      have d32 : a'.tmps.getD 67 undef = .int .i64 er := hd 32 (by rfl)
      have d33 : a'.tmps.getD 68 undef = .int .i64 er := hd 33 (by rfl)
      refine wpOp_on (j := 31) (dj := 66) rfl rfl rfl d31 ?_
      refine op_run (v := .bool true) (w' := w') ?_ ⟨_, rfl, ?_, ?_⟩
      · simp only [execOp, Act.eval, List.map_toArray, List.map_cons, List.map_nil, d31, d32, d33]; first | (go_simp; done) | rfl
      · try dsimp only
        exact (slots_put (ns := 78) (hsa.size.trans rfl) (by decide))
      · exact Below.refl _ _
    | 35, ho =>
      obtain rfl := Option.some.inj ho
      try dsimp only at hd
      have d31 : a'.tmps.getD 66 undef = .bool true := hd 31 (by rfl)
      have d34 : a'.tmps.getD 69 undef = .bool true := hd 34 (by rfl)
      refine wpOp_of rfl rfl ?_
      refine op_run (v := .bool true) (w' := w') ?_ ⟨_, rfl, ?_, ?_⟩
      · simp only [execOp, Act.eval, List.map_toArray, List.map_cons, List.map_nil, d31, d34]; first | (go_simp; done) | rfl
      · try dsimp only
        exact (slots_put (ns := 78) (hsa.size.trans rfl) (by decide))
      · exact Below.refl _ _
    | 36, ho =>
      obtain rfl := Option.some.inj ho
      try dsimp only at hd
      have d35 : a'.tmps.getD 70 undef = .bool true := hd 35 (by rfl)
      refine wpOp_of rfl rfl ?_
      refine op_run (v := .bool true) (w' := w') ?_ ⟨_, rfl, ?_, ?_⟩
      · simp only [execOp, Act.eval, List.map_toArray, List.map_cons, List.map_nil, d35]; first | (go_simp; done) | rfl
      · try dsimp only
        exact (slots_put (ns := 78) (hsa.size.trans rfl) (by decide))
      · exact Below.refl _ _
    | 37, ho =>
      obtain rfl := Option.some.inj ho
      try dsimp only at hd
      have d36 : a'.tmps.getD 71 undef = .bool true := hd 36 (by rfl)
      have g1 : a'.tmps.getD 1 undef = .string zs := hsa.rest 1 (by rfl)
      refine wpOp_on (j := 36) (dj := 71) rfl rfl rfl d36 ?_
      refine op_run (v := .string zs) (w' := w') ?_ ⟨_, rfl, ?_, ?_⟩
      · simp only [execOp, Act.eval, List.map_toArray, List.map_cons, List.map_nil, d36, g1]; first | (go_simp; done) | rfl
      · try dsimp only
        exact (slots_put (ns := 78) (hsa.size.trans rfl) (by decide))
      · exact Below.refl _ _
    | 38, ho =>
      obtain rfl := Option.some.inj ho
      try dsimp only at hd
      have d36 : a'.tmps.getD 71 undef = .bool true := hd 36 (by rfl)
      have d37 : a'.tmps.getD 72 undef = .string zs := hd 37 (by rfl)
      refine wpOp_on (j := 36) (dj := 71) rfl rfl rfl d36 ?_
      refine op_call 14 _ _ rfl (enters_of Tryd.func14 (by kernel_rfl) rfl) [.string zs] (by simp only [List.map, Act.eval, d36, d37]) (hW1 w' hb) ?_
      rintro e w'' ⟨rfl, b2⟩
      refine ⟨_, rfl, _, rfl, ?_, ?_⟩
      · try dsimp only
        exact (slots_put (ns := 78) (hsa.size.trans rfl) (by decide))
      · exact b2
    | 39, ho =>
      obtain rfl := Option.some.inj ho
      try dsimp only at hd
      have d36 : a'.tmps.getD 71 undef = .bool true := hd 36 (by rfl)
      have g1 : a'.tmps.getD 1 undef = .string zs := hsa.rest 1 (by rfl)
      refine wpOp_on (j := 36) (dj := 71) rfl rfl rfl d36 ?_
      refine op_run (v := .string zs) (w' := w') ?_ ⟨_, rfl, ?_, ?_⟩
      · simp only [execOp, Act.eval, List.map_toArray, List.map_cons, List.map_nil, d36, g1]; first | (go_simp; done) | rfl
      · try dsimp only
        exact (slots_put (ns := 78) (hsa.size.trans rfl) (by decide))
      · exact Below.refl _ _
    | 40, ho =>
      obtain rfl := Option.some.inj ho
      try dsimp only at hd
      have d36 : a'.tmps.getD 71 undef = .bool true := hd 36 (by rfl)
      have d39 : a'.tmps.getD 74 undef = .string zs := hd 39 (by rfl)
      refine wpOp_on (j := 36) (dj := 71) rfl rfl rfl d36 ?_
      refine op_call 15 _ _ rfl (enters_of Tryd.func15 (by kernel_rfl) rfl) [.string zs] (by simp only [List.map, Act.eval, d36, d39]) (hW2 w' hb) ?_
      rintro e w'' ⟨rfl, b2⟩
      refine ⟨_, rfl, _, rfl, ?_, ?_⟩
      · try dsimp only
        exact (slots_put (ns := 78) (hsa.size.trans rfl) (by decide))
      · exact b2
    | 41, ho =>
      obtain rfl := Option.some.inj ho
      try dsimp only at hd
      have d36 : a'.tmps.getD 71 undef = .bool true := hd 36 (by rfl)
      have d38 : a'.tmps.getD 73 undef = .bool wb := hd 38 (by rfl)
      have d40 : a'.tmps.getD 75 undef = .bool wb := hd 40 (by rfl)
      refine wpOp_on (j := 36) (dj := 71) rfl rfl rfl d36 ?_
      refine op_run (v := .bool true) (w' := w') ?_ ⟨_, rfl, ?_, ?_⟩
      · simp only [execOp, Act.eval, List.map_toArray, List.map_cons, List.map_nil, d36, d38, d40]; first | (go_simp; done) | rfl
      · try dsimp only
        exact (slots_put (ns := 78) (hsa.size.trans rfl) (by decide))
      · exact Below.refl _ _
    | 42, ho =>
      obtain rfl := Option.some.inj ho
      try dsimp only at hd
      have d36 : a'.tmps.getD 71 undef = .bool true := hd 36 (by rfl)
      have d41 : a'.tmps.getD 76 undef = .bool true := hd 41 (by rfl)
      refine wpOp_of rfl rfl ?_
      refine op_run (v := .bool true) (w' := w') ?_ ⟨_, rfl, ?_, ?_⟩
      · simp only [execOp, Act.eval, List.map_toArray, List.map_cons, List.map_nil, d36, d41]; first | (go_simp; done) | rfl
      · try dsimp only
        exact (slots_put (ns := 78) (hsa.size.trans rfl) (by decide))
      · exact Below.refl _ _
    | 43, ho =>
      obtain rfl := Option.some.inj ho
      try dsimp only at hd
      have d42 : a'.tmps.getD 77 undef = .bool true := hd 42 (by rfl)
      refine wpOp_of rfl rfl ?_
      refine op_run (v := .bool true) (w' := w') ?_ ⟨_, rfl, ?_, ?_⟩
      · simp only [execOp, Act.eval, List.map_toArray, List.map_cons, List.map_nil, d42]; first | (go_simp; done) | rfl
      · try dsimp only
        exact (slots_put (ns := 78) (hsa.size.trans rfl) (by decide))
      · exact Below.refl _ _
    | (n + 44), ho => exact absurd ho (by simp)
  case pdone =>
    intro a' w' hsa hb hd
    have d0 : a'.tmps.getD 35 undef = .bool true := hd 0 (by decide)
    have d1 : a'.tmps.getD 36 undef = .bool true := hd 1 (by decide)
    have d2 : a'.tmps.getD 37 undef = .agg #[.int .i64 xk, .string xt, .string xm, .int .i64 xs, .string xy, .string xv, .int .i64 xn, .int .i64 xo, .int .i64 xa] := hd 2 (by decide)
    have d3 : a'.tmps.getD 38 undef = .bool true := hd 3 (by decide)
    have d4 : a'.tmps.getD 39 undef = .agg #[.int .i64 xk, .string xt, .string xm, .int .i64 xs, .string xy, .string xv, .int .i64 xn, .int .i64 xo, .int .i64 xa] := hd 4 (by decide)
    have d5 : a'.tmps.getD 40 undef = .bool true := hd 5 (by decide)
    have d6 : a'.tmps.getD 41 undef = .bool true := hd 6 (by decide)
    have d7 : a'.tmps.getD 42 undef = .bool true := hd 7 (by decide)
    have d8 : a'.tmps.getD 43 undef = .bool true := hd 8 (by decide)
    have d9 : a'.tmps.getD 44 undef = .string T := hd 9 (by decide)
    have d10 : a'.tmps.getD 45 undef = .string T := hd 10 (by decide)
    have d11 : a'.tmps.getD 46 undef = .bool true := hd 11 (by decide)
    have d12 : a'.tmps.getD 47 undef = .bool true := hd 12 (by decide)
    have d13 : a'.tmps.getD 48 undef = .bool true := hd 13 (by decide)
    have d14 : a'.tmps.getD 49 undef = .int .i64 0 := hd 14 (by decide)
    have d15 : a'.tmps.getD 50 undef = .bool true := hd 15 (by decide)
    have d16 : a'.tmps.getD 51 undef = .bool true := hd 16 (by decide)
    have d17 : a'.tmps.getD 52 undef = .bool true := hd 17 (by decide)
    have d18 : a'.tmps.getD 53 undef = .bool true := hd 18 (by decide)
    have d19 : a'.tmps.getD 54 undef = .bool true := hd 19 (by decide)
    have d20 : a'.tmps.getD 55 undef = .bool true := hd 20 (by decide)
    have d21 : a'.tmps.getD 56 undef = .bool true := hd 21 (by decide)
    have d22 : a'.tmps.getD 57 undef = undef := hd 22 (by decide)
    have d23 : a'.tmps.getD 58 undef = undef := hd 23 (by decide)
    have d24 : a'.tmps.getD 59 undef = .bool true := hd 24 (by decide)
    have d25 : a'.tmps.getD 60 undef = .bool true := hd 25 (by decide)
    have d26 : a'.tmps.getD 61 undef = .bool true := hd 26 (by decide)
    have d27 : a'.tmps.getD 62 undef = .agg #[.int .i64 dk, .string dt, .string dm, .int .i64 ds, .string dy, .string dv, .int .i64 dn, .int .i64 doo, .int .i64 da] := hd 27 (by decide)
    have d28 : a'.tmps.getD 63 undef = .agg #[.int .i64 dk, .string dt, .string dm, .int .i64 ds, .string dy, .string dv, .int .i64 dn, .int .i64 doo, .int .i64 da] := hd 28 (by decide)
    have d29 : a'.tmps.getD 64 undef = .bool true := hd 29 (by decide)
    have d30 : a'.tmps.getD 65 undef = .bool true := hd 30 (by decide)
    have d31 : a'.tmps.getD 66 undef = .bool true := hd 31 (by decide)
    have d32 : a'.tmps.getD 67 undef = .int .i64 er := hd 32 (by decide)
    have d33 : a'.tmps.getD 68 undef = .int .i64 er := hd 33 (by decide)
    have d34 : a'.tmps.getD 69 undef = .bool true := hd 34 (by decide)
    have d35 : a'.tmps.getD 70 undef = .bool true := hd 35 (by decide)
    have d36 : a'.tmps.getD 71 undef = .bool true := hd 36 (by decide)
    have d37 : a'.tmps.getD 72 undef = .string zs := hd 37 (by decide)
    have d38 : a'.tmps.getD 73 undef = .bool wb := hd 38 (by decide)
    have d39 : a'.tmps.getD 74 undef = .string zs := hd 39 (by decide)
    have d40 : a'.tmps.getD 75 undef = .bool wb := hd 40 (by decide)
    have d41 : a'.tmps.getD 76 undef = .bool true := hd 41 (by decide)
    have d42 : a'.tmps.getD 77 undef = .bool true := hd 42 (by decide)
    have d43 : a'.tmps.getD 4 undef = .bool true := hd 43 (by decide)
    exact HQ.out _ _ ⟨hsa.size.trans rfl, hsa.defers.trans rfl, hsa.rest 0 (by rfl), hsa.rest 1 (by rfl), hsa.rest 2 (by rfl), d43, hsa.rest 5 (by rfl), hsa.rest 6 (by rfl), hsa.rest 7 (by rfl), hsa.rest 8 (by rfl), hsa.rest 9 (by rfl), hsa.rest 10 (by rfl), hsa.rest 11 (by rfl), hsa.rest 12 (by rfl), hsa.rest 13 (by rfl)⟩ hb
set_option maxHeartbeats 8000000 in
set_option maxRecDepth 100000 in
theorem by_r6f {K : Act → World → Prop} {c : Code} (hc : regOf (Tryd.f3.body.getD .skip) 6 = some c) (a : Act) {v : Vby} {wq : World} {b b1 b2 : Nat} {xk xs xn xo xa dk ds dn doo da er : Int} {xt xm xy xv dt dm dy dv zs T : ByteArray} {wb : Bool} (hF : Fby a v) (h1v : v.v1 = .string zs) (h2v : v.v2 = .pointer (some ⟨b, 0, none⟩)) (h5v : v.v5 = .bool true) (h6v : v.v6 = .string T) (h7v : v.v7 = .int .i64 1) (h8v : v.v8 = .string T) (h9v : v.v9 = .bool false) (h10v : v.v10 = .pointer (some ⟨b1, 0, none⟩)) (h11v : v.v11 = .int .i64 er) (h12v : v.v12 = .pointer (some ⟨b2, 0, none⟩)) (h13v : v.v13 = .int .i64 er) (hB : wq.heap[b]? = some (.cells #[.int .i64 xk, .string xt, .string xm, .int .i64 xs, .string xy, .string xv, .int .i64 xn, .int .i64 xo, .int .i64 xa] 23 (0, 0))) (h1 : wq.heap[b1]? = some (.cells #[.int .i64 dk, .string dt, .string dm, .int .i64 ds, .string dy, .string dv, .int .i64 dn, .int .i64 doo, .int .i64 da] 23 (0, 0))) (h2 : wq.heap[b2]? = some (.cells #[.int .i64 dk, .string dt, .string dm, .int .i64 ds, .string dy, .string dv, .int .i64 dn, .int .i64 doo, .int .i64 da] 23 (0, 0))) (hR1 : ∀ W, Below wq.heap.size wq W → Calls Tryd.prog 12 #[.agg #[.int .i64 xk, .string xt, .string xm, .int .i64 xs, .string xy, .string xv, .int .i64 xn, .int .i64 xo, .int .i64 xa]] W fun e w' => e = .returned (.bool false) ∧ Below W.heap.size W w') (hR2 : ∀ W, Below wq.heap.size wq W → Calls Tryd.prog 13 #[.agg #[.int .i64 xk, .string xt, .string xm, .int .i64 xs, .string xy, .string xv, .int .i64 xn, .int .i64 xo, .int .i64 xa]] W fun e w' => e = .returned (.bool false) ∧ Below W.heap.size W w') (hW1 : ∀ W, Below wq.heap.size wq W → Calls Tryd.prog 14 #[.string zs] W fun e w' => e = .returned (.bool wb) ∧ Below W.heap.size W w') (hW2 : ∀ W, Below wq.heap.size wq W → Calls Tryd.prog 15 #[.string zs] W fun e w' => e = .returned (.bool wb) ∧ Below W.heap.size W w')
    (hQ : ∀ a' w', Fby a' { v with v4 := .bool true } → Below wq.heap.size wq w' → K a' w') :
    Code.wp Tryd.prog c (Exit.then K fun _ _ _ => False) a wq := by
  have HQ := hide hQ
  clear hQ
  obtain ⟨t', d'⟩ := a
  obtain ⟨v0, v1, v2, v4, v5, v6, v7, v8, v9, v10, v11, v12, v13⟩ := v
  simp only at h1v h2v h5v h6v h7v h8v h9v h10v h11v h12v h13v HQ
  subst h1v h2v h5v h6v h7v h8v h9v h10v h11v h12v h13v
  obtain ⟨hs1, hd1, q0, q1, q2, q4, q5, q6, q7, q8, q9, q10, q11, q12, q13⟩ := hF
  obtain ⟨u, hu⟩ := frame_by t' hs1
  simp only at hd1 q0 q1 q2 q4 q5 q6 q7 q8 q9 q10 q11 q12 q13
  subst hu hd1
  have e0 : u 0 = v0 := q0
  have e1 : u 1 = .string zs := q1
  have e2 : u 2 = .pointer (some ⟨b, 0, none⟩) := q2
  have e4 : u 4 = v4 := q4
  have e5 : u 5 = .bool true := q5
  have e6 : u 6 = .string T := q6
  have e7 : u 7 = .int .i64 1 := q7
  have e8 : u 8 = .string T := q8
  have e9 : u 9 = .bool false := q9
  have e10 : u 10 = .pointer (some ⟨b1, 0, none⟩) := q10
  have e11 : u 11 = .int .i64 er := q11
  have e12 : u 12 = .pointer (some ⟨b2, 0, none⟩) := q12
  have e13 : u 13 = .int .i64 er := q13
  rw [e0, e1, e2, e4, e5, e6, e7, e8, e9, e10, e11, e12, e13]
  clear q0 e0 q1 e1 q2 e2 q4 e4 q5 e5 q6 e6 q7 e7 q8 e8 q9 e9 q10 e10 q11 e11 q12 e12 q13 e13 hs1
  simp only [Tryd.f3, Option.getD_some, regOf] at hc
  injection hc with hc
  subst hc
  generalize u 3 = u3
  generalize u 14 = u14
  generalize u 15 = u15
  generalize u 16 = u16
  generalize u 17 = u17
  generalize u 18 = u18
  generalize u 19 = u19
  generalize u 20 = u20
  generalize u 21 = u21
  generalize u 22 = u22
  generalize u 23 = u23
  generalize u 24 = u24
  generalize u 25 = u25
  generalize u 26 = u26
  generalize u 27 = u27
  generalize u 28 = u28
  generalize u 29 = u29
  generalize u 30 = u30
  generalize u 31 = u31
  generalize u 32 = u32
  generalize u 33 = u33
  generalize u 34 = u34
  generalize u 35 = u35
  generalize u 36 = u36
  generalize u 37 = u37
  generalize u 38 = u38
  generalize u 39 = u39
  generalize u 40 = u40
  generalize u 41 = u41
  generalize u 42 = u42
  generalize u 43 = u43
  generalize u 44 = u44
  generalize u 45 = u45
  generalize u 46 = u46
  generalize u 47 = u47
  generalize u 48 = u48
  generalize u 49 = u49
  generalize u 50 = u50
  generalize u 51 = u51
  generalize u 52 = u52
  generalize u 53 = u53
  generalize u 54 = u54
  generalize u 55 = u55
  generalize u 56 = u56
  generalize u 57 = u57
  generalize u 58 = u58
  generalize u 59 = u59
  generalize u 60 = u60
  generalize u 61 = u61
  generalize u 62 = u62
  generalize u 63 = u63
  generalize u 64 = u64
  generalize u 65 = u65
  generalize u 66 = u66
  generalize u 67 = u67
  generalize u 68 = u68
  generalize u 69 = u69
  generalize u 70 = u70
  generalize u 71 = u71
  generalize u 72 = u72
  generalize u 73 = u73
  generalize u 74 = u74
  generalize u 75 = u75
  generalize u 76 = u76
  generalize u 77 = u77
  clear u
  refine wp_region_phi (by kernel_rfl) (ns := 78) (uses := (fun i => match i with | 0 => [35] | 1 => [36] | 2 => [37] | 3 => [38] | 4 => [39] | 5 => [40] | 6 => [41] | 7 => [42] | 8 => [43] | 9 => [44] | 10 => [45] | 11 => [46] | 12 => [47] | 13 => [48] | 14 => [49] | 15 => [50] | 16 => [51] | 17 => [52] | 18 => [53] | 19 => [54] | 20 => [55] | 21 => [56] | 22 => [57] | 23 => [58] | 24 => [59] | 25 => [60] | 26 => [61] | 27 => [62] | 28 => [63] | 29 => [64] | 30 => [65] | 31 => [66] | 32 => [67] | 33 => [68] | 34 => [69] | 35 => [70] | 36 => [71] | 37 => [72] | 38 => [73] | 39 => [74] | 40 => [75] | 41 => [76] | 42 => [77] | 43 => [4] | _ => [])) (by kernel_rfl) (by kernel_rfl) (fun _ w w' => Below w.heap.size w w') (fun w => Below wq.heap.size wq w) (fun _ _ _ h r => h.trans (r.mono h.size)) ((Below.refl _ _).drew) (fun i => match i with | 0 => fun s w => s 35 = .bool true | 1 => fun s w => s 36 = .bool true | 2 => fun s w => s 37 = .agg #[.int .i64 xk, .string xt, .string xm, .int .i64 xs, .string xy, .string xv, .int .i64 xn, .int .i64 xo, .int .i64 xa] | 3 => fun s w => s 38 = .bool false | 4 => fun s w => s 39 = .agg #[.int .i64 xk, .string xt, .string xm, .int .i64 xs, .string xy, .string xv, .int .i64 xn, .int .i64 xo, .int .i64 xa] | 5 => fun s w => s 40 = .bool false | 6 => fun s w => s 41 = .bool true | 7 => fun s w => s 42 = .bool true | 8 => fun s w => s 43 = .bool true | 9 => fun s w => s 44 = .string T | 10 => fun s w => s 45 = .string T | 11 => fun s w => s 46 = .bool true | 12 => fun s w => s 47 = .bool true | 13 => fun s w => s 48 = .bool true | 14 => fun s w => s 49 = .int .i64 1 | 15 => fun s w => s 50 = .bool false | 16 => fun s w => s 51 = .bool false | 17 => fun s w => s 52 = .bool true | 18 => fun s w => s 53 = .bool true | 19 => fun s w => s 54 = .bool true | 20 => fun s w => s 55 = .bool false | 21 => fun s w => s 56 = .bool false | 22 => fun s w => s 57 = .int .i64 1 | 23 => fun s w => s 58 = .bool true | 24 => fun s w => s 59 = .bool true | 25 => fun s w => s 60 = .bool true | 26 => fun s w => s 61 = .bool true | 27 => fun s w => s 62 = .agg #[.int .i64 dk, .string dt, .string dm, .int .i64 ds, .string dy, .string dv, .int .i64 dn, .int .i64 doo, .int .i64 da] | 28 => fun s w => s 63 = .agg #[.int .i64 dk, .string dt, .string dm, .int .i64 ds, .string dy, .string dv, .int .i64 dn, .int .i64 doo, .int .i64 da] | 29 => fun s w => s 64 = .bool true | 30 => fun s w => s 65 = .bool true | 31 => fun s w => s 66 = .bool true | 32 => fun s w => s 67 = .int .i64 er | 33 => fun s w => s 68 = .int .i64 er | 34 => fun s w => s 69 = .bool true | 35 => fun s w => s 70 = .bool true | 36 => fun s w => s 71 = .bool true | 37 => fun s w => s 72 = .string zs | 38 => fun s w => s 73 = .bool wb | 39 => fun s w => s 74 = .string zs | 40 => fun s w => s 75 = .bool wb | 41 => fun s w => s 76 = .bool true | 42 => fun s w => s 77 = .bool true | 43 => fun s w => s 4 = .bool true | _ => fun _ _ => True) ?phc ?phh ?pstep ?pdone
  case phc =>
    intro i s s' w hx h
    match i, hx, h with
    | 0, hx, h =>
      have e35 := hx 35 (by simp)
      first | exact (show _ from by simp only [← e35] at *; exact h) | (simp only [e35] at h; exact h)
    | 1, hx, h =>
      have e36 := hx 36 (by simp)
      first | exact (show _ from by simp only [← e36] at *; exact h) | (simp only [e36] at h; exact h)
    | 2, hx, h =>
      have e37 := hx 37 (by simp)
      first | exact (show _ from by simp only [← e37] at *; exact h) | (simp only [e37] at h; exact h)
    | 3, hx, h =>
      have e38 := hx 38 (by simp)
      first | exact (show _ from by simp only [← e38] at *; exact h) | (simp only [e38] at h; exact h)
    | 4, hx, h =>
      have e39 := hx 39 (by simp)
      first | exact (show _ from by simp only [← e39] at *; exact h) | (simp only [e39] at h; exact h)
    | 5, hx, h =>
      have e40 := hx 40 (by simp)
      first | exact (show _ from by simp only [← e40] at *; exact h) | (simp only [e40] at h; exact h)
    | 6, hx, h =>
      have e41 := hx 41 (by simp)
      first | exact (show _ from by simp only [← e41] at *; exact h) | (simp only [e41] at h; exact h)
    | 7, hx, h =>
      have e42 := hx 42 (by simp)
      first | exact (show _ from by simp only [← e42] at *; exact h) | (simp only [e42] at h; exact h)
    | 8, hx, h =>
      have e43 := hx 43 (by simp)
      first | exact (show _ from by simp only [← e43] at *; exact h) | (simp only [e43] at h; exact h)
    | 9, hx, h =>
      have e44 := hx 44 (by simp)
      first | exact (show _ from by simp only [← e44] at *; exact h) | (simp only [e44] at h; exact h)
    | 10, hx, h =>
      have e45 := hx 45 (by simp)
      first | exact (show _ from by simp only [← e45] at *; exact h) | (simp only [e45] at h; exact h)
    | 11, hx, h =>
      have e46 := hx 46 (by simp)
      first | exact (show _ from by simp only [← e46] at *; exact h) | (simp only [e46] at h; exact h)
    | 12, hx, h =>
      have e47 := hx 47 (by simp)
      first | exact (show _ from by simp only [← e47] at *; exact h) | (simp only [e47] at h; exact h)
    | 13, hx, h =>
      have e48 := hx 48 (by simp)
      first | exact (show _ from by simp only [← e48] at *; exact h) | (simp only [e48] at h; exact h)
    | 14, hx, h =>
      have e49 := hx 49 (by simp)
      first | exact (show _ from by simp only [← e49] at *; exact h) | (simp only [e49] at h; exact h)
    | 15, hx, h =>
      have e50 := hx 50 (by simp)
      first | exact (show _ from by simp only [← e50] at *; exact h) | (simp only [e50] at h; exact h)
    | 16, hx, h =>
      have e51 := hx 51 (by simp)
      first | exact (show _ from by simp only [← e51] at *; exact h) | (simp only [e51] at h; exact h)
    | 17, hx, h =>
      have e52 := hx 52 (by simp)
      first | exact (show _ from by simp only [← e52] at *; exact h) | (simp only [e52] at h; exact h)
    | 18, hx, h =>
      have e53 := hx 53 (by simp)
      first | exact (show _ from by simp only [← e53] at *; exact h) | (simp only [e53] at h; exact h)
    | 19, hx, h =>
      have e54 := hx 54 (by simp)
      first | exact (show _ from by simp only [← e54] at *; exact h) | (simp only [e54] at h; exact h)
    | 20, hx, h =>
      have e55 := hx 55 (by simp)
      first | exact (show _ from by simp only [← e55] at *; exact h) | (simp only [e55] at h; exact h)
    | 21, hx, h =>
      have e56 := hx 56 (by simp)
      first | exact (show _ from by simp only [← e56] at *; exact h) | (simp only [e56] at h; exact h)
    | 22, hx, h =>
      have e57 := hx 57 (by simp)
      first | exact (show _ from by simp only [← e57] at *; exact h) | (simp only [e57] at h; exact h)
    | 23, hx, h =>
      have e58 := hx 58 (by simp)
      first | exact (show _ from by simp only [← e58] at *; exact h) | (simp only [e58] at h; exact h)
    | 24, hx, h =>
      have e59 := hx 59 (by simp)
      first | exact (show _ from by simp only [← e59] at *; exact h) | (simp only [e59] at h; exact h)
    | 25, hx, h =>
      have e60 := hx 60 (by simp)
      first | exact (show _ from by simp only [← e60] at *; exact h) | (simp only [e60] at h; exact h)
    | 26, hx, h =>
      have e61 := hx 61 (by simp)
      first | exact (show _ from by simp only [← e61] at *; exact h) | (simp only [e61] at h; exact h)
    | 27, hx, h =>
      have e62 := hx 62 (by simp)
      first | exact (show _ from by simp only [← e62] at *; exact h) | (simp only [e62] at h; exact h)
    | 28, hx, h =>
      have e63 := hx 63 (by simp)
      first | exact (show _ from by simp only [← e63] at *; exact h) | (simp only [e63] at h; exact h)
    | 29, hx, h =>
      have e64 := hx 64 (by simp)
      first | exact (show _ from by simp only [← e64] at *; exact h) | (simp only [e64] at h; exact h)
    | 30, hx, h =>
      have e65 := hx 65 (by simp)
      first | exact (show _ from by simp only [← e65] at *; exact h) | (simp only [e65] at h; exact h)
    | 31, hx, h =>
      have e66 := hx 66 (by simp)
      first | exact (show _ from by simp only [← e66] at *; exact h) | (simp only [e66] at h; exact h)
    | 32, hx, h =>
      have e67 := hx 67 (by simp)
      first | exact (show _ from by simp only [← e67] at *; exact h) | (simp only [e67] at h; exact h)
    | 33, hx, h =>
      have e68 := hx 68 (by simp)
      first | exact (show _ from by simp only [← e68] at *; exact h) | (simp only [e68] at h; exact h)
    | 34, hx, h =>
      have e69 := hx 69 (by simp)
      first | exact (show _ from by simp only [← e69] at *; exact h) | (simp only [e69] at h; exact h)
    | 35, hx, h =>
      have e70 := hx 70 (by simp)
      first | exact (show _ from by simp only [← e70] at *; exact h) | (simp only [e70] at h; exact h)
    | 36, hx, h =>
      have e71 := hx 71 (by simp)
      first | exact (show _ from by simp only [← e71] at *; exact h) | (simp only [e71] at h; exact h)
    | 37, hx, h =>
      have e72 := hx 72 (by simp)
      first | exact (show _ from by simp only [← e72] at *; exact h) | (simp only [e72] at h; exact h)
    | 38, hx, h =>
      have e73 := hx 73 (by simp)
      first | exact (show _ from by simp only [← e73] at *; exact h) | (simp only [e73] at h; exact h)
    | 39, hx, h =>
      have e74 := hx 74 (by simp)
      first | exact (show _ from by simp only [← e74] at *; exact h) | (simp only [e74] at h; exact h)
    | 40, hx, h =>
      have e75 := hx 75 (by simp)
      first | exact (show _ from by simp only [← e75] at *; exact h) | (simp only [e75] at h; exact h)
    | 41, hx, h =>
      have e76 := hx 76 (by simp)
      first | exact (show _ from by simp only [← e76] at *; exact h) | (simp only [e76] at h; exact h)
    | 42, hx, h =>
      have e77 := hx 77 (by simp)
      first | exact (show _ from by simp only [← e77] at *; exact h) | (simp only [e77] at h; exact h)
    | 43, hx, h =>
      have e4 := hx 4 (by simp)
      first | exact (show _ from by simp only [← e4] at *; exact h) | (simp only [e4] at h; exact h)
    | (n + 44), _, h => exact h
  case phh =>
    intro i j s w w' hij h hb r
    match i, hij, h with
    | 0, hij, h =>
      exact h
    | 1, hij, h =>
      exact h
    | 2, hij, h =>
      exact h
    | 3, hij, h =>
      exact h
    | 4, hij, h =>
      exact h
    | 5, hij, h =>
      exact h
    | 6, hij, h =>
      exact h
    | 7, hij, h =>
      exact h
    | 8, hij, h =>
      exact h
    | 9, hij, h =>
      exact h
    | 10, hij, h =>
      exact h
    | 11, hij, h =>
      exact h
    | 12, hij, h =>
      exact h
    | 13, hij, h =>
      exact h
    | 14, hij, h =>
      exact h
    | 15, hij, h =>
      exact h
    | 16, hij, h =>
      exact h
    | 17, hij, h =>
      exact h
    | 18, hij, h =>
      exact h
    | 19, hij, h =>
      exact h
    | 20, hij, h =>
      exact h
    | 21, hij, h =>
      exact h
    | 22, hij, h =>
      exact h
    | 23, hij, h =>
      exact h
    | 24, hij, h =>
      exact h
    | 25, hij, h =>
      exact h
    | 26, hij, h =>
      exact h
    | 27, hij, h =>
      exact h
    | 28, hij, h =>
      exact h
    | 29, hij, h =>
      exact h
    | 30, hij, h =>
      exact h
    | 31, hij, h =>
      exact h
    | 32, hij, h =>
      exact h
    | 33, hij, h =>
      exact h
    | 34, hij, h =>
      exact h
    | 35, hij, h =>
      exact h
    | 36, hij, h =>
      exact h
    | 37, hij, h =>
      exact h
    | 38, hij, h =>
      exact h
    | 39, hij, h =>
      exact h
    | 40, hij, h =>
      exact h
    | 41, hij, h =>
      exact h
    | 42, hij, h =>
      exact h
    | 43, hij, h =>
      exact h
    | (n + 44), _, h => exact h
  case pstep =>
    intro i o ho a' w' hsa hb hd
    match i, ho with
    | 0, ho =>
      obtain rfl := Option.some.inj ho
      try dsimp only at hd
      have g5 : a'.tmps.getD 5 undef = .bool true := hsa.rest 5 (by rfl)
      refine wpOp_of rfl rfl ?_
      refine op_run (v := .bool true) (w' := w') ?_ ⟨_, rfl, ?_, ?_⟩
      · simp only [execOp, Act.eval, List.map_toArray, List.map_cons, List.map_nil, g5]; first | (go_simp; done) | rfl
      · try dsimp only
        exact (slots_put (ns := 78) (hsa.size.trans rfl) (by decide))
      · exact Below.refl _ _
    | 1, ho =>
      obtain rfl := Option.some.inj ho
      try dsimp only at hd
      have d0 : a'.tmps.getD 35 undef = .bool true := hd 0 (by rfl)
      refine wpOp_of rfl rfl ?_
      refine op_run (v := .bool true) (w' := w') ?_ ⟨_, rfl, ?_, ?_⟩
      · simp only [execOp, Act.eval, List.map_toArray, List.map_cons, List.map_nil, d0]; first | (go_simp; done) | rfl
      · try dsimp only
        exact (slots_put (ns := 78) (hsa.size.trans rfl) (by decide))
      · exact Below.refl _ _
    | 2, ho =>
      obtain rfl := Option.some.inj ho
      try dsimp only at hd
      have d1 : a'.tmps.getD 36 undef = .bool true := hd 1 (by rfl)
      have g2 : a'.tmps.getD 2 undef = .pointer (some ⟨b, 0, none⟩) := hsa.rest 2 (by rfl)
      have hz := (hb.block _ (heap_lt hB)).trans hB
      have y0 : w'.cell? ⟨b, 0, none⟩ = some (.int .i64 xk) := box_cell hz 0 rfl
      have y1 : w'.cell? ⟨b, 1, none⟩ = some (.string xt) := box_cell hz 1 rfl
      have y2 : w'.cell? ⟨b, 2, none⟩ = some (.string xm) := box_cell hz 2 rfl
      have y3 : w'.cell? ⟨b, 3, none⟩ = some (.int .i64 xs) := box_cell hz 3 rfl
      have y4 : w'.cell? ⟨b, 4, none⟩ = some (.string xy) := box_cell hz 4 rfl
      have y5 : w'.cell? ⟨b, 5, none⟩ = some (.string xv) := box_cell hz 5 rfl
      have y6 : w'.cell? ⟨b, 6, none⟩ = some (.int .i64 xn) := box_cell hz 6 rfl
      have y7 : w'.cell? ⟨b, 7, none⟩ = some (.int .i64 xo) := box_cell hz 7 rfl
      have y8 : w'.cell? ⟨b, 8, none⟩ = some (.int .i64 xa) := box_cell hz 8 rfl
      clear hz
      refine wpOp_on (j := 1) (dj := 36) rfl rfl rfl d1 ?_
      refine op_run (v := .agg #[.int .i64 xk, .string xt, .string xm, .int .i64 xs, .string xy, .string xv, .int .i64 xn, .int .i64 xo, .int .i64 xa]) (w' := w') ?_ ⟨_, rfl, ?_, ?_⟩
      · simp only [execOp, Act.eval, List.map_toArray, List.map_cons, List.map_nil, d1, g2, y0, y1, y2, y3, y4, y5, y6, y7, y8]; first | (go_simp; done) | rfl
      · try dsimp only
        exact (slots_put (ns := 78) (hsa.size.trans rfl) (by decide))
      · exact Below.refl _ _
    | 3, ho =>
      obtain rfl := Option.some.inj ho
      try dsimp only at hd
      have d1 : a'.tmps.getD 36 undef = .bool true := hd 1 (by rfl)
      have d2 : a'.tmps.getD 37 undef = .agg #[.int .i64 xk, .string xt, .string xm, .int .i64 xs, .string xy, .string xv, .int .i64 xn, .int .i64 xo, .int .i64 xa] := hd 2 (by rfl)
      refine wpOp_on (j := 1) (dj := 36) rfl rfl rfl d1 ?_
      refine op_call 12 _ _ rfl (enters_of Tryd.func12 (by kernel_rfl) rfl) [.agg #[.int .i64 xk, .string xt, .string xm, .int .i64 xs, .string xy, .string xv, .int .i64 xn, .int .i64 xo, .int .i64 xa]] (by simp only [List.map, Act.eval, d1, d2]) (hR1 w' hb) ?_
      rintro e w'' ⟨rfl, b2⟩
      refine ⟨_, rfl, _, rfl, ?_, ?_⟩
      · try dsimp only
        exact (slots_put (ns := 78) (hsa.size.trans rfl) (by decide))
      · exact b2
    | 4, ho =>
      obtain rfl := Option.some.inj ho
      try dsimp only at hd
      have d1 : a'.tmps.getD 36 undef = .bool true := hd 1 (by rfl)
      have g2 : a'.tmps.getD 2 undef = .pointer (some ⟨b, 0, none⟩) := hsa.rest 2 (by rfl)
      have hz := (hb.block _ (heap_lt hB)).trans hB
      have y0 : w'.cell? ⟨b, 0, none⟩ = some (.int .i64 xk) := box_cell hz 0 rfl
      have y1 : w'.cell? ⟨b, 1, none⟩ = some (.string xt) := box_cell hz 1 rfl
      have y2 : w'.cell? ⟨b, 2, none⟩ = some (.string xm) := box_cell hz 2 rfl
      have y3 : w'.cell? ⟨b, 3, none⟩ = some (.int .i64 xs) := box_cell hz 3 rfl
      have y4 : w'.cell? ⟨b, 4, none⟩ = some (.string xy) := box_cell hz 4 rfl
      have y5 : w'.cell? ⟨b, 5, none⟩ = some (.string xv) := box_cell hz 5 rfl
      have y6 : w'.cell? ⟨b, 6, none⟩ = some (.int .i64 xn) := box_cell hz 6 rfl
      have y7 : w'.cell? ⟨b, 7, none⟩ = some (.int .i64 xo) := box_cell hz 7 rfl
      have y8 : w'.cell? ⟨b, 8, none⟩ = some (.int .i64 xa) := box_cell hz 8 rfl
      clear hz
      refine wpOp_on (j := 1) (dj := 36) rfl rfl rfl d1 ?_
      refine op_run (v := .agg #[.int .i64 xk, .string xt, .string xm, .int .i64 xs, .string xy, .string xv, .int .i64 xn, .int .i64 xo, .int .i64 xa]) (w' := w') ?_ ⟨_, rfl, ?_, ?_⟩
      · simp only [execOp, Act.eval, List.map_toArray, List.map_cons, List.map_nil, d1, g2, y0, y1, y2, y3, y4, y5, y6, y7, y8]; first | (go_simp; done) | rfl
      · try dsimp only
        exact (slots_put (ns := 78) (hsa.size.trans rfl) (by decide))
      · exact Below.refl _ _
    | 5, ho =>
      obtain rfl := Option.some.inj ho
      try dsimp only at hd
      have d1 : a'.tmps.getD 36 undef = .bool true := hd 1 (by rfl)
      have d4 : a'.tmps.getD 39 undef = .agg #[.int .i64 xk, .string xt, .string xm, .int .i64 xs, .string xy, .string xv, .int .i64 xn, .int .i64 xo, .int .i64 xa] := hd 4 (by rfl)
      refine wpOp_on (j := 1) (dj := 36) rfl rfl rfl d1 ?_
      refine op_call 13 _ _ rfl (enters_of Tryd.func13 (by kernel_rfl) rfl) [.agg #[.int .i64 xk, .string xt, .string xm, .int .i64 xs, .string xy, .string xv, .int .i64 xn, .int .i64 xo, .int .i64 xa]] (by simp only [List.map, Act.eval, d1, d4]) (hR2 w' hb) ?_
      rintro e w'' ⟨rfl, b2⟩
      refine ⟨_, rfl, _, rfl, ?_, ?_⟩
      · try dsimp only
        exact (slots_put (ns := 78) (hsa.size.trans rfl) (by decide))
      · exact b2
    | 6, ho =>
      obtain rfl := Option.some.inj ho
      try dsimp only at hd
      have d1 : a'.tmps.getD 36 undef = .bool true := hd 1 (by rfl)
      have d3 : a'.tmps.getD 38 undef = .bool false := hd 3 (by rfl)
      have d5 : a'.tmps.getD 40 undef = .bool false := hd 5 (by rfl)
      refine wpOp_on (j := 1) (dj := 36) rfl rfl rfl d1 ?_
      refine op_run (v := .bool true) (w' := w') ?_ ⟨_, rfl, ?_, ?_⟩
      · simp only [execOp, Act.eval, List.map_toArray, List.map_cons, List.map_nil, d1, d3, d5]; first | (go_simp; done) | rfl
      · try dsimp only
        exact (slots_put (ns := 78) (hsa.size.trans rfl) (by decide))
      · exact Below.refl _ _
    | 7, ho =>
      obtain rfl := Option.some.inj ho
      try dsimp only at hd
      have d1 : a'.tmps.getD 36 undef = .bool true := hd 1 (by rfl)
      have d6 : a'.tmps.getD 41 undef = .bool true := hd 6 (by rfl)
      refine wpOp_of rfl rfl ?_
      refine op_run (v := .bool true) (w' := w') ?_ ⟨_, rfl, ?_, ?_⟩
      · simp only [execOp, Act.eval, List.map_toArray, List.map_cons, List.map_nil, d1, d6]; first | (go_simp; done) | rfl
      · try dsimp only
        exact (slots_put (ns := 78) (hsa.size.trans rfl) (by decide))
      · exact Below.refl _ _
    | 8, ho =>
      obtain rfl := Option.some.inj ho
      try dsimp only at hd
      have d7 : a'.tmps.getD 42 undef = .bool true := hd 7 (by rfl)
      refine wpOp_of rfl rfl ?_
      refine op_run (v := .bool true) (w' := w') ?_ ⟨_, rfl, ?_, ?_⟩
      · simp only [execOp, Act.eval, List.map_toArray, List.map_cons, List.map_nil, d7]; first | (go_simp; done) | rfl
      · try dsimp only
        exact (slots_put (ns := 78) (hsa.size.trans rfl) (by decide))
      · exact Below.refl _ _
    | 9, ho =>
      obtain rfl := Option.some.inj ho
      try dsimp only at hd
      have d8 : a'.tmps.getD 43 undef = .bool true := hd 8 (by rfl)
      have g6 : a'.tmps.getD 6 undef = .string T := hsa.rest 6 (by rfl)
      refine wpOp_on (j := 8) (dj := 43) rfl rfl rfl d8 ?_
      refine op_run (v := .string T) (w' := w') ?_ ⟨_, rfl, ?_, ?_⟩
      · simp only [execOp, Act.eval, List.map_toArray, List.map_cons, List.map_nil, d8, g6]; first | (go_simp; done) | rfl
      · try dsimp only
        exact (slots_put (ns := 78) (hsa.size.trans rfl) (by decide))
      · exact Below.refl _ _
    | 10, ho =>
      obtain rfl := Option.some.inj ho
      try dsimp only at hd
      have d8 : a'.tmps.getD 43 undef = .bool true := hd 8 (by rfl)
      have g8 : a'.tmps.getD 8 undef = .string T := hsa.rest 8 (by rfl)
      refine wpOp_on (j := 8) (dj := 43) rfl rfl rfl d8 ?_
      refine op_run (v := .string T) (w' := w') ?_ ⟨_, rfl, ?_, ?_⟩
      · simp only [execOp, Act.eval, List.map_toArray, List.map_cons, List.map_nil, d8, g8]; first | (go_simp; done) | rfl
      · try dsimp only
        exact (slots_put (ns := 78) (hsa.size.trans rfl) (by decide))
      · exact Below.refl _ _
    | 11, ho =>
      obtain rfl := Option.some.inj ho
      try dsimp only at hd
      have d8 : a'.tmps.getD 43 undef = .bool true := hd 8 (by rfl)
      have d9 : a'.tmps.getD 44 undef = .string T := hd 9 (by rfl)
      have d10 : a'.tmps.getD 45 undef = .string T := hd 10 (by rfl)
      refine wpOp_on (j := 8) (dj := 43) rfl rfl rfl d8 ?_
      refine op_run (v := .bool true) (w' := w') ?_ ⟨_, rfl, ?_, ?_⟩
      · simp only [execOp, Act.eval, List.map_toArray, List.map_cons, List.map_nil, d8, d9, d10]; first | (go_simp; done) | rfl
      · try dsimp only
        exact (slots_put (ns := 78) (hsa.size.trans rfl) (by decide))
      · exact Below.refl _ _
    | 12, ho =>
      obtain rfl := Option.some.inj ho
      try dsimp only at hd
      have d8 : a'.tmps.getD 43 undef = .bool true := hd 8 (by rfl)
      have d11 : a'.tmps.getD 46 undef = .bool true := hd 11 (by rfl)
      refine wpOp_of rfl rfl ?_
      refine op_run (v := .bool true) (w' := w') ?_ ⟨_, rfl, ?_, ?_⟩
      · simp only [execOp, Act.eval, List.map_toArray, List.map_cons, List.map_nil, d8, d11]; first | (go_simp; done) | rfl
      · try dsimp only
        exact (slots_put (ns := 78) (hsa.size.trans rfl) (by decide))
      · exact Below.refl _ _
    | 13, ho =>
      obtain rfl := Option.some.inj ho
      try dsimp only at hd
      have d12 : a'.tmps.getD 47 undef = .bool true := hd 12 (by rfl)
      refine wpOp_of rfl rfl ?_
      refine op_run (v := .bool true) (w' := w') ?_ ⟨_, rfl, ?_, ?_⟩
      · simp only [execOp, Act.eval, List.map_toArray, List.map_cons, List.map_nil, d12]; first | (go_simp; done) | rfl
      · try dsimp only
        exact (slots_put (ns := 78) (hsa.size.trans rfl) (by decide))
      · exact Below.refl _ _
    | 14, ho =>
      obtain rfl := Option.some.inj ho
      try dsimp only at hd
      have d13 : a'.tmps.getD 48 undef = .bool true := hd 13 (by rfl)
      have g7 : a'.tmps.getD 7 undef = .int .i64 1 := hsa.rest 7 (by rfl)
      refine wpOp_on (j := 13) (dj := 48) rfl rfl rfl d13 ?_
      refine op_run (v := .int .i64 1) (w' := w') ?_ ⟨_, rfl, ?_, ?_⟩
      · simp only [execOp, Act.eval, List.map_toArray, List.map_cons, List.map_nil, d13, g7]; first | (go_simp; done) | rfl
      · try dsimp only
        exact (slots_put (ns := 78) (hsa.size.trans rfl) (by decide))
      · exact Below.refl _ _
    | 15, ho =>
      obtain rfl := Option.some.inj ho
      try dsimp only at hd
      have d13 : a'.tmps.getD 48 undef = .bool true := hd 13 (by rfl)
      have d14 : a'.tmps.getD 49 undef = .int .i64 1 := hd 14 (by rfl)
      refine wpOp_on (j := 13) (dj := 48) rfl rfl rfl d13 ?_
      refine op_run (v := .bool false) (w' := w') ?_ ⟨_, rfl, ?_, ?_⟩
      · simp only [execOp, Act.eval, List.map_toArray, List.map_cons, List.map_nil, d13, d14]; first | (go_simp; done) | rfl
      · try dsimp only
        exact (slots_put (ns := 78) (hsa.size.trans rfl) (by decide))
      · exact Below.refl _ _
    | 16, ho =>
      obtain rfl := Option.some.inj ho
      try dsimp only at hd
      have d13 : a'.tmps.getD 48 undef = .bool true := hd 13 (by rfl)
      have g9 : a'.tmps.getD 9 undef = .bool false := hsa.rest 9 (by rfl)
      refine wpOp_on (j := 13) (dj := 48) rfl rfl rfl d13 ?_
      refine op_run (v := .bool false) (w' := w') ?_ ⟨_, rfl, ?_, ?_⟩
      · simp only [execOp, Act.eval, List.map_toArray, List.map_cons, List.map_nil, d13, g9]; first | (go_simp; done) | rfl
      · try dsimp only
        exact (slots_put (ns := 78) (hsa.size.trans rfl) (by decide))
      · exact Below.refl _ _
    | 17, ho =>
      obtain rfl := Option.some.inj ho
      try dsimp only at hd
      have d13 : a'.tmps.getD 48 undef = .bool true := hd 13 (by rfl)
      have d15 : a'.tmps.getD 50 undef = .bool false := hd 15 (by rfl)
      have d16 : a'.tmps.getD 51 undef = .bool false := hd 16 (by rfl)
      refine wpOp_on (j := 13) (dj := 48) rfl rfl rfl d13 ?_
      refine op_run (v := .bool true) (w' := w') ?_ ⟨_, rfl, ?_, ?_⟩
      · simp only [execOp, Act.eval, List.map_toArray, List.map_cons, List.map_nil, d13, d15, d16]; first | (go_simp; done) | rfl
      · try dsimp only
        exact (slots_put (ns := 78) (hsa.size.trans rfl) (by decide))
      · exact Below.refl _ _
    | 18, ho =>
      obtain rfl := Option.some.inj ho
      try dsimp only at hd
      have d13 : a'.tmps.getD 48 undef = .bool true := hd 13 (by rfl)
      have d17 : a'.tmps.getD 52 undef = .bool true := hd 17 (by rfl)
      refine wpOp_of rfl rfl ?_
      refine op_run (v := .bool true) (w' := w') ?_ ⟨_, rfl, ?_, ?_⟩
      · simp only [execOp, Act.eval, List.map_toArray, List.map_cons, List.map_nil, d13, d17]; first | (go_simp; done) | rfl
      · try dsimp only
        exact (slots_put (ns := 78) (hsa.size.trans rfl) (by decide))
      · exact Below.refl _ _
    | 19, ho =>
      obtain rfl := Option.some.inj ho
      try dsimp only at hd
      have d18 : a'.tmps.getD 53 undef = .bool true := hd 18 (by rfl)
      refine wpOp_of rfl rfl ?_
      refine op_run (v := .bool true) (w' := w') ?_ ⟨_, rfl, ?_, ?_⟩
      · simp only [execOp, Act.eval, List.map_toArray, List.map_cons, List.map_nil, d18]; first | (go_simp; done) | rfl
      · try dsimp only
        exact (slots_put (ns := 78) (hsa.size.trans rfl) (by decide))
      · exact Below.refl _ _
    | 20, ho =>
      obtain rfl := Option.some.inj ho
      try dsimp only at hd
      have d19 : a'.tmps.getD 54 undef = .bool true := hd 19 (by rfl)
      have g9 : a'.tmps.getD 9 undef = .bool false := hsa.rest 9 (by rfl)
      refine wpOp_on (j := 19) (dj := 54) rfl rfl rfl d19 ?_
      refine op_run (v := .bool false) (w' := w') ?_ ⟨_, rfl, ?_, ?_⟩
      · simp only [execOp, Act.eval, List.map_toArray, List.map_cons, List.map_nil, d19, g9]; first | (go_simp; done) | rfl
      · try dsimp only
        exact (slots_put (ns := 78) (hsa.size.trans rfl) (by decide))
      · exact Below.refl _ _
    | 21, ho =>
      obtain rfl := Option.some.inj ho
      try dsimp only at hd
      have d19 : a'.tmps.getD 54 undef = .bool true := hd 19 (by rfl)
      have d20 : a'.tmps.getD 55 undef = .bool false := hd 20 (by rfl)
      refine wpOp_on (j := 19) (dj := 54) rfl rfl rfl d19 ?_
      refine op_run (v := .bool false) (w' := w') ?_ ⟨_, rfl, ?_, ?_⟩
      · simp only [execOp, Act.eval, List.map_toArray, List.map_cons, List.map_nil, d19, d20]; first | (go_simp; done) | rfl
      · try dsimp only
        exact (slots_put (ns := 78) (hsa.size.trans rfl) (by decide))
      · exact Below.refl _ _
    | 22, ho =>
      obtain rfl := Option.some.inj ho
      try dsimp only at hd
      have d21 : a'.tmps.getD 56 undef = .bool false := hd 21 (by rfl)
      have g7 : a'.tmps.getD 7 undef = .int .i64 1 := hsa.rest 7 (by rfl)
      refine wpOp_on (j := 21) (dj := 56) rfl rfl rfl d21 ?_
      refine op_run (v := .int .i64 1) (w' := w') ?_ ⟨_, rfl, ?_, ?_⟩
      · simp only [execOp, Act.eval, List.map_toArray, List.map_cons, List.map_nil, d21, g7]; first | (go_simp; done) | rfl
      · try dsimp only
        exact (slots_put (ns := 78) (hsa.size.trans rfl) (by decide))
      · exact Below.refl _ _
    | 23, ho =>
      obtain rfl := Option.some.inj ho
      try dsimp only at hd
      have d21 : a'.tmps.getD 56 undef = .bool false := hd 21 (by rfl)
      have d22 : a'.tmps.getD 57 undef = .int .i64 1 := hd 22 (by rfl)
      refine wpOp_on (j := 21) (dj := 56) rfl rfl rfl d21 ?_
      refine op_run (v := .bool true) (w' := w') ?_ ⟨_, rfl, ?_, ?_⟩
      · simp only [execOp, Act.eval, List.map_toArray, List.map_cons, List.map_nil, d21, d22]; first | (go_simp; done) | rfl
      · try dsimp only
        exact (slots_put (ns := 78) (hsa.size.trans rfl) (by decide))
      · exact Below.refl _ _
    | 24, ho =>
      obtain rfl := Option.some.inj ho
      try dsimp only at hd
      have d19 : a'.tmps.getD 54 undef = .bool true := hd 19 (by rfl)
      have d21 : a'.tmps.getD 56 undef = .bool false := hd 21 (by rfl)
      have d23 : a'.tmps.getD 58 undef = .bool true := hd 23 (by rfl)
      refine wpOp_on (j := 19) (dj := 54) rfl rfl rfl d19 ?_
      refine op_run (v := .bool true) (w' := w') ?_ ⟨_, rfl, ?_, ?_⟩
      · simp only [execOp, Act.eval, List.map_toArray, List.map_cons, List.map_nil, d19, d21, d23]; first | (go_simp; done) | rfl
      · try dsimp only
        exact (slots_put (ns := 78) (hsa.size.trans rfl) (by decide))
      · exact Below.refl _ _
    | 25, ho =>
      obtain rfl := Option.some.inj ho
      try dsimp only at hd
      have d19 : a'.tmps.getD 54 undef = .bool true := hd 19 (by rfl)
      have d24 : a'.tmps.getD 59 undef = .bool true := hd 24 (by rfl)
      refine wpOp_of rfl rfl ?_
      refine op_run (v := .bool true) (w' := w') ?_ ⟨_, rfl, ?_, ?_⟩
      · simp only [execOp, Act.eval, List.map_toArray, List.map_cons, List.map_nil, d19, d24]; first | (go_simp; done) | rfl
      · try dsimp only
        exact (slots_put (ns := 78) (hsa.size.trans rfl) (by decide))
      · exact Below.refl _ _
    | 26, ho =>
      obtain rfl := Option.some.inj ho
      try dsimp only at hd
      have d25 : a'.tmps.getD 60 undef = .bool true := hd 25 (by rfl)
      refine wpOp_of rfl rfl ?_
      refine op_run (v := .bool true) (w' := w') ?_ ⟨_, rfl, ?_, ?_⟩
      · simp only [execOp, Act.eval, List.map_toArray, List.map_cons, List.map_nil, d25]; first | (go_simp; done) | rfl
      · try dsimp only
        exact (slots_put (ns := 78) (hsa.size.trans rfl) (by decide))
      · exact Below.refl _ _
    | 27, ho =>
      obtain rfl := Option.some.inj ho
      try dsimp only at hd
      have d26 : a'.tmps.getD 61 undef = .bool true := hd 26 (by rfl)
      have g10 : a'.tmps.getD 10 undef = .pointer (some ⟨b1, 0, none⟩) := hsa.rest 10 (by rfl)
      have hz := (hb.block _ (heap_lt h1)).trans h1
      have y0 : w'.cell? ⟨b1, 0, none⟩ = some (.int .i64 dk) := box_cell hz 0 rfl
      have y1 : w'.cell? ⟨b1, 1, none⟩ = some (.string dt) := box_cell hz 1 rfl
      have y2 : w'.cell? ⟨b1, 2, none⟩ = some (.string dm) := box_cell hz 2 rfl
      have y3 : w'.cell? ⟨b1, 3, none⟩ = some (.int .i64 ds) := box_cell hz 3 rfl
      have y4 : w'.cell? ⟨b1, 4, none⟩ = some (.string dy) := box_cell hz 4 rfl
      have y5 : w'.cell? ⟨b1, 5, none⟩ = some (.string dv) := box_cell hz 5 rfl
      have y6 : w'.cell? ⟨b1, 6, none⟩ = some (.int .i64 dn) := box_cell hz 6 rfl
      have y7 : w'.cell? ⟨b1, 7, none⟩ = some (.int .i64 doo) := box_cell hz 7 rfl
      have y8 : w'.cell? ⟨b1, 8, none⟩ = some (.int .i64 da) := box_cell hz 8 rfl
      clear hz
      refine wpOp_on (j := 26) (dj := 61) rfl rfl rfl d26 ?_
      refine op_run (v := .agg #[.int .i64 dk, .string dt, .string dm, .int .i64 ds, .string dy, .string dv, .int .i64 dn, .int .i64 doo, .int .i64 da]) (w' := w') ?_ ⟨_, rfl, ?_, ?_⟩
      · simp only [execOp, Act.eval, List.map_toArray, List.map_cons, List.map_nil, d26, g10, y0, y1, y2, y3, y4, y5, y6, y7, y8]; first | (go_simp; done) | rfl
      · try dsimp only
        exact (slots_put (ns := 78) (hsa.size.trans rfl) (by decide))
      · exact Below.refl _ _
    | 28, ho =>
      obtain rfl := Option.some.inj ho
      try dsimp only at hd
      have d26 : a'.tmps.getD 61 undef = .bool true := hd 26 (by rfl)
      have g12 : a'.tmps.getD 12 undef = .pointer (some ⟨b2, 0, none⟩) := hsa.rest 12 (by rfl)
      have hz := (hb.block _ (heap_lt h2)).trans h2
      have y0 : w'.cell? ⟨b2, 0, none⟩ = some (.int .i64 dk) := box_cell hz 0 rfl
      have y1 : w'.cell? ⟨b2, 1, none⟩ = some (.string dt) := box_cell hz 1 rfl
      have y2 : w'.cell? ⟨b2, 2, none⟩ = some (.string dm) := box_cell hz 2 rfl
      have y3 : w'.cell? ⟨b2, 3, none⟩ = some (.int .i64 ds) := box_cell hz 3 rfl
      have y4 : w'.cell? ⟨b2, 4, none⟩ = some (.string dy) := box_cell hz 4 rfl
      have y5 : w'.cell? ⟨b2, 5, none⟩ = some (.string dv) := box_cell hz 5 rfl
      have y6 : w'.cell? ⟨b2, 6, none⟩ = some (.int .i64 dn) := box_cell hz 6 rfl
      have y7 : w'.cell? ⟨b2, 7, none⟩ = some (.int .i64 doo) := box_cell hz 7 rfl
      have y8 : w'.cell? ⟨b2, 8, none⟩ = some (.int .i64 da) := box_cell hz 8 rfl
      clear hz
      refine wpOp_on (j := 26) (dj := 61) rfl rfl rfl d26 ?_
      refine op_run (v := .agg #[.int .i64 dk, .string dt, .string dm, .int .i64 ds, .string dy, .string dv, .int .i64 dn, .int .i64 doo, .int .i64 da]) (w' := w') ?_ ⟨_, rfl, ?_, ?_⟩
      · simp only [execOp, Act.eval, List.map_toArray, List.map_cons, List.map_nil, d26, g12, y0, y1, y2, y3, y4, y5, y6, y7, y8]; first | (go_simp; done) | rfl
      · try dsimp only
        exact (slots_put (ns := 78) (hsa.size.trans rfl) (by decide))
      · exact Below.refl _ _
    | 29, ho =>
      obtain rfl := Option.some.inj ho
      try dsimp only at hd
      have d26 : a'.tmps.getD 61 undef = .bool true := hd 26 (by rfl)
      have d27 : a'.tmps.getD 62 undef = .agg #[.int .i64 dk, .string dt, .string dm, .int .i64 ds, .string dy, .string dv, .int .i64 dn, .int .i64 doo, .int .i64 da] := hd 27 (by rfl)
      have d28 : a'.tmps.getD 63 undef = .agg #[.int .i64 dk, .string dt, .string dm, .int .i64 ds, .string dy, .string dv, .int .i64 dn, .int .i64 doo, .int .i64 da] := hd 28 (by rfl)
      refine wpOp_on (j := 26) (dj := 61) rfl rfl rfl d26 ?_
      refine op_run (v := .bool true) (w' := w') ?_ ⟨_, rfl, ?_, ?_⟩
      · simp only [execOp, Act.eval, List.map_toArray, List.map_cons, List.map_nil, d26, d27, d28]; first | (go_simp; done) | rfl
      · try dsimp only
        exact (slots_put (ns := 78) (hsa.size.trans rfl) (by decide))
      · exact Below.refl _ _
    | 30, ho =>
      obtain rfl := Option.some.inj ho
      try dsimp only at hd
      have d26 : a'.tmps.getD 61 undef = .bool true := hd 26 (by rfl)
      have d29 : a'.tmps.getD 64 undef = .bool true := hd 29 (by rfl)
      refine wpOp_of rfl rfl ?_
      refine op_run (v := .bool true) (w' := w') ?_ ⟨_, rfl, ?_, ?_⟩
      · simp only [execOp, Act.eval, List.map_toArray, List.map_cons, List.map_nil, d26, d29]; first | (go_simp; done) | rfl
      · try dsimp only
        exact (slots_put (ns := 78) (hsa.size.trans rfl) (by decide))
      · exact Below.refl _ _
    | 31, ho =>
      obtain rfl := Option.some.inj ho
      try dsimp only at hd
      have d30 : a'.tmps.getD 65 undef = .bool true := hd 30 (by rfl)
      refine wpOp_of rfl rfl ?_
      refine op_run (v := .bool true) (w' := w') ?_ ⟨_, rfl, ?_, ?_⟩
      · simp only [execOp, Act.eval, List.map_toArray, List.map_cons, List.map_nil, d30]; first | (go_simp; done) | rfl
      · try dsimp only
        exact (slots_put (ns := 78) (hsa.size.trans rfl) (by decide))
      · exact Below.refl _ _
    | 32, ho =>
      obtain rfl := Option.some.inj ho
      try dsimp only at hd
      have d31 : a'.tmps.getD 66 undef = .bool true := hd 31 (by rfl)
      have g11 : a'.tmps.getD 11 undef = .int .i64 er := hsa.rest 11 (by rfl)
      refine wpOp_on (j := 31) (dj := 66) rfl rfl rfl d31 ?_
      refine op_run (v := .int .i64 er) (w' := w') ?_ ⟨_, rfl, ?_, ?_⟩
      · simp only [execOp, Act.eval, List.map_toArray, List.map_cons, List.map_nil, d31, g11]; first | (go_simp; done) | rfl
      · try dsimp only
        exact (slots_put (ns := 78) (hsa.size.trans rfl) (by decide))
      · exact Below.refl _ _
    | 33, ho =>
      obtain rfl := Option.some.inj ho
      try dsimp only at hd
      have d31 : a'.tmps.getD 66 undef = .bool true := hd 31 (by rfl)
      have g13 : a'.tmps.getD 13 undef = .int .i64 er := hsa.rest 13 (by rfl)
      refine wpOp_on (j := 31) (dj := 66) rfl rfl rfl d31 ?_
      refine op_run (v := .int .i64 er) (w' := w') ?_ ⟨_, rfl, ?_, ?_⟩
      · simp only [execOp, Act.eval, List.map_toArray, List.map_cons, List.map_nil, d31, g13]; first | (go_simp; done) | rfl
      · try dsimp only
        exact (slots_put (ns := 78) (hsa.size.trans rfl) (by decide))
      · exact Below.refl _ _
    | 34, ho =>
      obtain rfl := Option.some.inj ho
      try dsimp only at hd
      have d31 : a'.tmps.getD 66 undef = .bool true := hd 31 (by rfl)
      have d32 : a'.tmps.getD 67 undef = .int .i64 er := hd 32 (by rfl)
      have d33 : a'.tmps.getD 68 undef = .int .i64 er := hd 33 (by rfl)
      refine wpOp_on (j := 31) (dj := 66) rfl rfl rfl d31 ?_
      refine op_run (v := .bool true) (w' := w') ?_ ⟨_, rfl, ?_, ?_⟩
      · simp only [execOp, Act.eval, List.map_toArray, List.map_cons, List.map_nil, d31, d32, d33]; first | (go_simp; done) | rfl
      · try dsimp only
        exact (slots_put (ns := 78) (hsa.size.trans rfl) (by decide))
      · exact Below.refl _ _
    | 35, ho =>
      obtain rfl := Option.some.inj ho
      try dsimp only at hd
      have d31 : a'.tmps.getD 66 undef = .bool true := hd 31 (by rfl)
      have d34 : a'.tmps.getD 69 undef = .bool true := hd 34 (by rfl)
      refine wpOp_of rfl rfl ?_
      refine op_run (v := .bool true) (w' := w') ?_ ⟨_, rfl, ?_, ?_⟩
      · simp only [execOp, Act.eval, List.map_toArray, List.map_cons, List.map_nil, d31, d34]; first | (go_simp; done) | rfl
      · try dsimp only
        exact (slots_put (ns := 78) (hsa.size.trans rfl) (by decide))
      · exact Below.refl _ _
    | 36, ho =>
      obtain rfl := Option.some.inj ho
      try dsimp only at hd
      have d35 : a'.tmps.getD 70 undef = .bool true := hd 35 (by rfl)
      refine wpOp_of rfl rfl ?_
      refine op_run (v := .bool true) (w' := w') ?_ ⟨_, rfl, ?_, ?_⟩
      · simp only [execOp, Act.eval, List.map_toArray, List.map_cons, List.map_nil, d35]; first | (go_simp; done) | rfl
      · try dsimp only
        exact (slots_put (ns := 78) (hsa.size.trans rfl) (by decide))
      · exact Below.refl _ _
    | 37, ho =>
      obtain rfl := Option.some.inj ho
      try dsimp only at hd
      have d36 : a'.tmps.getD 71 undef = .bool true := hd 36 (by rfl)
      have g1 : a'.tmps.getD 1 undef = .string zs := hsa.rest 1 (by rfl)
      refine wpOp_on (j := 36) (dj := 71) rfl rfl rfl d36 ?_
      refine op_run (v := .string zs) (w' := w') ?_ ⟨_, rfl, ?_, ?_⟩
      · simp only [execOp, Act.eval, List.map_toArray, List.map_cons, List.map_nil, d36, g1]; first | (go_simp; done) | rfl
      · try dsimp only
        exact (slots_put (ns := 78) (hsa.size.trans rfl) (by decide))
      · exact Below.refl _ _
    | 38, ho =>
      obtain rfl := Option.some.inj ho
      try dsimp only at hd
      have d36 : a'.tmps.getD 71 undef = .bool true := hd 36 (by rfl)
      have d37 : a'.tmps.getD 72 undef = .string zs := hd 37 (by rfl)
      refine wpOp_on (j := 36) (dj := 71) rfl rfl rfl d36 ?_
      refine op_call 14 _ _ rfl (enters_of Tryd.func14 (by kernel_rfl) rfl) [.string zs] (by simp only [List.map, Act.eval, d36, d37]) (hW1 w' hb) ?_
      rintro e w'' ⟨rfl, b2⟩
      refine ⟨_, rfl, _, rfl, ?_, ?_⟩
      · try dsimp only
        exact (slots_put (ns := 78) (hsa.size.trans rfl) (by decide))
      · exact b2
    | 39, ho =>
      obtain rfl := Option.some.inj ho
      try dsimp only at hd
      have d36 : a'.tmps.getD 71 undef = .bool true := hd 36 (by rfl)
      have g1 : a'.tmps.getD 1 undef = .string zs := hsa.rest 1 (by rfl)
      refine wpOp_on (j := 36) (dj := 71) rfl rfl rfl d36 ?_
      refine op_run (v := .string zs) (w' := w') ?_ ⟨_, rfl, ?_, ?_⟩
      · simp only [execOp, Act.eval, List.map_toArray, List.map_cons, List.map_nil, d36, g1]; first | (go_simp; done) | rfl
      · try dsimp only
        exact (slots_put (ns := 78) (hsa.size.trans rfl) (by decide))
      · exact Below.refl _ _
    | 40, ho =>
      obtain rfl := Option.some.inj ho
      try dsimp only at hd
      have d36 : a'.tmps.getD 71 undef = .bool true := hd 36 (by rfl)
      have d39 : a'.tmps.getD 74 undef = .string zs := hd 39 (by rfl)
      refine wpOp_on (j := 36) (dj := 71) rfl rfl rfl d36 ?_
      refine op_call 15 _ _ rfl (enters_of Tryd.func15 (by kernel_rfl) rfl) [.string zs] (by simp only [List.map, Act.eval, d36, d39]) (hW2 w' hb) ?_
      rintro e w'' ⟨rfl, b2⟩
      refine ⟨_, rfl, _, rfl, ?_, ?_⟩
      · try dsimp only
        exact (slots_put (ns := 78) (hsa.size.trans rfl) (by decide))
      · exact b2
    | 41, ho =>
      obtain rfl := Option.some.inj ho
      try dsimp only at hd
      have d36 : a'.tmps.getD 71 undef = .bool true := hd 36 (by rfl)
      have d38 : a'.tmps.getD 73 undef = .bool wb := hd 38 (by rfl)
      have d40 : a'.tmps.getD 75 undef = .bool wb := hd 40 (by rfl)
      refine wpOp_on (j := 36) (dj := 71) rfl rfl rfl d36 ?_
      refine op_run (v := .bool true) (w' := w') ?_ ⟨_, rfl, ?_, ?_⟩
      · simp only [execOp, Act.eval, List.map_toArray, List.map_cons, List.map_nil, d36, d38, d40]; first | (go_simp; done) | rfl
      · try dsimp only
        exact (slots_put (ns := 78) (hsa.size.trans rfl) (by decide))
      · exact Below.refl _ _
    | 42, ho =>
      obtain rfl := Option.some.inj ho
      try dsimp only at hd
      have d36 : a'.tmps.getD 71 undef = .bool true := hd 36 (by rfl)
      have d41 : a'.tmps.getD 76 undef = .bool true := hd 41 (by rfl)
      refine wpOp_of rfl rfl ?_
      refine op_run (v := .bool true) (w' := w') ?_ ⟨_, rfl, ?_, ?_⟩
      · simp only [execOp, Act.eval, List.map_toArray, List.map_cons, List.map_nil, d36, d41]; first | (go_simp; done) | rfl
      · try dsimp only
        exact (slots_put (ns := 78) (hsa.size.trans rfl) (by decide))
      · exact Below.refl _ _
    | 43, ho =>
      obtain rfl := Option.some.inj ho
      try dsimp only at hd
      have d42 : a'.tmps.getD 77 undef = .bool true := hd 42 (by rfl)
      refine wpOp_of rfl rfl ?_
      refine op_run (v := .bool true) (w' := w') ?_ ⟨_, rfl, ?_, ?_⟩
      · simp only [execOp, Act.eval, List.map_toArray, List.map_cons, List.map_nil, d42]; first | (go_simp; done) | rfl
      · try dsimp only
        exact (slots_put (ns := 78) (hsa.size.trans rfl) (by decide))
      · exact Below.refl _ _
    | (n + 44), ho => exact absurd ho (by simp)
  case pdone =>
    intro a' w' hsa hb hd
    have d0 : a'.tmps.getD 35 undef = .bool true := hd 0 (by decide)
    have d1 : a'.tmps.getD 36 undef = .bool true := hd 1 (by decide)
    have d2 : a'.tmps.getD 37 undef = .agg #[.int .i64 xk, .string xt, .string xm, .int .i64 xs, .string xy, .string xv, .int .i64 xn, .int .i64 xo, .int .i64 xa] := hd 2 (by decide)
    have d3 : a'.tmps.getD 38 undef = .bool false := hd 3 (by decide)
    have d4 : a'.tmps.getD 39 undef = .agg #[.int .i64 xk, .string xt, .string xm, .int .i64 xs, .string xy, .string xv, .int .i64 xn, .int .i64 xo, .int .i64 xa] := hd 4 (by decide)
    have d5 : a'.tmps.getD 40 undef = .bool false := hd 5 (by decide)
    have d6 : a'.tmps.getD 41 undef = .bool true := hd 6 (by decide)
    have d7 : a'.tmps.getD 42 undef = .bool true := hd 7 (by decide)
    have d8 : a'.tmps.getD 43 undef = .bool true := hd 8 (by decide)
    have d9 : a'.tmps.getD 44 undef = .string T := hd 9 (by decide)
    have d10 : a'.tmps.getD 45 undef = .string T := hd 10 (by decide)
    have d11 : a'.tmps.getD 46 undef = .bool true := hd 11 (by decide)
    have d12 : a'.tmps.getD 47 undef = .bool true := hd 12 (by decide)
    have d13 : a'.tmps.getD 48 undef = .bool true := hd 13 (by decide)
    have d14 : a'.tmps.getD 49 undef = .int .i64 1 := hd 14 (by decide)
    have d15 : a'.tmps.getD 50 undef = .bool false := hd 15 (by decide)
    have d16 : a'.tmps.getD 51 undef = .bool false := hd 16 (by decide)
    have d17 : a'.tmps.getD 52 undef = .bool true := hd 17 (by decide)
    have d18 : a'.tmps.getD 53 undef = .bool true := hd 18 (by decide)
    have d19 : a'.tmps.getD 54 undef = .bool true := hd 19 (by decide)
    have d20 : a'.tmps.getD 55 undef = .bool false := hd 20 (by decide)
    have d21 : a'.tmps.getD 56 undef = .bool false := hd 21 (by decide)
    have d22 : a'.tmps.getD 57 undef = .int .i64 1 := hd 22 (by decide)
    have d23 : a'.tmps.getD 58 undef = .bool true := hd 23 (by decide)
    have d24 : a'.tmps.getD 59 undef = .bool true := hd 24 (by decide)
    have d25 : a'.tmps.getD 60 undef = .bool true := hd 25 (by decide)
    have d26 : a'.tmps.getD 61 undef = .bool true := hd 26 (by decide)
    have d27 : a'.tmps.getD 62 undef = .agg #[.int .i64 dk, .string dt, .string dm, .int .i64 ds, .string dy, .string dv, .int .i64 dn, .int .i64 doo, .int .i64 da] := hd 27 (by decide)
    have d28 : a'.tmps.getD 63 undef = .agg #[.int .i64 dk, .string dt, .string dm, .int .i64 ds, .string dy, .string dv, .int .i64 dn, .int .i64 doo, .int .i64 da] := hd 28 (by decide)
    have d29 : a'.tmps.getD 64 undef = .bool true := hd 29 (by decide)
    have d30 : a'.tmps.getD 65 undef = .bool true := hd 30 (by decide)
    have d31 : a'.tmps.getD 66 undef = .bool true := hd 31 (by decide)
    have d32 : a'.tmps.getD 67 undef = .int .i64 er := hd 32 (by decide)
    have d33 : a'.tmps.getD 68 undef = .int .i64 er := hd 33 (by decide)
    have d34 : a'.tmps.getD 69 undef = .bool true := hd 34 (by decide)
    have d35 : a'.tmps.getD 70 undef = .bool true := hd 35 (by decide)
    have d36 : a'.tmps.getD 71 undef = .bool true := hd 36 (by decide)
    have d37 : a'.tmps.getD 72 undef = .string zs := hd 37 (by decide)
    have d38 : a'.tmps.getD 73 undef = .bool wb := hd 38 (by decide)
    have d39 : a'.tmps.getD 74 undef = .string zs := hd 39 (by decide)
    have d40 : a'.tmps.getD 75 undef = .bool wb := hd 40 (by decide)
    have d41 : a'.tmps.getD 76 undef = .bool true := hd 41 (by decide)
    have d42 : a'.tmps.getD 77 undef = .bool true := hd 42 (by decide)
    have d43 : a'.tmps.getD 4 undef = .bool true := hd 43 (by decide)
    exact HQ.out _ _ ⟨hsa.size.trans rfl, hsa.defers.trans rfl, hsa.rest 0 (by rfl), hsa.rest 1 (by rfl), hsa.rest 2 (by rfl), d43, hsa.rest 5 (by rfl), hsa.rest 6 (by rfl), hsa.rest 7 (by rfl), hsa.rest 8 (by rfl), hsa.rest 9 (by rfl), hsa.rest 10 (by rfl), hsa.rest 11 (by rfl), hsa.rest 12 (by rfl), hsa.rest 13 (by rfl)⟩ hb
theorem by_ret {W : World} {a : Act} {v : Vby} {b : Bool} {R : Ending → World → Prop} (hF : Fby a v) (h0 : v.v4 = .bool b) (h : R (.returned (.bool b)) W) :
    bodyPost Tryd.prog Tryd.f3 R .ret a W := by
  have g0 := slot_get (hF.s4.trans h0)
  refine bodyPost_ret (v := .bool b) ?_ hF.defers h
  simp [results, Tryd.results3, go_sem, g0]
end Go.Proofs.YthfflefnapbkiaaDoor
