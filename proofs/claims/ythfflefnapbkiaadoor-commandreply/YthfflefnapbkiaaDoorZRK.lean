/-
  CommandReply: its regions (mkreply.py)
-/
import Derived.Test.YthfflefnapbkiaaDoorZCP
namespace Go.Proofs.YthfflefnapbkiaaDoor
open Go.RowKit

attribute [local go_sem ↓] Go.wp_at_zero Go.wp_at_succ
set_option linter.unusedSimpArgs false
set_option linter.unusedVariables false
set_option maxRecDepth 100000 in
theorem frame_rk (t : Array Value) (h : t.size = 83) : ∃ u : Nat → Value, t = List.toArray (u 0 :: u 1 :: u 2 :: u 3 :: u 4 :: u 5 :: u 6 :: u 7 :: u 8 :: u 9 :: u 10 :: u 11 :: u 12 :: u 13 :: u 14 :: u 15 :: u 16 :: u 17 :: u 18 :: u 19 :: u 20 :: u 21 :: u 22 :: u 23 :: u 24 :: u 25 :: u 26 :: u 27 :: u 28 :: u 29 :: u 30 :: u 31 :: u 32 :: u 33 :: u 34 :: u 35 :: u 36 :: u 37 :: u 38 :: u 39 :: u 40 :: u 41 :: u 42 :: u 43 :: u 44 :: u 45 :: u 46 :: u 47 :: u 48 :: u 49 :: u 50 :: u 51 :: u 52 :: u 53 :: u 54 :: u 55 :: u 56 :: u 57 :: u 58 :: u 59 :: u 60 :: u 61 :: u 62 :: u 63 :: u 64 :: u 65 :: u 66 :: u 67 :: u 68 :: u 69 :: u 70 :: u 71 :: u 72 :: u 73 :: u 74 :: u 75 :: u 76 :: u 77 :: u 78 :: u 79 :: u 80 :: u 81 :: u 82 :: []) := by
  refine ⟨fun i => t.getD i undef, ?_⟩
  have e : (List.toArray ((fun i => t.getD i undef) 0 :: (fun i => t.getD i undef) 1 :: (fun i => t.getD i undef) 2 :: (fun i => t.getD i undef) 3 :: (fun i => t.getD i undef) 4 :: (fun i => t.getD i undef) 5 :: (fun i => t.getD i undef) 6 :: (fun i => t.getD i undef) 7 :: (fun i => t.getD i undef) 8 :: (fun i => t.getD i undef) 9 :: (fun i => t.getD i undef) 10 :: (fun i => t.getD i undef) 11 :: (fun i => t.getD i undef) 12 :: (fun i => t.getD i undef) 13 :: (fun i => t.getD i undef) 14 :: (fun i => t.getD i undef) 15 :: (fun i => t.getD i undef) 16 :: (fun i => t.getD i undef) 17 :: (fun i => t.getD i undef) 18 :: (fun i => t.getD i undef) 19 :: (fun i => t.getD i undef) 20 :: (fun i => t.getD i undef) 21 :: (fun i => t.getD i undef) 22 :: (fun i => t.getD i undef) 23 :: (fun i => t.getD i undef) 24 :: (fun i => t.getD i undef) 25 :: (fun i => t.getD i undef) 26 :: (fun i => t.getD i undef) 27 :: (fun i => t.getD i undef) 28 :: (fun i => t.getD i undef) 29 :: (fun i => t.getD i undef) 30 :: (fun i => t.getD i undef) 31 :: (fun i => t.getD i undef) 32 :: (fun i => t.getD i undef) 33 :: (fun i => t.getD i undef) 34 :: (fun i => t.getD i undef) 35 :: (fun i => t.getD i undef) 36 :: (fun i => t.getD i undef) 37 :: (fun i => t.getD i undef) 38 :: (fun i => t.getD i undef) 39 :: (fun i => t.getD i undef) 40 :: (fun i => t.getD i undef) 41 :: (fun i => t.getD i undef) 42 :: (fun i => t.getD i undef) 43 :: (fun i => t.getD i undef) 44 :: (fun i => t.getD i undef) 45 :: (fun i => t.getD i undef) 46 :: (fun i => t.getD i undef) 47 :: (fun i => t.getD i undef) 48 :: (fun i => t.getD i undef) 49 :: (fun i => t.getD i undef) 50 :: (fun i => t.getD i undef) 51 :: (fun i => t.getD i undef) 52 :: (fun i => t.getD i undef) 53 :: (fun i => t.getD i undef) 54 :: (fun i => t.getD i undef) 55 :: (fun i => t.getD i undef) 56 :: (fun i => t.getD i undef) 57 :: (fun i => t.getD i undef) 58 :: (fun i => t.getD i undef) 59 :: (fun i => t.getD i undef) 60 :: (fun i => t.getD i undef) 61 :: (fun i => t.getD i undef) 62 :: (fun i => t.getD i undef) 63 :: (fun i => t.getD i undef) 64 :: (fun i => t.getD i undef) 65 :: (fun i => t.getD i undef) 66 :: (fun i => t.getD i undef) 67 :: (fun i => t.getD i undef) 68 :: (fun i => t.getD i undef) 69 :: (fun i => t.getD i undef) 70 :: (fun i => t.getD i undef) 71 :: (fun i => t.getD i undef) 72 :: (fun i => t.getD i undef) 73 :: (fun i => t.getD i undef) 74 :: (fun i => t.getD i undef) 75 :: (fun i => t.getD i undef) 76 :: (fun i => t.getD i undef) 77 :: (fun i => t.getD i undef) 78 :: (fun i => t.getD i undef) 79 :: (fun i => t.getD i undef) 80 :: (fun i => t.getD i undef) 81 :: (fun i => t.getD i undef) 82 :: []) : Array Value) = ((List.range 83).map fun i => t.getD i undef).toArray := rfl
  refine Eq.trans ?_ e.symm
  apply Array.ext
  · simp [h]
  · intro k h1 h2
    simp [Array.getD, h1]
/-- The slots that matter. -/
structure Vrk where
  v0 : Value
  v1 : Value
  v2 : Value
  v4 : Value
  v6 : Value
  v7 : Value
  v8 : Value
  v9 : Value
  v10 : Value
  v11 : Value
  v12 : Value
  v13 : Value
  v14 : Value
  v15 : Value
  v16 : Value
  v17 : Value
  v18 : Value
  v27 : Value
  v47 : Value
  v55 : Value
structure Frk (a : Act) (v : Vrk) : Prop where
  size : a.tmps.size = 83
  defers : a.defers = []
  s0 : a.tmps.getD 0 undef = v.v0
  s1 : a.tmps.getD 1 undef = v.v1
  s2 : a.tmps.getD 2 undef = v.v2
  s4 : a.tmps.getD 4 undef = v.v4
  s6 : a.tmps.getD 6 undef = v.v6
  s7 : a.tmps.getD 7 undef = v.v7
  s8 : a.tmps.getD 8 undef = v.v8
  s9 : a.tmps.getD 9 undef = v.v9
  s10 : a.tmps.getD 10 undef = v.v10
  s11 : a.tmps.getD 11 undef = v.v11
  s12 : a.tmps.getD 12 undef = v.v12
  s13 : a.tmps.getD 13 undef = v.v13
  s14 : a.tmps.getD 14 undef = v.v14
  s15 : a.tmps.getD 15 undef = v.v15
  s16 : a.tmps.getD 16 undef = v.v16
  s17 : a.tmps.getD 17 undef = v.v17
  s18 : a.tmps.getD 18 undef = v.v18
  s27 : a.tmps.getD 27 undef = v.v27
  s47 : a.tmps.getD 47 undef = v.v47
  s55 : a.tmps.getD 55 undef = v.v55
set_option maxHeartbeats 8000000 in
set_option maxRecDepth 100000 in
theorem rk_r0 {K : Act → World → Prop} {c : Code} (hc : regOf (Tryd.f5.body.getD .skip) 0 = some c) (a : Act) {v : Vrk} {wq : World} {cd nn : Int} {ao : Option Addr} {ll cap : Nat} (hF : Frk a v) (h1v : v.v1 = .agg #[.int .i64 cd, .int .i64 nn, .slice ao ll cap]) (hQ : ∀ a' w' b, Frk a' { v with v4 := .pointer (some ⟨b, 0, none⟩), v6 := .bool false } → w'.heap[b]? = some (.cells #[.int .i64 cd, .int .i64 nn, .slice ao ll cap] tRp (0, 0)) → Below wq.heap.size wq w' → K a' w') :
    Code.wp Tryd.prog c (Exit.then K fun _ _ _ => False) a wq := by
  have HQ := hide hQ
  clear hQ
  obtain ⟨t', d'⟩ := a
  obtain ⟨v0, v1, v2, v4, v6, v7, v8, v9, v10, v11, v12, v13, v14, v15, v16, v17, v18, v27, v47, v55⟩ := v
  simp only at h1v HQ
  subst h1v
  obtain ⟨hs1, hd1, q0, q1, q2, q4, q6, q7, q8, q9, q10, q11, q12, q13, q14, q15, q16, q17, q18, q27, q47, q55⟩ := hF
  obtain ⟨u, hu⟩ := frame_rk t' hs1
  simp only at hd1 q0 q1 q2 q4 q6 q7 q8 q9 q10 q11 q12 q13 q14 q15 q16 q17 q18 q27 q47 q55
  subst hu hd1
  have e0 : u 0 = v0 := q0
  have e1 : u 1 = .agg #[.int .i64 cd, .int .i64 nn, .slice ao ll cap] := q1
  have e2 : u 2 = v2 := q2
  have e4 : u 4 = v4 := q4
  have e6 : u 6 = v6 := q6
  have e7 : u 7 = v7 := q7
  have e8 : u 8 = v8 := q8
  have e9 : u 9 = v9 := q9
  have e10 : u 10 = v10 := q10
  have e11 : u 11 = v11 := q11
  have e12 : u 12 = v12 := q12
  have e13 : u 13 = v13 := q13
  have e14 : u 14 = v14 := q14
  have e15 : u 15 = v15 := q15
  have e16 : u 16 = v16 := q16
  have e17 : u 17 = v17 := q17
  have e18 : u 18 = v18 := q18
  have e27 : u 27 = v27 := q27
  have e47 : u 47 = v47 := q47
  have e55 : u 55 = v55 := q55
  rw [e0, e1, e2, e4, e6, e7, e8, e9, e10, e11, e12, e13, e14, e15, e16, e17, e18, e27, e47, e55]
  clear q0 e0 q1 e1 q2 e2 q4 e4 q6 e6 q7 e7 q8 e8 q9 e9 q10 e10 q11 e11 q12 e12 q13 e13 q14 e14 q15 e15 q16 e16 q17 e17 q18 e18 q27 e27 q47 e47 q55 e55 hs1
  simp only [Tryd.f5, Option.getD_some, regOf] at hc
  injection hc with hc
  subst hc
  generalize u 3 = u3
  generalize u 5 = u5
  generalize u 19 = u19
  generalize u 20 = u20
  generalize u 21 = u21
  generalize u 22 = u22
  generalize u 23 = u23
  generalize u 24 = u24
  generalize u 25 = u25
  generalize u 26 = u26
  generalize u 28 = u28
  generalize u 29 = u29
  generalize u 30 = u30
  generalize u 31 = u31
  generalize u 32 = u32
  generalize u 33 = u33
  generalize u 34 = u34
  generalize u 35 = u35
  generalize u 36 = u36
  generalize u 37 = u37
  generalize u 38 = u38
  generalize u 39 = u39
  generalize u 40 = u40
  generalize u 41 = u41
  generalize u 42 = u42
  generalize u 43 = u43
  generalize u 44 = u44
  generalize u 45 = u45
  generalize u 46 = u46
  generalize u 48 = u48
  generalize u 49 = u49
  generalize u 50 = u50
  generalize u 51 = u51
  generalize u 52 = u52
  generalize u 53 = u53
  generalize u 54 = u54
  generalize u 56 = u56
  generalize u 57 = u57
  generalize u 58 = u58
  generalize u 59 = u59
  generalize u 60 = u60
  generalize u 61 = u61
  generalize u 62 = u62
  generalize u 63 = u63
  generalize u 64 = u64
  generalize u 65 = u65
  generalize u 66 = u66
  generalize u 67 = u67
  generalize u 68 = u68
  generalize u 69 = u69
  generalize u 70 = u70
  generalize u 71 = u71
  generalize u 72 = u72
  generalize u 73 = u73
  generalize u 74 = u74
  generalize u 75 = u75
  generalize u 76 = u76
  generalize u 77 = u77
  generalize u 78 = u78
  generalize u 79 = u79
  generalize u 80 = u80
  generalize u 81 = u81
  generalize u 82 = u82
  clear u
  go_wp2
  exact HQ.out _ _ wq.heap.size ⟨rfl, rfl, rfl, rfl, rfl, rfl, rfl, rfl, rfl, rfl, rfl, rfl, rfl, rfl, rfl, rfl, rfl, rfl, rfl, rfl, rfl, rfl⟩ (heap_alloc_new _ _) ((Below.refl _ _).alloc (Nat.le_refl _) _)
set_option maxHeartbeats 8000000 in
set_option maxRecDepth 100000 in
theorem rk_r1 {K : Act → World → Prop} {c : Code} (hc : regOf (Tryd.f5.body.getD .skip) 1 = some c) (a : Act) {v : Vrk} {wq : World}  (hF : Frk a v) (hC : ∀ W, Below wq.heap.size wq W → Calls Tryd.prog 7 #[] W fun e w' => e = .returned (.bool true) ∧ Below W.heap.size W w')
    (hQ : ∀ a' w', Frk a' { v with v7 := .bool true } → Below wq.heap.size wq w' → K a' w') :
    Code.wp Tryd.prog c (Exit.then K fun _ _ _ => False) a wq := by
  have HQ := hide hQ
  clear hQ
  obtain ⟨t', d'⟩ := a
  obtain ⟨v0, v1, v2, v4, v6, v7, v8, v9, v10, v11, v12, v13, v14, v15, v16, v17, v18, v27, v47, v55⟩ := v
  obtain ⟨hs1, hd1, q0, q1, q2, q4, q6, q7, q8, q9, q10, q11, q12, q13, q14, q15, q16, q17, q18, q27, q47, q55⟩ := hF
  obtain ⟨u, hu⟩ := frame_rk t' hs1
  simp only at hd1 q0 q1 q2 q4 q6 q7 q8 q9 q10 q11 q12 q13 q14 q15 q16 q17 q18 q27 q47 q55
  subst hu hd1
  have e0 : u 0 = v0 := q0
  have e1 : u 1 = v1 := q1
  have e2 : u 2 = v2 := q2
  have e4 : u 4 = v4 := q4
  have e6 : u 6 = v6 := q6
  have e7 : u 7 = v7 := q7
  have e8 : u 8 = v8 := q8
  have e9 : u 9 = v9 := q9
  have e10 : u 10 = v10 := q10
  have e11 : u 11 = v11 := q11
  have e12 : u 12 = v12 := q12
  have e13 : u 13 = v13 := q13
  have e14 : u 14 = v14 := q14
  have e15 : u 15 = v15 := q15
  have e16 : u 16 = v16 := q16
  have e17 : u 17 = v17 := q17
  have e18 : u 18 = v18 := q18
  have e27 : u 27 = v27 := q27
  have e47 : u 47 = v47 := q47
  have e55 : u 55 = v55 := q55
  rw [e0, e1, e2, e4, e6, e7, e8, e9, e10, e11, e12, e13, e14, e15, e16, e17, e18, e27, e47, e55]
  clear q0 e0 q1 e1 q2 e2 q4 e4 q6 e6 q7 e7 q8 e8 q9 e9 q10 e10 q11 e11 q12 e12 q13 e13 q14 e14 q15 e15 q16 e16 q17 e17 q18 e18 q27 e27 q47 e47 q55 e55 hs1
  simp only [Tryd.f5, Option.getD_some, regOf] at hc
  injection hc with hc
  subst hc
  generalize u 3 = u3
  generalize u 5 = u5
  generalize u 19 = u19
  generalize u 20 = u20
  generalize u 21 = u21
  generalize u 22 = u22
  generalize u 23 = u23
  generalize u 24 = u24
  generalize u 25 = u25
  generalize u 26 = u26
  generalize u 28 = u28
  generalize u 29 = u29
  generalize u 30 = u30
  generalize u 31 = u31
  generalize u 32 = u32
  generalize u 33 = u33
  generalize u 34 = u34
  generalize u 35 = u35
  generalize u 36 = u36
  generalize u 37 = u37
  generalize u 38 = u38
  generalize u 39 = u39
  generalize u 40 = u40
  generalize u 41 = u41
  generalize u 42 = u42
  generalize u 43 = u43
  generalize u 44 = u44
  generalize u 45 = u45
  generalize u 46 = u46
  generalize u 48 = u48
  generalize u 49 = u49
  generalize u 50 = u50
  generalize u 51 = u51
  generalize u 52 = u52
  generalize u 53 = u53
  generalize u 54 = u54
  generalize u 56 = u56
  generalize u 57 = u57
  generalize u 58 = u58
  generalize u 59 = u59
  generalize u 60 = u60
  generalize u 61 = u61
  generalize u 62 = u62
  generalize u 63 = u63
  generalize u 64 = u64
  generalize u 65 = u65
  generalize u 66 = u66
  generalize u 67 = u67
  generalize u 68 = u68
  generalize u 69 = u69
  generalize u 70 = u70
  generalize u 71 = u71
  generalize u 72 = u72
  generalize u 73 = u73
  generalize u 74 = u74
  generalize u 75 = u75
  generalize u 76 = u76
  generalize u 77 = u77
  generalize u 78 = u78
  generalize u 79 = u79
  generalize u 80 = u80
  generalize u 81 = u81
  generalize u 82 = u82
  clear u
  have HC := hide hC
  clear hC
  go_wp2_with (go_at_call 7; refine (HC.out _ (Below.refl _ _)).mono ?_; rintro e w1 ⟨rfl, b1⟩)
  exact HQ.out _ _ ⟨rfl, rfl, rfl, rfl, rfl, rfl, rfl, rfl, rfl, rfl, rfl, rfl, rfl, rfl, rfl, rfl, rfl, rfl, rfl, rfl, rfl, rfl⟩ b1
set_option maxHeartbeats 8000000 in
set_option maxRecDepth 100000 in
theorem rk_r2 {K : Act → World → Prop} {c : Code} (hc : regOf (Tryd.f5.body.getD .skip) 2 = some c) (a : Act) {v : Vrk} {wq : World} {b : Nat} {aa cd nn er : Int} {ao : Option Addr} {ll cap : Nat} {T : ByteArray} (hF : Frk a v) (h0v : v.v0 = .int .i64 aa) (h4v : v.v4 = .pointer (some ⟨b, 0, none⟩)) (hB : wq.heap[b]? = some (.cells #[.int .i64 cd, .int .i64 nn, .slice ao ll cap] tRp (0, 0))) (hC : ∀ W, Below wq.heap.size wq W → Calls Tryd.prog 18 #[.int .i64 aa, .agg #[.int .i64 cd, .int .i64 nn, .slice ao ll cap]] W fun e w' => e = .returned (.tuple #[.string T, .int .i64 er]) ∧ Below W.heap.size W w')
    (hQ : ∀ a' w', Frk a' { v with v8 := .string T, v9 := .int .i64 er } → Below wq.heap.size wq w' → K a' w') :
    Code.wp Tryd.prog c (Exit.then K fun _ _ _ => False) a wq := by
  have HQ := hide hQ
  clear hQ
  obtain ⟨t', d'⟩ := a
  obtain ⟨v0, v1, v2, v4, v6, v7, v8, v9, v10, v11, v12, v13, v14, v15, v16, v17, v18, v27, v47, v55⟩ := v
  simp only at h0v h4v HQ
  subst h0v h4v
  obtain ⟨hs1, hd1, q0, q1, q2, q4, q6, q7, q8, q9, q10, q11, q12, q13, q14, q15, q16, q17, q18, q27, q47, q55⟩ := hF
  obtain ⟨u, hu⟩ := frame_rk t' hs1
  simp only at hd1 q0 q1 q2 q4 q6 q7 q8 q9 q10 q11 q12 q13 q14 q15 q16 q17 q18 q27 q47 q55
  subst hu hd1
  have e0 : u 0 = .int .i64 aa := q0
  have e1 : u 1 = v1 := q1
  have e2 : u 2 = v2 := q2
  have e4 : u 4 = .pointer (some ⟨b, 0, none⟩) := q4
  have e6 : u 6 = v6 := q6
  have e7 : u 7 = v7 := q7
  have e8 : u 8 = v8 := q8
  have e9 : u 9 = v9 := q9
  have e10 : u 10 = v10 := q10
  have e11 : u 11 = v11 := q11
  have e12 : u 12 = v12 := q12
  have e13 : u 13 = v13 := q13
  have e14 : u 14 = v14 := q14
  have e15 : u 15 = v15 := q15
  have e16 : u 16 = v16 := q16
  have e17 : u 17 = v17 := q17
  have e18 : u 18 = v18 := q18
  have e27 : u 27 = v27 := q27
  have e47 : u 47 = v47 := q47
  have e55 : u 55 = v55 := q55
  rw [e0, e1, e2, e4, e6, e7, e8, e9, e10, e11, e12, e13, e14, e15, e16, e17, e18, e27, e47, e55]
  clear q0 e0 q1 e1 q2 e2 q4 e4 q6 e6 q7 e7 q8 e8 q9 e9 q10 e10 q11 e11 q12 e12 q13 e13 q14 e14 q15 e15 q16 e16 q17 e17 q18 e18 q27 e27 q47 e47 q55 e55 hs1
  simp only [Tryd.f5, Option.getD_some, regOf] at hc
  injection hc with hc
  subst hc
  generalize u 3 = u3
  generalize u 5 = u5
  generalize u 19 = u19
  generalize u 20 = u20
  generalize u 21 = u21
  generalize u 22 = u22
  generalize u 23 = u23
  generalize u 24 = u24
  generalize u 25 = u25
  generalize u 26 = u26
  generalize u 28 = u28
  generalize u 29 = u29
  generalize u 30 = u30
  generalize u 31 = u31
  generalize u 32 = u32
  generalize u 33 = u33
  generalize u 34 = u34
  generalize u 35 = u35
  generalize u 36 = u36
  generalize u 37 = u37
  generalize u 38 = u38
  generalize u 39 = u39
  generalize u 40 = u40
  generalize u 41 = u41
  generalize u 42 = u42
  generalize u 43 = u43
  generalize u 44 = u44
  generalize u 45 = u45
  generalize u 46 = u46
  generalize u 48 = u48
  generalize u 49 = u49
  generalize u 50 = u50
  generalize u 51 = u51
  generalize u 52 = u52
  generalize u 53 = u53
  generalize u 54 = u54
  generalize u 56 = u56
  generalize u 57 = u57
  generalize u 58 = u58
  generalize u 59 = u59
  generalize u 60 = u60
  generalize u 61 = u61
  generalize u 62 = u62
  generalize u 63 = u63
  generalize u 64 = u64
  generalize u 65 = u65
  generalize u 66 = u66
  generalize u 67 = u67
  generalize u 68 = u68
  generalize u 69 = u69
  generalize u 70 = u70
  generalize u 71 = u71
  generalize u 72 = u72
  generalize u 73 = u73
  generalize u 74 = u74
  generalize u 75 = u75
  generalize u 76 = u76
  generalize u 77 = u77
  generalize u 78 = u78
  generalize u 79 = u79
  generalize u 80 = u80
  generalize u 81 = u81
  generalize u 82 = u82
  clear u
  have HC := hide hC
  have c0 := box_cell hB 0 rfl
  have c1 := box_cell hB 1 rfl
  have c2 := box_cell hB 2 rfl
  clear hC hB
  go_wp2_with (go_at_call 18; refine (HC.out _ (Below.refl _ _)).mono ?_; rintro e w1 ⟨rfl, b1⟩)
  exact HQ.out _ _ ⟨rfl, rfl, rfl, rfl, rfl, rfl, rfl, rfl, rfl, rfl, rfl, rfl, rfl, rfl, rfl, rfl, rfl, rfl, rfl, rfl, rfl, rfl⟩ b1
set_option maxHeartbeats 8000000 in
set_option maxRecDepth 100000 in
theorem rk_r3 {K : Act → World → Prop} {c : Code} (hc : regOf (Tryd.f5.body.getD .skip) 3 = some c) (a : Act) {v : Vrk} {wq : World} {er : Int} {bb : Bool} (hF : Frk a v) (h9v : v.v9 = .int .i64 er) (hz : (er == 0) = bb)
    (hQ : ∀ a', Frk a' { v with v27 := .bool bb } → K a' wq) :
    Code.wp Tryd.prog c (Exit.then K fun _ _ _ => False) a wq := by
  have HQ := hide hQ
  clear hQ
  obtain ⟨t', d'⟩ := a
  obtain ⟨v0, v1, v2, v4, v6, v7, v8, v9, v10, v11, v12, v13, v14, v15, v16, v17, v18, v27, v47, v55⟩ := v
  simp only at h9v HQ
  subst h9v
  obtain ⟨hs1, hd1, q0, q1, q2, q4, q6, q7, q8, q9, q10, q11, q12, q13, q14, q15, q16, q17, q18, q27, q47, q55⟩ := hF
  obtain ⟨u, hu⟩ := frame_rk t' hs1
  simp only at hd1 q0 q1 q2 q4 q6 q7 q8 q9 q10 q11 q12 q13 q14 q15 q16 q17 q18 q27 q47 q55
  subst hu hd1
  have e0 : u 0 = v0 := q0
  have e1 : u 1 = v1 := q1
  have e2 : u 2 = v2 := q2
  have e4 : u 4 = v4 := q4
  have e6 : u 6 = v6 := q6
  have e7 : u 7 = v7 := q7
  have e8 : u 8 = v8 := q8
  have e9 : u 9 = .int .i64 er := q9
  have e10 : u 10 = v10 := q10
  have e11 : u 11 = v11 := q11
  have e12 : u 12 = v12 := q12
  have e13 : u 13 = v13 := q13
  have e14 : u 14 = v14 := q14
  have e15 : u 15 = v15 := q15
  have e16 : u 16 = v16 := q16
  have e17 : u 17 = v17 := q17
  have e18 : u 18 = v18 := q18
  have e27 : u 27 = v27 := q27
  have e47 : u 47 = v47 := q47
  have e55 : u 55 = v55 := q55
  rw [e0, e1, e2, e4, e6, e7, e8, e9, e10, e11, e12, e13, e14, e15, e16, e17, e18, e27, e47, e55]
  clear q0 e0 q1 e1 q2 e2 q4 e4 q6 e6 q7 e7 q8 e8 q9 e9 q10 e10 q11 e11 q12 e12 q13 e13 q14 e14 q15 e15 q16 e16 q17 e17 q18 e18 q27 e27 q47 e47 q55 e55 hs1
  simp only [Tryd.f5, Option.getD_some, regOf] at hc
  injection hc with hc
  subst hc
  generalize u 3 = u3
  generalize u 5 = u5
  generalize u 19 = u19
  generalize u 20 = u20
  generalize u 21 = u21
  generalize u 22 = u22
  generalize u 23 = u23
  generalize u 24 = u24
  generalize u 25 = u25
  generalize u 26 = u26
  generalize u 28 = u28
  generalize u 29 = u29
  generalize u 30 = u30
  generalize u 31 = u31
  generalize u 32 = u32
  generalize u 33 = u33
  generalize u 34 = u34
  generalize u 35 = u35
  generalize u 36 = u36
  generalize u 37 = u37
  generalize u 38 = u38
  generalize u 39 = u39
  generalize u 40 = u40
  generalize u 41 = u41
  generalize u 42 = u42
  generalize u 43 = u43
  generalize u 44 = u44
  generalize u 45 = u45
  generalize u 46 = u46
  generalize u 48 = u48
  generalize u 49 = u49
  generalize u 50 = u50
  generalize u 51 = u51
  generalize u 52 = u52
  generalize u 53 = u53
  generalize u 54 = u54
  generalize u 56 = u56
  generalize u 57 = u57
  generalize u 58 = u58
  generalize u 59 = u59
  generalize u 60 = u60
  generalize u 61 = u61
  generalize u 62 = u62
  generalize u 63 = u63
  generalize u 64 = u64
  generalize u 65 = u65
  generalize u 66 = u66
  generalize u 67 = u67
  generalize u 68 = u68
  generalize u 69 = u69
  generalize u 70 = u70
  generalize u 71 = u71
  generalize u 72 = u72
  generalize u 73 = u73
  generalize u 74 = u74
  generalize u 75 = u75
  generalize u 76 = u76
  generalize u 77 = u77
  generalize u 78 = u78
  generalize u 79 = u79
  generalize u 80 = u80
  generalize u 81 = u81
  generalize u 82 = u82
  clear u
  go_wp2
  exact HQ.out _ ⟨rfl, rfl, rfl, rfl, rfl, rfl, rfl, rfl, rfl, rfl, rfl, rfl, rfl, rfl, rfl, rfl, rfl, rfl, rfl, rfl, rfl, rfl⟩
set_option maxHeartbeats 8000000 in
set_option maxRecDepth 100000 in
theorem rk_r4 {K : Act → World → Prop} {c : Code} (hc : regOf (Tryd.f5.body.getD .skip) 4 = some c) (a : Act) {v : Vrk} {wq : World} {aa cd nn er : Int} {ll : Nat} {xs : List Value} {T : ByteArray} (hF : Frk a v) (h8v : v.v8 = .string T) (hC : ∀ W, Below wq.heap.size wq W → Calls Tryd.prog 19 #[.string T] W fun e w' => ∃ ro rc, e = .returned (.tuple #[.int .i64 aa, .agg #[.int .i64 cd, .int .i64 nn, .slice ro ll rc], .int .i64 er]) ∧ w'.ownsRow W.heap.size tRc 5 (.slice ro ll rc) ll xs ∧ Below W.heap.size W w')
    (hQ : ∀ a' w' b ro rc, Frk a' { v with v10 := .int .i64 aa, v11 := .pointer (some ⟨b, 0, none⟩), v12 := .int .i64 er } → w'.heap[b]? = some (.cells #[.int .i64 cd, .int .i64 nn, .slice ro ll rc] tRp (0, 0)) → w'.ownsRow wq.heap.size tRc 5 (.slice ro ll rc) ll xs → Below wq.heap.size wq w' → K a' w') :
    Code.wp Tryd.prog c (Exit.then K fun _ _ _ => False) a wq := by
  have HQ := hide hQ
  clear hQ
  obtain ⟨t', d'⟩ := a
  obtain ⟨v0, v1, v2, v4, v6, v7, v8, v9, v10, v11, v12, v13, v14, v15, v16, v17, v18, v27, v47, v55⟩ := v
  simp only at h8v HQ
  subst h8v
  obtain ⟨hs1, hd1, q0, q1, q2, q4, q6, q7, q8, q9, q10, q11, q12, q13, q14, q15, q16, q17, q18, q27, q47, q55⟩ := hF
  obtain ⟨u, hu⟩ := frame_rk t' hs1
  simp only at hd1 q0 q1 q2 q4 q6 q7 q8 q9 q10 q11 q12 q13 q14 q15 q16 q17 q18 q27 q47 q55
  subst hu hd1
  have e0 : u 0 = v0 := q0
  have e1 : u 1 = v1 := q1
  have e2 : u 2 = v2 := q2
  have e4 : u 4 = v4 := q4
  have e6 : u 6 = v6 := q6
  have e7 : u 7 = v7 := q7
  have e8 : u 8 = .string T := q8
  have e9 : u 9 = v9 := q9
  have e10 : u 10 = v10 := q10
  have e11 : u 11 = v11 := q11
  have e12 : u 12 = v12 := q12
  have e13 : u 13 = v13 := q13
  have e14 : u 14 = v14 := q14
  have e15 : u 15 = v15 := q15
  have e16 : u 16 = v16 := q16
  have e17 : u 17 = v17 := q17
  have e18 : u 18 = v18 := q18
  have e27 : u 27 = v27 := q27
  have e47 : u 47 = v47 := q47
  have e55 : u 55 = v55 := q55
  rw [e0, e1, e2, e4, e6, e7, e8, e9, e10, e11, e12, e13, e14, e15, e16, e17, e18, e27, e47, e55]
  clear q0 e0 q1 e1 q2 e2 q4 e4 q6 e6 q7 e7 q8 e8 q9 e9 q10 e10 q11 e11 q12 e12 q13 e13 q14 e14 q15 e15 q16 e16 q17 e17 q18 e18 q27 e27 q47 e47 q55 e55 hs1
  simp only [Tryd.f5, Option.getD_some, regOf] at hc
  injection hc with hc
  subst hc
  generalize u 3 = u3
  generalize u 5 = u5
  generalize u 19 = u19
  generalize u 20 = u20
  generalize u 21 = u21
  generalize u 22 = u22
  generalize u 23 = u23
  generalize u 24 = u24
  generalize u 25 = u25
  generalize u 26 = u26
  generalize u 28 = u28
  generalize u 29 = u29
  generalize u 30 = u30
  generalize u 31 = u31
  generalize u 32 = u32
  generalize u 33 = u33
  generalize u 34 = u34
  generalize u 35 = u35
  generalize u 36 = u36
  generalize u 37 = u37
  generalize u 38 = u38
  generalize u 39 = u39
  generalize u 40 = u40
  generalize u 41 = u41
  generalize u 42 = u42
  generalize u 43 = u43
  generalize u 44 = u44
  generalize u 45 = u45
  generalize u 46 = u46
  generalize u 48 = u48
  generalize u 49 = u49
  generalize u 50 = u50
  generalize u 51 = u51
  generalize u 52 = u52
  generalize u 53 = u53
  generalize u 54 = u54
  generalize u 56 = u56
  generalize u 57 = u57
  generalize u 58 = u58
  generalize u 59 = u59
  generalize u 60 = u60
  generalize u 61 = u61
  generalize u 62 = u62
  generalize u 63 = u63
  generalize u 64 = u64
  generalize u 65 = u65
  generalize u 66 = u66
  generalize u 67 = u67
  generalize u 68 = u68
  generalize u 69 = u69
  generalize u 70 = u70
  generalize u 71 = u71
  generalize u 72 = u72
  generalize u 73 = u73
  generalize u 74 = u74
  generalize u 75 = u75
  generalize u 76 = u76
  generalize u 77 = u77
  generalize u 78 = u78
  generalize u 79 = u79
  generalize u 80 = u80
  generalize u 81 = u81
  generalize u 82 = u82
  clear u
  have HC := hide hC
  clear hC
  go_wp2_with (go_at_call 19; refine (HC.out _ (Below.refl _ _)).mono ?_; rintro e w1 ⟨ro, rc, rfl, hrow, b1⟩)
  exact HQ.out _ _ w1.heap.size ro rc ⟨rfl, rfl, rfl, rfl, rfl, rfl, rfl, rfl, rfl, rfl, rfl, rfl, rfl, rfl, rfl, rfl, rfl, rfl, rfl, rfl, rfl, rfl⟩ (heap_alloc_new _ _) (below_row ((Below.refl _ _).alloc (Nat.le_refl _) _) hrow) (b1.alloc b1.size _)
set_option maxHeartbeats 8000000 in
set_option maxRecDepth 100000 in
theorem rk_r5 {K : Act → World → Prop} {c : Code} (hc : regOf (Tryd.f5.body.getD .skip) 5 = some c) (a : Act) {v : Vrk} {wq : World} {b1 b2 : Nat} {cd nn : Int} {ao bo : Option Addr} {ll cap bc : Nat} (hF : Frk a v) (h11v : v.v11 = .pointer (some ⟨b1, 0, none⟩)) (h4v : v.v4 = .pointer (some ⟨b2, 0, none⟩)) (h1 : wq.heap[b1]? = some (.cells #[.int .i64 cd, .int .i64 nn, .slice ao ll cap] tRp (0, 0))) (h2 : wq.heap[b2]? = some (.cells #[.int .i64 cd, .int .i64 nn, .slice bo ll bc] tRp (0, 0))) (hC : ∀ W, Below wq.heap.size wq W → Calls Tryd.prog 20 #[.agg #[.int .i64 cd, .int .i64 nn, .slice ao ll cap], .agg #[.int .i64 cd, .int .i64 nn, .slice bo ll bc]] W fun e w' => e = .returned (.bool true) ∧ Below W.heap.size W w')
    (hQ : ∀ a' w', Frk a' { v with v13 := .bool true } → Below wq.heap.size wq w' → K a' w') :
    Code.wp Tryd.prog c (Exit.then K fun _ _ _ => False) a wq := by
  have HQ := hide hQ
  clear hQ
  obtain ⟨t', d'⟩ := a
  obtain ⟨v0, v1, v2, v4, v6, v7, v8, v9, v10, v11, v12, v13, v14, v15, v16, v17, v18, v27, v47, v55⟩ := v
  simp only at h11v h4v HQ
  subst h11v h4v
  obtain ⟨hs1, hd1, q0, q1, q2, q4, q6, q7, q8, q9, q10, q11, q12, q13, q14, q15, q16, q17, q18, q27, q47, q55⟩ := hF
  obtain ⟨u, hu⟩ := frame_rk t' hs1
  simp only at hd1 q0 q1 q2 q4 q6 q7 q8 q9 q10 q11 q12 q13 q14 q15 q16 q17 q18 q27 q47 q55
  subst hu hd1
  have e0 : u 0 = v0 := q0
  have e1 : u 1 = v1 := q1
  have e2 : u 2 = v2 := q2
  have e4 : u 4 = .pointer (some ⟨b2, 0, none⟩) := q4
  have e6 : u 6 = v6 := q6
  have e7 : u 7 = v7 := q7
  have e8 : u 8 = v8 := q8
  have e9 : u 9 = v9 := q9
  have e10 : u 10 = v10 := q10
  have e11 : u 11 = .pointer (some ⟨b1, 0, none⟩) := q11
  have e12 : u 12 = v12 := q12
  have e13 : u 13 = v13 := q13
  have e14 : u 14 = v14 := q14
  have e15 : u 15 = v15 := q15
  have e16 : u 16 = v16 := q16
  have e17 : u 17 = v17 := q17
  have e18 : u 18 = v18 := q18
  have e27 : u 27 = v27 := q27
  have e47 : u 47 = v47 := q47
  have e55 : u 55 = v55 := q55
  rw [e0, e1, e2, e4, e6, e7, e8, e9, e10, e11, e12, e13, e14, e15, e16, e17, e18, e27, e47, e55]
  clear q0 e0 q1 e1 q2 e2 q4 e4 q6 e6 q7 e7 q8 e8 q9 e9 q10 e10 q11 e11 q12 e12 q13 e13 q14 e14 q15 e15 q16 e16 q17 e17 q18 e18 q27 e27 q47 e47 q55 e55 hs1
  simp only [Tryd.f5, Option.getD_some, regOf] at hc
  injection hc with hc
  subst hc
  generalize u 3 = u3
  generalize u 5 = u5
  generalize u 19 = u19
  generalize u 20 = u20
  generalize u 21 = u21
  generalize u 22 = u22
  generalize u 23 = u23
  generalize u 24 = u24
  generalize u 25 = u25
  generalize u 26 = u26
  generalize u 28 = u28
  generalize u 29 = u29
  generalize u 30 = u30
  generalize u 31 = u31
  generalize u 32 = u32
  generalize u 33 = u33
  generalize u 34 = u34
  generalize u 35 = u35
  generalize u 36 = u36
  generalize u 37 = u37
  generalize u 38 = u38
  generalize u 39 = u39
  generalize u 40 = u40
  generalize u 41 = u41
  generalize u 42 = u42
  generalize u 43 = u43
  generalize u 44 = u44
  generalize u 45 = u45
  generalize u 46 = u46
  generalize u 48 = u48
  generalize u 49 = u49
  generalize u 50 = u50
  generalize u 51 = u51
  generalize u 52 = u52
  generalize u 53 = u53
  generalize u 54 = u54
  generalize u 56 = u56
  generalize u 57 = u57
  generalize u 58 = u58
  generalize u 59 = u59
  generalize u 60 = u60
  generalize u 61 = u61
  generalize u 62 = u62
  generalize u 63 = u63
  generalize u 64 = u64
  generalize u 65 = u65
  generalize u 66 = u66
  generalize u 67 = u67
  generalize u 68 = u68
  generalize u 69 = u69
  generalize u 70 = u70
  generalize u 71 = u71
  generalize u 72 = u72
  generalize u 73 = u73
  generalize u 74 = u74
  generalize u 75 = u75
  generalize u 76 = u76
  generalize u 77 = u77
  generalize u 78 = u78
  generalize u 79 = u79
  generalize u 80 = u80
  generalize u 81 = u81
  generalize u 82 = u82
  clear u
  have HC := hide hC
  have c0 := box_cell h1 0 rfl
  have c1 := box_cell h1 1 rfl
  have c2 := box_cell h1 2 rfl
  have d0 := box_cell h2 0 rfl
  have d1 := box_cell h2 1 rfl
  have d2 := box_cell h2 2 rfl
  clear hC h1 h2
  go_wp2_with (go_at_call 20; refine (HC.out _ (Below.refl _ _)).mono ?_; rintro e w1 ⟨rfl, b1⟩)
  exact HQ.out _ _ ⟨rfl, rfl, rfl, rfl, rfl, rfl, rfl, rfl, rfl, rfl, rfl, rfl, rfl, rfl, rfl, rfl, rfl, rfl, rfl, rfl, rfl, rfl⟩ b1
set_option maxHeartbeats 8000000 in
set_option maxRecDepth 100000 in
theorem rk_r6 {K : Act → World → Prop} {c : Code} (hc : regOf (Tryd.f5.body.getD .skip) 6 = some c) (a : Act) {v : Vrk} {wq : World} {aa : Int} (hF : Frk a v) (h10v : v.v10 = .int .i64 aa) (h0v : v.v0 = .int .i64 aa) (h13v : v.v13 = .bool true) (h12v : v.v12 = .int .i64 0) (hQ : ∀ a', Frk a' { v with v47 := .bool false } → K a' wq) :
    Code.wp Tryd.prog c (Exit.then K fun _ _ _ => False) a wq := by
  have HQ := hide hQ
  clear hQ
  obtain ⟨t', d'⟩ := a
  obtain ⟨v0, v1, v2, v4, v6, v7, v8, v9, v10, v11, v12, v13, v14, v15, v16, v17, v18, v27, v47, v55⟩ := v
  simp only at h10v h0v h13v h12v HQ
  subst h10v h0v h13v h12v
  obtain ⟨hs1, hd1, q0, q1, q2, q4, q6, q7, q8, q9, q10, q11, q12, q13, q14, q15, q16, q17, q18, q27, q47, q55⟩ := hF
  obtain ⟨u, hu⟩ := frame_rk t' hs1
  simp only at hd1 q0 q1 q2 q4 q6 q7 q8 q9 q10 q11 q12 q13 q14 q15 q16 q17 q18 q27 q47 q55
  subst hu hd1
  have e0 : u 0 = .int .i64 aa := q0
  have e1 : u 1 = v1 := q1
  have e2 : u 2 = v2 := q2
  have e4 : u 4 = v4 := q4
  have e6 : u 6 = v6 := q6
  have e7 : u 7 = v7 := q7
  have e8 : u 8 = v8 := q8
  have e9 : u 9 = v9 := q9
  have e10 : u 10 = .int .i64 aa := q10
  have e11 : u 11 = v11 := q11
  have e12 : u 12 = .int .i64 0 := q12
  have e13 : u 13 = .bool true := q13
  have e14 : u 14 = v14 := q14
  have e15 : u 15 = v15 := q15
  have e16 : u 16 = v16 := q16
  have e17 : u 17 = v17 := q17
  have e18 : u 18 = v18 := q18
  have e27 : u 27 = v27 := q27
  have e47 : u 47 = v47 := q47
  have e55 : u 55 = v55 := q55
  rw [e0, e1, e2, e4, e6, e7, e8, e9, e10, e11, e12, e13, e14, e15, e16, e17, e18, e27, e47, e55]
  clear q0 e0 q1 e1 q2 e2 q4 e4 q6 e6 q7 e7 q8 e8 q9 e9 q10 e10 q11 e11 q12 e12 q13 e13 q14 e14 q15 e15 q16 e16 q17 e17 q18 e18 q27 e27 q47 e47 q55 e55 hs1
  simp only [Tryd.f5, Option.getD_some, regOf] at hc
  injection hc with hc
  subst hc
  generalize u 3 = u3
  generalize u 5 = u5
  generalize u 19 = u19
  generalize u 20 = u20
  generalize u 21 = u21
  generalize u 22 = u22
  generalize u 23 = u23
  generalize u 24 = u24
  generalize u 25 = u25
  generalize u 26 = u26
  generalize u 28 = u28
  generalize u 29 = u29
  generalize u 30 = u30
  generalize u 31 = u31
  generalize u 32 = u32
  generalize u 33 = u33
  generalize u 34 = u34
  generalize u 35 = u35
  generalize u 36 = u36
  generalize u 37 = u37
  generalize u 38 = u38
  generalize u 39 = u39
  generalize u 40 = u40
  generalize u 41 = u41
  generalize u 42 = u42
  generalize u 43 = u43
  generalize u 44 = u44
  generalize u 45 = u45
  generalize u 46 = u46
  generalize u 48 = u48
  generalize u 49 = u49
  generalize u 50 = u50
  generalize u 51 = u51
  generalize u 52 = u52
  generalize u 53 = u53
  generalize u 54 = u54
  generalize u 56 = u56
  generalize u 57 = u57
  generalize u 58 = u58
  generalize u 59 = u59
  generalize u 60 = u60
  generalize u 61 = u61
  generalize u 62 = u62
  generalize u 63 = u63
  generalize u 64 = u64
  generalize u 65 = u65
  generalize u 66 = u66
  generalize u 67 = u67
  generalize u 68 = u68
  generalize u 69 = u69
  generalize u 70 = u70
  generalize u 71 = u71
  generalize u 72 = u72
  generalize u 73 = u73
  generalize u 74 = u74
  generalize u 75 = u75
  generalize u 76 = u76
  generalize u 77 = u77
  generalize u 78 = u78
  generalize u 79 = u79
  generalize u 80 = u80
  generalize u 81 = u81
  generalize u 82 = u82
  clear u
  go_wp2
  exact HQ.out _ ⟨rfl, rfl, rfl, rfl, rfl, rfl, rfl, rfl, rfl, rfl, rfl, rfl, rfl, rfl, rfl, rfl, rfl, rfl, rfl, rfl, rfl, rfl⟩
set_option maxHeartbeats 8000000 in
set_option maxRecDepth 100000 in
theorem rk_r8 {K : Act → World → Prop} {c : Code} (hc : regOf (Tryd.f5.body.getD .skip) 8 = some c) (a : Act) {v : Vrk} {wq : World} {aa cd nn er : Int} {ll : Nat} {xs : List Value} {T : ByteArray} (hF : Frk a v) (h2v : v.v2 = .string T) (hC : ∀ W, Below wq.heap.size wq W → Calls Tryd.prog 19 #[.string T] W fun e w' => ∃ ro rc, e = .returned (.tuple #[.int .i64 aa, .agg #[.int .i64 cd, .int .i64 nn, .slice ro ll rc], .int .i64 er]) ∧ w'.ownsRow W.heap.size tRc 5 (.slice ro ll rc) ll xs ∧ Below W.heap.size W w')
    (hQ : ∀ a' w' b ro rc, Frk a' { v with v14 := .int .i64 aa, v15 := .pointer (some ⟨b, 0, none⟩), v16 := .int .i64 er } → w'.heap[b]? = some (.cells #[.int .i64 cd, .int .i64 nn, .slice ro ll rc] tRp (0, 0)) → w'.ownsRow wq.heap.size tRc 5 (.slice ro ll rc) ll xs → Below wq.heap.size wq w' → K a' w') :
    Code.wp Tryd.prog c (Exit.then K fun _ _ _ => False) a wq := by
  have HQ := hide hQ
  clear hQ
  obtain ⟨t', d'⟩ := a
  obtain ⟨v0, v1, v2, v4, v6, v7, v8, v9, v10, v11, v12, v13, v14, v15, v16, v17, v18, v27, v47, v55⟩ := v
  simp only at h2v HQ
  subst h2v
  obtain ⟨hs1, hd1, q0, q1, q2, q4, q6, q7, q8, q9, q10, q11, q12, q13, q14, q15, q16, q17, q18, q27, q47, q55⟩ := hF
  obtain ⟨u, hu⟩ := frame_rk t' hs1
  simp only at hd1 q0 q1 q2 q4 q6 q7 q8 q9 q10 q11 q12 q13 q14 q15 q16 q17 q18 q27 q47 q55
  subst hu hd1
  have e0 : u 0 = v0 := q0
  have e1 : u 1 = v1 := q1
  have e2 : u 2 = .string T := q2
  have e4 : u 4 = v4 := q4
  have e6 : u 6 = v6 := q6
  have e7 : u 7 = v7 := q7
  have e8 : u 8 = v8 := q8
  have e9 : u 9 = v9 := q9
  have e10 : u 10 = v10 := q10
  have e11 : u 11 = v11 := q11
  have e12 : u 12 = v12 := q12
  have e13 : u 13 = v13 := q13
  have e14 : u 14 = v14 := q14
  have e15 : u 15 = v15 := q15
  have e16 : u 16 = v16 := q16
  have e17 : u 17 = v17 := q17
  have e18 : u 18 = v18 := q18
  have e27 : u 27 = v27 := q27
  have e47 : u 47 = v47 := q47
  have e55 : u 55 = v55 := q55
  rw [e0, e1, e2, e4, e6, e7, e8, e9, e10, e11, e12, e13, e14, e15, e16, e17, e18, e27, e47, e55]
  clear q0 e0 q1 e1 q2 e2 q4 e4 q6 e6 q7 e7 q8 e8 q9 e9 q10 e10 q11 e11 q12 e12 q13 e13 q14 e14 q15 e15 q16 e16 q17 e17 q18 e18 q27 e27 q47 e47 q55 e55 hs1
  simp only [Tryd.f5, Option.getD_some, regOf] at hc
  injection hc with hc
  subst hc
  generalize u 3 = u3
  generalize u 5 = u5
  generalize u 19 = u19
  generalize u 20 = u20
  generalize u 21 = u21
  generalize u 22 = u22
  generalize u 23 = u23
  generalize u 24 = u24
  generalize u 25 = u25
  generalize u 26 = u26
  generalize u 28 = u28
  generalize u 29 = u29
  generalize u 30 = u30
  generalize u 31 = u31
  generalize u 32 = u32
  generalize u 33 = u33
  generalize u 34 = u34
  generalize u 35 = u35
  generalize u 36 = u36
  generalize u 37 = u37
  generalize u 38 = u38
  generalize u 39 = u39
  generalize u 40 = u40
  generalize u 41 = u41
  generalize u 42 = u42
  generalize u 43 = u43
  generalize u 44 = u44
  generalize u 45 = u45
  generalize u 46 = u46
  generalize u 48 = u48
  generalize u 49 = u49
  generalize u 50 = u50
  generalize u 51 = u51
  generalize u 52 = u52
  generalize u 53 = u53
  generalize u 54 = u54
  generalize u 56 = u56
  generalize u 57 = u57
  generalize u 58 = u58
  generalize u 59 = u59
  generalize u 60 = u60
  generalize u 61 = u61
  generalize u 62 = u62
  generalize u 63 = u63
  generalize u 64 = u64
  generalize u 65 = u65
  generalize u 66 = u66
  generalize u 67 = u67
  generalize u 68 = u68
  generalize u 69 = u69
  generalize u 70 = u70
  generalize u 71 = u71
  generalize u 72 = u72
  generalize u 73 = u73
  generalize u 74 = u74
  generalize u 75 = u75
  generalize u 76 = u76
  generalize u 77 = u77
  generalize u 78 = u78
  generalize u 79 = u79
  generalize u 80 = u80
  generalize u 81 = u81
  generalize u 82 = u82
  clear u
  have HC := hide hC
  clear hC
  go_wp2_with (go_at_call 19; refine (HC.out _ (Below.refl _ _)).mono ?_; rintro e w1 ⟨ro, rc, rfl, hrow, b1⟩)
  exact HQ.out _ _ w1.heap.size ro rc ⟨rfl, rfl, rfl, rfl, rfl, rfl, rfl, rfl, rfl, rfl, rfl, rfl, rfl, rfl, rfl, rfl, rfl, rfl, rfl, rfl, rfl, rfl⟩ (heap_alloc_new _ _) (below_row ((Below.refl _ _).alloc (Nat.le_refl _) _) hrow) (b1.alloc b1.size _)
set_option maxHeartbeats 8000000 in
set_option maxRecDepth 100000 in
theorem rk_r9 {K : Act → World → Prop} {c : Code} (hc : regOf (Tryd.f5.body.getD .skip) 9 = some c) (a : Act) {v : Vrk} {wq : World} {er : Int} {bb : Bool} (hF : Frk a v) (h16v : v.v16 = .int .i64 er) (hz : (er != 0) = bb)
    (hQ : ∀ a', Frk a' { v with v55 := .bool bb } → K a' wq) :
    Code.wp Tryd.prog c (Exit.then K fun _ _ _ => False) a wq := by
  have HQ := hide hQ
  clear hQ
  obtain ⟨t', d'⟩ := a
  obtain ⟨v0, v1, v2, v4, v6, v7, v8, v9, v10, v11, v12, v13, v14, v15, v16, v17, v18, v27, v47, v55⟩ := v
  simp only at h16v HQ
  subst h16v
  obtain ⟨hs1, hd1, q0, q1, q2, q4, q6, q7, q8, q9, q10, q11, q12, q13, q14, q15, q16, q17, q18, q27, q47, q55⟩ := hF
  obtain ⟨u, hu⟩ := frame_rk t' hs1
  simp only at hd1 q0 q1 q2 q4 q6 q7 q8 q9 q10 q11 q12 q13 q14 q15 q16 q17 q18 q27 q47 q55
  subst hu hd1
  have e0 : u 0 = v0 := q0
  have e1 : u 1 = v1 := q1
  have e2 : u 2 = v2 := q2
  have e4 : u 4 = v4 := q4
  have e6 : u 6 = v6 := q6
  have e7 : u 7 = v7 := q7
  have e8 : u 8 = v8 := q8
  have e9 : u 9 = v9 := q9
  have e10 : u 10 = v10 := q10
  have e11 : u 11 = v11 := q11
  have e12 : u 12 = v12 := q12
  have e13 : u 13 = v13 := q13
  have e14 : u 14 = v14 := q14
  have e15 : u 15 = v15 := q15
  have e16 : u 16 = .int .i64 er := q16
  have e17 : u 17 = v17 := q17
  have e18 : u 18 = v18 := q18
  have e27 : u 27 = v27 := q27
  have e47 : u 47 = v47 := q47
  have e55 : u 55 = v55 := q55
  rw [e0, e1, e2, e4, e6, e7, e8, e9, e10, e11, e12, e13, e14, e15, e16, e17, e18, e27, e47, e55]
  clear q0 e0 q1 e1 q2 e2 q4 e4 q6 e6 q7 e7 q8 e8 q9 e9 q10 e10 q11 e11 q12 e12 q13 e13 q14 e14 q15 e15 q16 e16 q17 e17 q18 e18 q27 e27 q47 e47 q55 e55 hs1
  simp only [Tryd.f5, Option.getD_some, regOf] at hc
  injection hc with hc
  subst hc
  generalize u 3 = u3
  generalize u 5 = u5
  generalize u 19 = u19
  generalize u 20 = u20
  generalize u 21 = u21
  generalize u 22 = u22
  generalize u 23 = u23
  generalize u 24 = u24
  generalize u 25 = u25
  generalize u 26 = u26
  generalize u 28 = u28
  generalize u 29 = u29
  generalize u 30 = u30
  generalize u 31 = u31
  generalize u 32 = u32
  generalize u 33 = u33
  generalize u 34 = u34
  generalize u 35 = u35
  generalize u 36 = u36
  generalize u 37 = u37
  generalize u 38 = u38
  generalize u 39 = u39
  generalize u 40 = u40
  generalize u 41 = u41
  generalize u 42 = u42
  generalize u 43 = u43
  generalize u 44 = u44
  generalize u 45 = u45
  generalize u 46 = u46
  generalize u 48 = u48
  generalize u 49 = u49
  generalize u 50 = u50
  generalize u 51 = u51
  generalize u 52 = u52
  generalize u 53 = u53
  generalize u 54 = u54
  generalize u 56 = u56
  generalize u 57 = u57
  generalize u 58 = u58
  generalize u 59 = u59
  generalize u 60 = u60
  generalize u 61 = u61
  generalize u 62 = u62
  generalize u 63 = u63
  generalize u 64 = u64
  generalize u 65 = u65
  generalize u 66 = u66
  generalize u 67 = u67
  generalize u 68 = u68
  generalize u 69 = u69
  generalize u 70 = u70
  generalize u 71 = u71
  generalize u 72 = u72
  generalize u 73 = u73
  generalize u 74 = u74
  generalize u 75 = u75
  generalize u 76 = u76
  generalize u 77 = u77
  generalize u 78 = u78
  generalize u 79 = u79
  generalize u 80 = u80
  generalize u 81 = u81
  generalize u 82 = u82
  clear u
  go_wp2
  exact HQ.out _ ⟨rfl, rfl, rfl, rfl, rfl, rfl, rfl, rfl, rfl, rfl, rfl, rfl, rfl, rfl, rfl, rfl, rfl, rfl, rfl, rfl, rfl, rfl⟩
set_option maxHeartbeats 8000000 in
set_option maxRecDepth 100000 in
theorem rk_r10 {K : Act → World → Prop} {c : Code} (hc : regOf (Tryd.f5.body.getD .skip) 10 = some c) (a : Act) {v : Vrk} {wq : World} {b : Nat} {ao : Option Addr} {cap : Nat} (hF : Frk a v) (h7v : v.v7 = .bool true) (h14v : v.v14 = .int .i64 0) (h15v : v.v15 = .pointer (some ⟨b, 0, none⟩)) (hB : wq.heap[b]? = some (.cells #[.int .i64 0, .int .i64 0, .slice ao 0 cap] tRp (0, 0)))
    (hQ : ∀ a', Frk a' { v with v6 := .bool true } → K a' wq) :
    Code.wp Tryd.prog c (Exit.then K fun _ _ _ => False) a wq := by
  have HQ := hide hQ
  clear hQ
  obtain ⟨t', d'⟩ := a
  obtain ⟨v0, v1, v2, v4, v6, v7, v8, v9, v10, v11, v12, v13, v14, v15, v16, v17, v18, v27, v47, v55⟩ := v
  simp only at h7v h14v h15v HQ
  subst h7v h14v h15v
  obtain ⟨hs1, hd1, q0, q1, q2, q4, q6, q7, q8, q9, q10, q11, q12, q13, q14, q15, q16, q17, q18, q27, q47, q55⟩ := hF
  obtain ⟨u, hu⟩ := frame_rk t' hs1
  simp only at hd1 q0 q1 q2 q4 q6 q7 q8 q9 q10 q11 q12 q13 q14 q15 q16 q17 q18 q27 q47 q55
  subst hu hd1
  have e0 : u 0 = v0 := q0
  have e1 : u 1 = v1 := q1
  have e2 : u 2 = v2 := q2
  have e4 : u 4 = v4 := q4
  have e6 : u 6 = v6 := q6
  have e7 : u 7 = .bool true := q7
  have e8 : u 8 = v8 := q8
  have e9 : u 9 = v9 := q9
  have e10 : u 10 = v10 := q10
  have e11 : u 11 = v11 := q11
  have e12 : u 12 = v12 := q12
  have e13 : u 13 = v13 := q13
  have e14 : u 14 = .int .i64 0 := q14
  have e15 : u 15 = .pointer (some ⟨b, 0, none⟩) := q15
  have e16 : u 16 = v16 := q16
  have e17 : u 17 = v17 := q17
  have e18 : u 18 = v18 := q18
  have e27 : u 27 = v27 := q27
  have e47 : u 47 = v47 := q47
  have e55 : u 55 = v55 := q55
  rw [e0, e1, e2, e4, e6, e7, e8, e9, e10, e11, e12, e13, e14, e15, e16, e17, e18, e27, e47, e55]
  clear q0 e0 q1 e1 q2 e2 q4 e4 q6 e6 q7 e7 q8 e8 q9 e9 q10 e10 q11 e11 q12 e12 q13 e13 q14 e14 q15 e15 q16 e16 q17 e17 q18 e18 q27 e27 q47 e47 q55 e55 hs1
  simp only [Tryd.f5, Option.getD_some, regOf] at hc
  injection hc with hc
  subst hc
  generalize u 3 = u3
  generalize u 5 = u5
  generalize u 19 = u19
  generalize u 20 = u20
  generalize u 21 = u21
  generalize u 22 = u22
  generalize u 23 = u23
  generalize u 24 = u24
  generalize u 25 = u25
  generalize u 26 = u26
  generalize u 28 = u28
  generalize u 29 = u29
  generalize u 30 = u30
  generalize u 31 = u31
  generalize u 32 = u32
  generalize u 33 = u33
  generalize u 34 = u34
  generalize u 35 = u35
  generalize u 36 = u36
  generalize u 37 = u37
  generalize u 38 = u38
  generalize u 39 = u39
  generalize u 40 = u40
  generalize u 41 = u41
  generalize u 42 = u42
  generalize u 43 = u43
  generalize u 44 = u44
  generalize u 45 = u45
  generalize u 46 = u46
  generalize u 48 = u48
  generalize u 49 = u49
  generalize u 50 = u50
  generalize u 51 = u51
  generalize u 52 = u52
  generalize u 53 = u53
  generalize u 54 = u54
  generalize u 56 = u56
  generalize u 57 = u57
  generalize u 58 = u58
  generalize u 59 = u59
  generalize u 60 = u60
  generalize u 61 = u61
  generalize u 62 = u62
  generalize u 63 = u63
  generalize u 64 = u64
  generalize u 65 = u65
  generalize u 66 = u66
  generalize u 67 = u67
  generalize u 68 = u68
  generalize u 69 = u69
  generalize u 70 = u70
  generalize u 71 = u71
  generalize u 72 = u72
  generalize u 73 = u73
  generalize u 74 = u74
  generalize u 75 = u75
  generalize u 76 = u76
  generalize u 77 = u77
  generalize u 78 = u78
  generalize u 79 = u79
  generalize u 80 = u80
  generalize u 81 = u81
  generalize u 82 = u82
  clear u
  have c0 := box_cell hB 0 rfl
  have c1 := box_cell hB 1 rfl
  have c2 := box_cell hB 2 rfl
  clear hB
  go_wp2
  exact HQ.out _ ⟨rfl, rfl, rfl, rfl, rfl, rfl, rfl, rfl, rfl, rfl, rfl, rfl, rfl, rfl, rfl, rfl, rfl, rfl, rfl, rfl, rfl, rfl⟩
set_option maxHeartbeats 8000000 in
set_option maxRecDepth 100000 in
theorem rk_r11 {K : Act → World → Prop} {c : Code} (hc : regOf (Tryd.f5.body.getD .skip) 11 = some c) (a : Act) {v : Vrk} {wq : World} {b : Nat} {aa cd nn er : Int} {ao : Option Addr} {ll cap : Nat} {T : ByteArray} (hF : Frk a v) (h14v : v.v14 = .int .i64 aa) (h15v : v.v15 = .pointer (some ⟨b, 0, none⟩)) (hB : wq.heap[b]? = some (.cells #[.int .i64 cd, .int .i64 nn, .slice ao ll cap] tRp (0, 0))) (hC : ∀ W, Below wq.heap.size wq W → Calls Tryd.prog 18 #[.int .i64 aa, .agg #[.int .i64 cd, .int .i64 nn, .slice ao ll cap]] W fun e w' => e = .returned (.tuple #[.string T, .int .i64 er]) ∧ Below W.heap.size W w')
    (hQ : ∀ a' w', Frk a' { v with v17 := .string T, v18 := .int .i64 er } → Below wq.heap.size wq w' → K a' w') :
    Code.wp Tryd.prog c (Exit.then K fun _ _ _ => False) a wq := by
  have HQ := hide hQ
  clear hQ
  obtain ⟨t', d'⟩ := a
  obtain ⟨v0, v1, v2, v4, v6, v7, v8, v9, v10, v11, v12, v13, v14, v15, v16, v17, v18, v27, v47, v55⟩ := v
  simp only at h14v h15v HQ
  subst h14v h15v
  obtain ⟨hs1, hd1, q0, q1, q2, q4, q6, q7, q8, q9, q10, q11, q12, q13, q14, q15, q16, q17, q18, q27, q47, q55⟩ := hF
  obtain ⟨u, hu⟩ := frame_rk t' hs1
  simp only at hd1 q0 q1 q2 q4 q6 q7 q8 q9 q10 q11 q12 q13 q14 q15 q16 q17 q18 q27 q47 q55
  subst hu hd1
  have e0 : u 0 = v0 := q0
  have e1 : u 1 = v1 := q1
  have e2 : u 2 = v2 := q2
  have e4 : u 4 = v4 := q4
  have e6 : u 6 = v6 := q6
  have e7 : u 7 = v7 := q7
  have e8 : u 8 = v8 := q8
  have e9 : u 9 = v9 := q9
  have e10 : u 10 = v10 := q10
  have e11 : u 11 = v11 := q11
  have e12 : u 12 = v12 := q12
  have e13 : u 13 = v13 := q13
  have e14 : u 14 = .int .i64 aa := q14
  have e15 : u 15 = .pointer (some ⟨b, 0, none⟩) := q15
  have e16 : u 16 = v16 := q16
  have e17 : u 17 = v17 := q17
  have e18 : u 18 = v18 := q18
  have e27 : u 27 = v27 := q27
  have e47 : u 47 = v47 := q47
  have e55 : u 55 = v55 := q55
  rw [e0, e1, e2, e4, e6, e7, e8, e9, e10, e11, e12, e13, e14, e15, e16, e17, e18, e27, e47, e55]
  clear q0 e0 q1 e1 q2 e2 q4 e4 q6 e6 q7 e7 q8 e8 q9 e9 q10 e10 q11 e11 q12 e12 q13 e13 q14 e14 q15 e15 q16 e16 q17 e17 q18 e18 q27 e27 q47 e47 q55 e55 hs1
  simp only [Tryd.f5, Option.getD_some, regOf] at hc
  injection hc with hc
  subst hc
  generalize u 3 = u3
  generalize u 5 = u5
  generalize u 19 = u19
  generalize u 20 = u20
  generalize u 21 = u21
  generalize u 22 = u22
  generalize u 23 = u23
  generalize u 24 = u24
  generalize u 25 = u25
  generalize u 26 = u26
  generalize u 28 = u28
  generalize u 29 = u29
  generalize u 30 = u30
  generalize u 31 = u31
  generalize u 32 = u32
  generalize u 33 = u33
  generalize u 34 = u34
  generalize u 35 = u35
  generalize u 36 = u36
  generalize u 37 = u37
  generalize u 38 = u38
  generalize u 39 = u39
  generalize u 40 = u40
  generalize u 41 = u41
  generalize u 42 = u42
  generalize u 43 = u43
  generalize u 44 = u44
  generalize u 45 = u45
  generalize u 46 = u46
  generalize u 48 = u48
  generalize u 49 = u49
  generalize u 50 = u50
  generalize u 51 = u51
  generalize u 52 = u52
  generalize u 53 = u53
  generalize u 54 = u54
  generalize u 56 = u56
  generalize u 57 = u57
  generalize u 58 = u58
  generalize u 59 = u59
  generalize u 60 = u60
  generalize u 61 = u61
  generalize u 62 = u62
  generalize u 63 = u63
  generalize u 64 = u64
  generalize u 65 = u65
  generalize u 66 = u66
  generalize u 67 = u67
  generalize u 68 = u68
  generalize u 69 = u69
  generalize u 70 = u70
  generalize u 71 = u71
  generalize u 72 = u72
  generalize u 73 = u73
  generalize u 74 = u74
  generalize u 75 = u75
  generalize u 76 = u76
  generalize u 77 = u77
  generalize u 78 = u78
  generalize u 79 = u79
  generalize u 80 = u80
  generalize u 81 = u81
  generalize u 82 = u82
  clear u
  have HC := hide hC
  have c0 := box_cell hB 0 rfl
  have c1 := box_cell hB 1 rfl
  have c2 := box_cell hB 2 rfl
  clear hC hB
  go_wp2_with (go_at_call 18; refine (HC.out _ (Below.refl _ _)).mono ?_; rintro e w1 ⟨rfl, b1⟩)
  exact HQ.out _ _ ⟨rfl, rfl, rfl, rfl, rfl, rfl, rfl, rfl, rfl, rfl, rfl, rfl, rfl, rfl, rfl, rfl, rfl, rfl, rfl, rfl, rfl, rfl⟩ b1
set_option maxHeartbeats 8000000 in
set_option maxRecDepth 100000 in
theorem rk_r12 {K : Act → World → Prop} {c : Code} (hc : regOf (Tryd.f5.body.getD .skip) 12 = some c) (a : Act) {v : Vrk} {wq : World} {T : ByteArray} (hF : Frk a v) (h7v : v.v7 = .bool true) (h17v : v.v17 = .string T) (h2v : v.v2 = .string T) (h18v : v.v18 = .int .i64 0) (hQ : ∀ a', Frk a' { v with v6 := .bool true } → K a' wq) :
    Code.wp Tryd.prog c (Exit.then K fun _ _ _ => False) a wq := by
  have HQ := hide hQ
  clear hQ
  obtain ⟨t', d'⟩ := a
  obtain ⟨v0, v1, v2, v4, v6, v7, v8, v9, v10, v11, v12, v13, v14, v15, v16, v17, v18, v27, v47, v55⟩ := v
  simp only at h7v h17v h2v h18v HQ
  subst h7v h17v h2v h18v
  obtain ⟨hs1, hd1, q0, q1, q2, q4, q6, q7, q8, q9, q10, q11, q12, q13, q14, q15, q16, q17, q18, q27, q47, q55⟩ := hF
  obtain ⟨u, hu⟩ := frame_rk t' hs1
  simp only at hd1 q0 q1 q2 q4 q6 q7 q8 q9 q10 q11 q12 q13 q14 q15 q16 q17 q18 q27 q47 q55
  subst hu hd1
  have e0 : u 0 = v0 := q0
  have e1 : u 1 = v1 := q1
  have e2 : u 2 = .string T := q2
  have e4 : u 4 = v4 := q4
  have e6 : u 6 = v6 := q6
  have e7 : u 7 = .bool true := q7
  have e8 : u 8 = v8 := q8
  have e9 : u 9 = v9 := q9
  have e10 : u 10 = v10 := q10
  have e11 : u 11 = v11 := q11
  have e12 : u 12 = v12 := q12
  have e13 : u 13 = v13 := q13
  have e14 : u 14 = v14 := q14
  have e15 : u 15 = v15 := q15
  have e16 : u 16 = v16 := q16
  have e17 : u 17 = .string T := q17
  have e18 : u 18 = .int .i64 0 := q18
  have e27 : u 27 = v27 := q27
  have e47 : u 47 = v47 := q47
  have e55 : u 55 = v55 := q55
  rw [e0, e1, e2, e4, e6, e7, e8, e9, e10, e11, e12, e13, e14, e15, e16, e17, e18, e27, e47, e55]
  clear q0 e0 q1 e1 q2 e2 q4 e4 q6 e6 q7 e7 q8 e8 q9 e9 q10 e10 q11 e11 q12 e12 q13 e13 q14 e14 q15 e15 q16 e16 q17 e17 q18 e18 q27 e27 q47 e47 q55 e55 hs1
  simp only [Tryd.f5, Option.getD_some, regOf] at hc
  injection hc with hc
  subst hc
  generalize u 3 = u3
  generalize u 5 = u5
  generalize u 19 = u19
  generalize u 20 = u20
  generalize u 21 = u21
  generalize u 22 = u22
  generalize u 23 = u23
  generalize u 24 = u24
  generalize u 25 = u25
  generalize u 26 = u26
  generalize u 28 = u28
  generalize u 29 = u29
  generalize u 30 = u30
  generalize u 31 = u31
  generalize u 32 = u32
  generalize u 33 = u33
  generalize u 34 = u34
  generalize u 35 = u35
  generalize u 36 = u36
  generalize u 37 = u37
  generalize u 38 = u38
  generalize u 39 = u39
  generalize u 40 = u40
  generalize u 41 = u41
  generalize u 42 = u42
  generalize u 43 = u43
  generalize u 44 = u44
  generalize u 45 = u45
  generalize u 46 = u46
  generalize u 48 = u48
  generalize u 49 = u49
  generalize u 50 = u50
  generalize u 51 = u51
  generalize u 52 = u52
  generalize u 53 = u53
  generalize u 54 = u54
  generalize u 56 = u56
  generalize u 57 = u57
  generalize u 58 = u58
  generalize u 59 = u59
  generalize u 60 = u60
  generalize u 61 = u61
  generalize u 62 = u62
  generalize u 63 = u63
  generalize u 64 = u64
  generalize u 65 = u65
  generalize u 66 = u66
  generalize u 67 = u67
  generalize u 68 = u68
  generalize u 69 = u69
  generalize u 70 = u70
  generalize u 71 = u71
  generalize u 72 = u72
  generalize u 73 = u73
  generalize u 74 = u74
  generalize u 75 = u75
  generalize u 76 = u76
  generalize u 77 = u77
  generalize u 78 = u78
  generalize u 79 = u79
  generalize u 80 = u80
  generalize u 81 = u81
  generalize u 82 = u82
  clear u
  go_wp2
  exact HQ.out _ ⟨rfl, rfl, rfl, rfl, rfl, rfl, rfl, rfl, rfl, rfl, rfl, rfl, rfl, rfl, rfl, rfl, rfl, rfl, rfl, rfl, rfl, rfl⟩
theorem rk_ret {W : World} {a : Act} {v : Vrk} {b : Bool} {R : Ending → World → Prop} (hF : Frk a v) (h0 : v.v6 = .bool b) (h : R (.returned (.bool b)) W) :
    bodyPost Tryd.prog Tryd.f5 R .ret a W := by
  have g0 := slot_get (hF.s6.trans h0)
  refine bodyPost_ret (v := .bool b) ?_ hF.defers h
  simp [results, Tryd.results5, go_sem, g0]
end Go.Proofs.YthfflefnapbkiaaDoor
