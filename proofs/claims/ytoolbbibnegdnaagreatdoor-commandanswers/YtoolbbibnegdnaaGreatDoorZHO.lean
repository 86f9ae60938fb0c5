/-
  CommandAnswers' regions (mkaw.py)
-/
import Derived.Test.YtoolbbibnegdnaaGreatDoorZRT
import Derived.Test.YtoolbbibnegdnaaGreatDoorZCN
import Derived.Test.YtoolbbibnegdnaaGreatDoorZCP
import Derived.Test.YtoolbbibnegdnaaGreatDoorZCF
namespace Go.Proofs.YtoolbbibnegdnaaGreatDoor
open Go.RowKit

attribute [local go_sem ↓] Go.wp_at_zero Go.wp_at_succ
set_option linter.unusedSimpArgs false
set_option linter.unusedVariables false
set_option maxRecDepth 100000 in
theorem frame_aw (t : Array Value) (h : t.size = 96) : ∃ u : Nat → Value, t = List.toArray (u 0 :: u 1 :: u 2 :: u 3 :: u 4 :: u 5 :: u 6 :: u 7 :: u 8 :: u 9 :: u 10 :: u 11 :: u 12 :: u 13 :: u 14 :: u 15 :: u 16 :: u 17 :: u 18 :: u 19 :: u 20 :: u 21 :: u 22 :: u 23 :: u 24 :: u 25 :: u 26 :: u 27 :: u 28 :: u 29 :: u 30 :: u 31 :: u 32 :: u 33 :: u 34 :: u 35 :: u 36 :: u 37 :: u 38 :: u 39 :: u 40 :: u 41 :: u 42 :: u 43 :: u 44 :: u 45 :: u 46 :: u 47 :: u 48 :: u 49 :: u 50 :: u 51 :: u 52 :: u 53 :: u 54 :: u 55 :: u 56 :: u 57 :: u 58 :: u 59 :: u 60 :: u 61 :: u 62 :: u 63 :: u 64 :: u 65 :: u 66 :: u 67 :: u 68 :: u 69 :: u 70 :: u 71 :: u 72 :: u 73 :: u 74 :: u 75 :: u 76 :: u 77 :: u 78 :: u 79 :: u 80 :: u 81 :: u 82 :: u 83 :: u 84 :: u 85 :: u 86 :: u 87 :: u 88 :: u 89 :: u 90 :: u 91 :: u 92 :: u 93 :: u 94 :: u 95 :: []) := by
  refine ⟨fun i => t.getD i undef, ?_⟩
  have e : (List.toArray ((fun i => t.getD i undef) 0 :: (fun i => t.getD i undef) 1 :: (fun i => t.getD i undef) 2 :: (fun i => t.getD i undef) 3 :: (fun i => t.getD i undef) 4 :: (fun i => t.getD i undef) 5 :: (fun i => t.getD i undef) 6 :: (fun i => t.getD i undef) 7 :: (fun i => t.getD i undef) 8 :: (fun i => t.getD i undef) 9 :: (fun i => t.getD i undef) 10 :: (fun i => t.getD i undef) 11 :: (fun i => t.getD i undef) 12 :: (fun i => t.getD i undef) 13 :: (fun i => t.getD i undef) 14 :: (fun i => t.getD i undef) 15 :: (fun i => t.getD i undef) 16 :: (fun i => t.getD i undef) 17 :: (fun i => t.getD i undef) 18 :: (fun i => t.getD i undef) 19 :: (fun i => t.getD i undef) 20 :: (fun i => t.getD i undef) 21 :: (fun i => t.getD i undef) 22 :: (fun i => t.getD i undef) 23 :: (fun i => t.getD i undef) 24 :: (fun i => t.getD i undef) 25 :: (fun i => t.getD i undef) 26 :: (fun i => t.getD i undef) 27 :: (fun i => t.getD i undef) 28 :: (fun i => t.getD i undef) 29 :: (fun i => t.getD i undef) 30 :: (fun i => t.getD i undef) 31 :: (fun i => t.getD i undef) 32 :: (fun i => t.getD i undef) 33 :: (fun i => t.getD i undef) 34 :: (fun i => t.getD i undef) 35 :: (fun i => t.getD i undef) 36 :: (fun i => t.getD i undef) 37 :: (fun i => t.getD i undef) 38 :: (fun i => t.getD i undef) 39 :: (fun i => t.getD i undef) 40 :: (fun i => t.getD i undef) 41 :: (fun i => t.getD i undef) 42 :: (fun i => t.getD i undef) 43 :: (fun i => t.getD i undef) 44 :: (fun i => t.getD i undef) 45 :: (fun i => t.getD i undef) 46 :: (fun i => t.getD i undef) 47 :: (fun i => t.getD i undef) 48 :: (fun i => t.getD i undef) 49 :: (fun i => t.getD i undef) 50 :: (fun i => t.getD i undef) 51 :: (fun i => t.getD i undef) 52 :: (fun i => t.getD i undef) 53 :: (fun i => t.getD i undef) 54 :: (fun i => t.getD i undef) 55 :: (fun i => t.getD i undef) 56 :: (fun i => t.getD i undef) 57 :: (fun i => t.getD i undef) 58 :: (fun i => t.getD i undef) 59 :: (fun i => t.getD i undef) 60 :: (fun i => t.getD i undef) 61 :: (fun i => t.getD i undef) 62 :: (fun i => t.getD i undef) 63 :: (fun i => t.getD i undef) 64 :: (fun i => t.getD i undef) 65 :: (fun i => t.getD i undef) 66 :: (fun i => t.getD i undef) 67 :: (fun i => t.getD i undef) 68 :: (fun i => t.getD i undef) 69 :: (fun i => t.getD i undef) 70 :: (fun i => t.getD i undef) 71 :: (fun i => t.getD i undef) 72 :: (fun i => t.getD i undef) 73 :: (fun i => t.getD i undef) 74 :: (fun i => t.getD i undef) 75 :: (fun i => t.getD i undef) 76 :: (fun i => t.getD i undef) 77 :: (fun i => t.getD i undef) 78 :: (fun i => t.getD i undef) 79 :: (fun i => t.getD i undef) 80 :: (fun i => t.getD i undef) 81 :: (fun i => t.getD i undef) 82 :: (fun i => t.getD i undef) 83 :: (fun i => t.getD i undef) 84 :: (fun i => t.getD i undef) 85 :: (fun i => t.getD i undef) 86 :: (fun i => t.getD i undef) 87 :: (fun i => t.getD i undef) 88 :: (fun i => t.getD i undef) 89 :: (fun i => t.getD i undef) 90 :: (fun i => t.getD i undef) 91 :: (fun i => t.getD i undef) 92 :: (fun i => t.getD i undef) 93 :: (fun i => t.getD i undef) 94 :: (fun i => t.getD i undef) 95 :: []) : Array Value) = ((List.range 96).map fun i => t.getD i undef).toArray := rfl
  refine Eq.trans ?_ e.symm
  apply Array.ext
  · simp [h]
  · intro k h1 h2
    simp [Array.getD, h1]
/-- The slots that matter. -/
structure Vaw where
  v0 : Value
  v1 : Value
  v2 : Value
  v4 : Value
  v6 : Value
  v7 : Value
  v8 : Value
  v9 : Value
  v10 : Value
  v11 : Value
  v12 : Value
  v13 : Value
  v14 : Value
  v15 : Value
  v16 : Value
  v17 : Value
  v18 : Value
  v19 : Value
  v20 : Value
  v41 : Value
  v64 : Value
  v69 : Value
structure Faw (a : Act) (v : Vaw) : Prop where
  size : a.tmps.size = 96
  defers : a.defers = []
  s0 : a.tmps.getD 0 undef = v.v0
  s1 : a.tmps.getD 1 undef = v.v1
  s2 : a.tmps.getD 2 undef = v.v2
  s4 : a.tmps.getD 4 undef = v.v4
  s6 : a.tmps.getD 6 undef = v.v6
  s7 : a.tmps.getD 7 undef = v.v7
  s8 : a.tmps.getD 8 undef = v.v8
  s9 : a.tmps.getD 9 undef = v.v9
  s10 : a.tmps.getD 10 undef = v.v10
  s11 : a.tmps.getD 11 undef = v.v11
  s12 : a.tmps.getD 12 undef = v.v12
  s13 : a.tmps.getD 13 undef = v.v13
  s14 : a.tmps.getD 14 undef = v.v14
  s15 : a.tmps.getD 15 undef = v.v15
  s16 : a.tmps.getD 16 undef = v.v16
  s17 : a.tmps.getD 17 undef = v.v17
  s18 : a.tmps.getD 18 undef = v.v18
  s19 : a.tmps.getD 19 undef = v.v19
  s20 : a.tmps.getD 20 undef = v.v20
  s41 : a.tmps.getD 41 undef = v.v41
  s64 : a.tmps.getD 64 undef = v.v64
  s69 : a.tmps.getD 69 undef = v.v69
set_option maxHeartbeats 8000000 in
set_option maxRecDepth 100000 in
theorem aw_r0 {K : Act → World → Prop} {c : Code} (hc : regOf (Tryz.f4.body.getD .skip) 0 = some c) (a : Act) {v : Vaw} {wq : World} {cd n : Int} {ao : Option Addr} {ll cap : Nat} (hF : Faw a v) (h1v : v.v1 = .agg #[.int .i64 cd, .int .i64 n, .slice ao ll cap]) (hQ : ∀ a' w' b, Faw a' { v with v4 := .pointer (some ⟨b, 0, none⟩), v6 := .bool false } → w'.heap[b]? = some (.cells #[.int .i64 cd, .int .i64 n, .slice ao ll cap] 37 (0, 0)) → Below wq.heap.size wq w' → K a' w') :
    Code.wp Tryz.prog c (Exit.then K fun _ _ _ => False) a wq := by
  have HQ := hide hQ
  clear hQ
  obtain ⟨t', d'⟩ := a
  obtain ⟨v0, v1, v2, v4, v6, v7, v8, v9, v10, v11, v12, v13, v14, v15, v16, v17, v18, v19, v20, v41, v64, v69⟩ := v
  simp only at h1v HQ
  subst h1v
  obtain ⟨hs1, hd1, q0, q1, q2, q4, q6, q7, q8, q9, q10, q11, q12, q13, q14, q15, q16, q17, q18, q19, q20, q41, q64, q69⟩ := hF
  obtain ⟨u, hu⟩ := frame_aw t' hs1
  simp only at hd1 q0 q1 q2 q4 q6 q7 q8 q9 q10 q11 q12 q13 q14 q15 q16 q17 q18 q19 q20 q41 q64 q69
  subst hu hd1
  have e0 : u 0 = v0 := q0
  have e1 : u 1 = .agg #[.int .i64 cd, .int .i64 n, .slice ao ll cap] := q1
  have e2 : u 2 = v2 := q2
  have e4 : u 4 = v4 := q4
  have e6 : u 6 = v6 := q6
  have e7 : u 7 = v7 := q7
  have e8 : u 8 = v8 := q8
  have e9 : u 9 = v9 := q9
  have e10 : u 10 = v10 := q10
  have e11 : u 11 = v11 := q11
  have e12 : u 12 = v12 := q12
  have e13 : u 13 = v13 := q13
  have e14 : u 14 = v14 := q14
  have e15 : u 15 = v15 := q15
  have e16 : u 16 = v16 := q16
  have e17 : u 17 = v17 := q17
  have e18 : u 18 = v18 := q18
  have e19 : u 19 = v19 := q19
  have e20 : u 20 = v20 := q20
  have e41 : u 41 = v41 := q41
  have e64 : u 64 = v64 := q64
  have e69 : u 69 = v69 := q69
  rw [e0, e1, e2, e4, e6, e7, e8, e9, e10, e11, e12, e13, e14, e15, e16, e17, e18, e19, e20, e41, e64, e69]
  clear q0 e0 q1 e1 q2 e2 q4 e4 q6 e6 q7 e7 q8 e8 q9 e9 q10 e10 q11 e11 q12 e12 q13 e13 q14 e14 q15 e15 q16 e16 q17 e17 q18 e18 q19 e19 q20 e20 q41 e41 q64 e64 q69 e69 hs1
  simp only [Tryz.f4, Option.getD_some, regOf] at hc
  injection hc with hc
  subst hc
  generalize u 3 = u3
  generalize u 5 = u5
  generalize u 21 = u21
  generalize u 22 = u22
  generalize u 23 = u23
  generalize u 24 = u24
  generalize u 25 = u25
  generalize u 26 = u26
  generalize u 27 = u27
  generalize u 28 = u28
  generalize u 29 = u29
  generalize u 30 = u30
  generalize u 31 = u31
  generalize u 32 = u32
  generalize u 33 = u33
  generalize u 34 = u34
  generalize u 35 = u35
  generalize u 36 = u36
  generalize u 37 = u37
  generalize u 38 = u38
  generalize u 39 = u39
  generalize u 40 = u40
  generalize u 42 = u42
  generalize u 43 = u43
  generalize u 44 = u44
  generalize u 45 = u45
  generalize u 46 = u46
  generalize u 47 = u47
  generalize u 48 = u48
  generalize u 49 = u49
  generalize u 50 = u50
  generalize u 51 = u51
  generalize u 52 = u52
  generalize u 53 = u53
  generalize u 54 = u54
  generalize u 55 = u55
  generalize u 56 = u56
  generalize u 57 = u57
  generalize u 58 = u58
  generalize u 59 = u59
  generalize u 60 = u60
  generalize u 61 = u61
  generalize u 62 = u62
  generalize u 63 = u63
  generalize u 65 = u65
  generalize u 66 = u66
  generalize u 67 = u67
  generalize u 68 = u68
  generalize u 70 = u70
  generalize u 71 = u71
  generalize u 72 = u72
  generalize u 73 = u73
  generalize u 74 = u74
  generalize u 75 = u75
  generalize u 76 = u76
  generalize u 77 = u77
  generalize u 78 = u78
  generalize u 79 = u79
  generalize u 80 = u80
  generalize u 81 = u81
  generalize u 82 = u82
  generalize u 83 = u83
  generalize u 84 = u84
  generalize u 85 = u85
  generalize u 86 = u86
  generalize u 87 = u87
  generalize u 88 = u88
  generalize u 89 = u89
  generalize u 90 = u90
  generalize u 91 = u91
  generalize u 92 = u92
  generalize u 93 = u93
  generalize u 94 = u94
  generalize u 95 = u95
  clear u
  go_wp2
  exact HQ.out _ _ wq.heap.size ⟨rfl, rfl, rfl, rfl, rfl, rfl, rfl, rfl, rfl, rfl, rfl, rfl, rfl, rfl, rfl, rfl, rfl, rfl, rfl, rfl, rfl, rfl, rfl, rfl⟩ (heap_alloc_new _ _) ((Below.refl _ _).alloc (Nat.le_refl _) _)
set_option maxHeartbeats 8000000 in
set_option maxRecDepth 100000 in
theorem aw_r1 {K : Act → World → Prop} {c : Code} (hc : regOf (Tryz.f4.body.getD .skip) 1 = some c) (a : Act) {v : Vaw} {wq : World}  (hF : Faw a v) (hC : ∀ W, Below wq.heap.size wq W → Calls Tryz.prog 5 #[] W fun e w' => e = .returned (.bool true) ∧ Below W.heap.size W w')
    (hQ : ∀ a' w', Faw a' { v with v7 := .bool true } → Below wq.heap.size wq w' → K a' w') :
    Code.wp Tryz.prog c (Exit.then K fun _ _ _ => False) a wq := by
  have HQ := hide hQ
  clear hQ
  obtain ⟨t', d'⟩ := a
  obtain ⟨v0, v1, v2, v4, v6, v7, v8, v9, v10, v11, v12, v13, v14, v15, v16, v17, v18, v19, v20, v41, v64, v69⟩ := v
  obtain ⟨hs1, hd1, q0, q1, q2, q4, q6, q7, q8, q9, q10, q11, q12, q13, q14, q15, q16, q17, q18, q19, q20, q41, q64, q69⟩ := hF
  obtain ⟨u, hu⟩ := frame_aw t' hs1
  simp only at hd1 q0 q1 q2 q4 q6 q7 q8 q9 q10 q11 q12 q13 q14 q15 q16 q17 q18 q19 q20 q41 q64 q69
  subst hu hd1
  have e0 : u 0 = v0 := q0
  have e1 : u 1 = v1 := q1
  have e2 : u 2 = v2 := q2
  have e4 : u 4 = v4 := q4
  have e6 : u 6 = v6 := q6
  have e7 : u 7 = v7 := q7
  have e8 : u 8 = v8 := q8
  have e9 : u 9 = v9 := q9
  have e10 : u 10 = v10 := q10
  have e11 : u 11 = v11 := q11
  have e12 : u 12 = v12 := q12
  have e13 : u 13 = v13 := q13
  have e14 : u 14 = v14 := q14
  have e15 : u 15 = v15 := q15
  have e16 : u 16 = v16 := q16
  have e17 : u 17 = v17 := q17
  have e18 : u 18 = v18 := q18
  have e19 : u 19 = v19 := q19
  have e20 : u 20 = v20 := q20
  have e41 : u 41 = v41 := q41
  have e64 : u 64 = v64 := q64
  have e69 : u 69 = v69 := q69
  rw [e0, e1, e2, e4, e6, e7, e8, e9, e10, e11, e12, e13, e14, e15, e16, e17, e18, e19, e20, e41, e64, e69]
  clear q0 e0 q1 e1 q2 e2 q4 e4 q6 e6 q7 e7 q8 e8 q9 e9 q10 e10 q11 e11 q12 e12 q13 e13 q14 e14 q15 e15 q16 e16 q17 e17 q18 e18 q19 e19 q20 e20 q41 e41 q64 e64 q69 e69 hs1
  simp only [Tryz.f4, Option.getD_some, regOf] at hc
  injection hc with hc
  subst hc
  generalize u 3 = u3
  generalize u 5 = u5
  generalize u 21 = u21
  generalize u 22 = u22
  generalize u 23 = u23
  generalize u 24 = u24
  generalize u 25 = u25
  generalize u 26 = u26
  generalize u 27 = u27
  generalize u 28 = u28
  generalize u 29 = u29
  generalize u 30 = u30
  generalize u 31 = u31
  generalize u 32 = u32
  generalize u 33 = u33
  generalize u 34 = u34
  generalize u 35 = u35
  generalize u 36 = u36
  generalize u 37 = u37
  generalize u 38 = u38
  generalize u 39 = u39
  generalize u 40 = u40
  generalize u 42 = u42
  generalize u 43 = u43
  generalize u 44 = u44
  generalize u 45 = u45
  generalize u 46 = u46
  generalize u 47 = u47
  generalize u 48 = u48
  generalize u 49 = u49
  generalize u 50 = u50
  generalize u 51 = u51
  generalize u 52 = u52
  generalize u 53 = u53
  generalize u 54 = u54
  generalize u 55 = u55
  generalize u 56 = u56
  generalize u 57 = u57
  generalize u 58 = u58
  generalize u 59 = u59
  generalize u 60 = u60
  generalize u 61 = u61
  generalize u 62 = u62
  generalize u 63 = u63
  generalize u 65 = u65
  generalize u 66 = u66
  generalize u 67 = u67
  generalize u 68 = u68
  generalize u 70 = u70
  generalize u 71 = u71
  generalize u 72 = u72
  generalize u 73 = u73
  generalize u 74 = u74
  generalize u 75 = u75
  generalize u 76 = u76
  generalize u 77 = u77
  generalize u 78 = u78
  generalize u 79 = u79
  generalize u 80 = u80
  generalize u 81 = u81
  generalize u 82 = u82
  generalize u 83 = u83
  generalize u 84 = u84
  generalize u 85 = u85
  generalize u 86 = u86
  generalize u 87 = u87
  generalize u 88 = u88
  generalize u 89 = u89
  generalize u 90 = u90
  generalize u 91 = u91
  generalize u 92 = u92
  generalize u 93 = u93
  generalize u 94 = u94
  generalize u 95 = u95
  clear u
  have HC := hide hC
  clear hC
  go_wp2_with (go_at_call 5; refine (HC.out _ (Below.refl _ _)).mono ?_; rintro e w1 ⟨rfl, b1⟩)
  exact HQ.out _ _ ⟨rfl, rfl, rfl, rfl, rfl, rfl, rfl, rfl, rfl, rfl, rfl, rfl, rfl, rfl, rfl, rfl, rfl, rfl, rfl, rfl, rfl, rfl, rfl, rfl⟩ b1
set_option maxHeartbeats 8000000 in
set_option maxRecDepth 100000 in
theorem aw_r2 {K : Act → World → Prop} {c : Code} (hc : regOf (Tryz.f4.body.getD .skip) 2 = some c) (a : Act) {v : Vaw} {wq : World} {ask : Int} {b : Nat} {T : ByteArray} {er : Int} {cd n : Int} {ao : Option Addr} {ll cap : Nat} (hF : Faw a v) (h0v : v.v0 = .int .i64 ask) (h4v : v.v4 = .pointer (some ⟨b, 0, none⟩)) (hB : wq.heap[b]? = some (.cells #[.int .i64 cd, .int .i64 n, .slice ao ll cap] 37 (0, 0))) (hC : ∀ W, Below wq.heap.size wq W → Calls Tryz.prog 10 #[.int .i64 ask, .agg #[.int .i64 cd, .int .i64 n, .slice ao ll cap]] W fun e w' => e = .returned (.tuple #[.string T, .int .i64 er]) ∧ Below W.heap.size W w')
    (hQ : ∀ a' w', Faw a' { v with v8 := .string T, v9 := .int .i64 er } → Below wq.heap.size wq w' → K a' w') :
    Code.wp Tryz.prog c (Exit.then K fun _ _ _ => False) a wq := by
  have HQ := hide hQ
  clear hQ
  obtain ⟨t', d'⟩ := a
  obtain ⟨v0, v1, v2, v4, v6, v7, v8, v9, v10, v11, v12, v13, v14, v15, v16, v17, v18, v19, v20, v41, v64, v69⟩ := v
  simp only at h0v h4v HQ
  subst h0v h4v
  obtain ⟨hs1, hd1, q0, q1, q2, q4, q6, q7, q8, q9, q10, q11, q12, q13, q14, q15, q16, q17, q18, q19, q20, q41, q64, q69⟩ := hF
  obtain ⟨u, hu⟩ := frame_aw t' hs1
  simp only at hd1 q0 q1 q2 q4 q6 q7 q8 q9 q10 q11 q12 q13 q14 q15 q16 q17 q18 q19 q20 q41 q64 q69
  subst hu hd1
  have e0 : u 0 = .int .i64 ask := q0
  have e1 : u 1 = v1 := q1
  have e2 : u 2 = v2 := q2
  have e4 : u 4 = .pointer (some ⟨b, 0, none⟩) := q4
  have e6 : u 6 = v6 := q6
  have e7 : u 7 = v7 := q7
  have e8 : u 8 = v8 := q8
  have e9 : u 9 = v9 := q9
  have e10 : u 10 = v10 := q10
  have e11 : u 11 = v11 := q11
  have e12 : u 12 = v12 := q12
  have e13 : u 13 = v13 := q13
  have e14 : u 14 = v14 := q14
  have e15 : u 15 = v15 := q15
  have e16 : u 16 = v16 := q16
  have e17 : u 17 = v17 := q17
  have e18 : u 18 = v18 := q18
  have e19 : u 19 = v19 := q19
  have e20 : u 20 = v20 := q20
  have e41 : u 41 = v41 := q41
  have e64 : u 64 = v64 := q64
  have e69 : u 69 = v69 := q69
  rw [e0, e1, e2, e4, e6, e7, e8, e9, e10, e11, e12, e13, e14, e15, e16, e17, e18, e19, e20, e41, e64, e69]
  clear q0 e0 q1 e1 q2 e2 q4 e4 q6 e6 q7 e7 q8 e8 q9 e9 q10 e10 q11 e11 q12 e12 q13 e13 q14 e14 q15 e15 q16 e16 q17 e17 q18 e18 q19 e19 q20 e20 q41 e41 q64 e64 q69 e69 hs1
  simp only [Tryz.f4, Option.getD_some, regOf] at hc
  injection hc with hc
  subst hc
  generalize u 3 = u3
  generalize u 5 = u5
  generalize u 21 = u21
  generalize u 22 = u22
  generalize u 23 = u23
  generalize u 24 = u24
  generalize u 25 = u25
  generalize u 26 = u26
  generalize u 27 = u27
  generalize u 28 = u28
  generalize u 29 = u29
  generalize u 30 = u30
  generalize u 31 = u31
  generalize u 32 = u32
  generalize u 33 = u33
  generalize u 34 = u34
  generalize u 35 = u35
  generalize u 36 = u36
  generalize u 37 = u37
  generalize u 38 = u38
  generalize u 39 = u39
  generalize u 40 = u40
  generalize u 42 = u42
  generalize u 43 = u43
  generalize u 44 = u44
  generalize u 45 = u45
  generalize u 46 = u46
  generalize u 47 = u47
  generalize u 48 = u48
  generalize u 49 = u49
  generalize u 50 = u50
  generalize u 51 = u51
  generalize u 52 = u52
  generalize u 53 = u53
  generalize u 54 = u54
  generalize u 55 = u55
  generalize u 56 = u56
  generalize u 57 = u57
  generalize u 58 = u58
  generalize u 59 = u59
  generalize u 60 = u60
  generalize u 61 = u61
  generalize u 62 = u62
  generalize u 63 = u63
  generalize u 65 = u65
  generalize u 66 = u66
  generalize u 67 = u67
  generalize u 68 = u68
  generalize u 70 = u70
  generalize u 71 = u71
  generalize u 72 = u72
  generalize u 73 = u73
  generalize u 74 = u74
  generalize u 75 = u75
  generalize u 76 = u76
  generalize u 77 = u77
  generalize u 78 = u78
  generalize u 79 = u79
  generalize u 80 = u80
  generalize u 81 = u81
  generalize u 82 = u82
  generalize u 83 = u83
  generalize u 84 = u84
  generalize u 85 = u85
  generalize u 86 = u86
  generalize u 87 = u87
  generalize u 88 = u88
  generalize u 89 = u89
  generalize u 90 = u90
  generalize u 91 = u91
  generalize u 92 = u92
  generalize u 93 = u93
  generalize u 94 = u94
  generalize u 95 = u95
  clear u
  have HC := hide hC
  have c0 := box_cell hB 0 rfl
  have c1 := box_cell hB 1 rfl
  have c2 := box_cell hB 2 rfl
  clear hC hB
  go_wp2_with (go_at_call 10; refine (HC.out _ (Below.refl _ _)).mono ?_; rintro e w1 ⟨rfl, b1⟩)
  exact HQ.out _ _ ⟨rfl, rfl, rfl, rfl, rfl, rfl, rfl, rfl, rfl, rfl, rfl, rfl, rfl, rfl, rfl, rfl, rfl, rfl, rfl, rfl, rfl, rfl, rfl, rfl⟩ b1
set_option maxHeartbeats 8000000 in
set_option maxRecDepth 100000 in
theorem aw_r3 {K : Act → World → Prop} {c : Code} (hc : regOf (Tryz.f4.body.getD .skip) 3 = some c) (a : Act) {v : Vaw} {wq : World} {ask : Int} {b : Nat} {T : ByteArray} {p : Bool} {cd n : Int} {ao : Option Addr} {ll cap : Nat} (hF : Faw a v) (h0v : v.v0 = .int .i64 ask) (h4v : v.v4 = .pointer (some ⟨b, 0, none⟩)) (hB : wq.heap[b]? = some (.cells #[.int .i64 cd, .int .i64 n, .slice ao ll cap] 37 (0, 0))) (hC : ∀ W, Below wq.heap.size wq W → Calls Tryz.prog 11 #[.int .i64 ask, .agg #[.int .i64 cd, .int .i64 n, .slice ao ll cap]] W fun e w' => e = .returned (.tuple #[.string T, .bool p]) ∧ Below W.heap.size W w')
    (hQ : ∀ a' w', Faw a' { v with v10 := .string T, v11 := .bool p } → Below wq.heap.size wq w' → K a' w') :
    Code.wp Tryz.prog c (Exit.then K fun _ _ _ => False) a wq := by
  have HQ := hide hQ
  clear hQ
  obtain ⟨t', d'⟩ := a
  obtain ⟨v0, v1, v2, v4, v6, v7, v8, v9, v10, v11, v12, v13, v14, v15, v16, v17, v18, v19, v20, v41, v64, v69⟩ := v
  simp only at h0v h4v HQ
  subst h0v h4v
  obtain ⟨hs1, hd1, q0, q1, q2, q4, q6, q7, q8, q9, q10, q11, q12, q13, q14, q15, q16, q17, q18, q19, q20, q41, q64, q69⟩ := hF
  obtain ⟨u, hu⟩ := frame_aw t' hs1
  simp only at hd1 q0 q1 q2 q4 q6 q7 q8 q9 q10 q11 q12 q13 q14 q15 q16 q17 q18 q19 q20 q41 q64 q69
  subst hu hd1
  have e0 : u 0 = .int .i64 ask := q0
  have e1 : u 1 = v1 := q1
  have e2 : u 2 = v2 := q2
  have e4 : u 4 = .pointer (some ⟨b, 0, none⟩) := q4
  have e6 : u 6 = v6 := q6
  have e7 : u 7 = v7 := q7
  have e8 : u 8 = v8 := q8
  have e9 : u 9 = v9 := q9
  have e10 : u 10 = v10 := q10
  have e11 : u 11 = v11 := q11
  have e12 : u 12 = v12 := q12
  have e13 : u 13 = v13 := q13
  have e14 : u 14 = v14 := q14
  have e15 : u 15 = v15 := q15
  have e16 : u 16 = v16 := q16
  have e17 : u 17 = v17 := q17
  have e18 : u 18 = v18 := q18
  have e19 : u 19 = v19 := q19
  have e20 : u 20 = v20 := q20
  have e41 : u 41 = v41 := q41
  have e64 : u 64 = v64 := q64
  have e69 : u 69 = v69 := q69
  rw [e0, e1, e2, e4, e6, e7, e8, e9, e10, e11, e12, e13, e14, e15, e16, e17, e18, e19, e20, e41, e64, e69]
  clear q0 e0 q1 e1 q2 e2 q4 e4 q6 e6 q7 e7 q8 e8 q9 e9 q10 e10 q11 e11 q12 e12 q13 e13 q14 e14 q15 e15 q16 e16 q17 e17 q18 e18 q19 e19 q20 e20 q41 e41 q64 e64 q69 e69 hs1
  simp only [Tryz.f4, Option.getD_some, regOf] at hc
  injection hc with hc
  subst hc
  generalize u 3 = u3
  generalize u 5 = u5
  generalize u 21 = u21
  generalize u 22 = u22
  generalize u 23 = u23
  generalize u 24 = u24
  generalize u 25 = u25
  generalize u 26 = u26
  generalize u 27 = u27
  generalize u 28 = u28
  generalize u 29 = u29
  generalize u 30 = u30
  generalize u 31 = u31
  generalize u 32 = u32
  generalize u 33 = u33
  generalize u 34 = u34
  generalize u 35 = u35
  generalize u 36 = u36
  generalize u 37 = u37
  generalize u 38 = u38
  generalize u 39 = u39
  generalize u 40 = u40
  generalize u 42 = u42
  generalize u 43 = u43
  generalize u 44 = u44
  generalize u 45 = u45
  generalize u 46 = u46
  generalize u 47 = u47
  generalize u 48 = u48
  generalize u 49 = u49
  generalize u 50 = u50
  generalize u 51 = u51
  generalize u 52 = u52
  generalize u 53 = u53
  generalize u 54 = u54
  generalize u 55 = u55
  generalize u 56 = u56
  generalize u 57 = u57
  generalize u 58 = u58
  generalize u 59 = u59
  generalize u 60 = u60
  generalize u 61 = u61
  generalize u 62 = u62
  generalize u 63 = u63
  generalize u 65 = u65
  generalize u 66 = u66
  generalize u 67 = u67
  generalize u 68 = u68
  generalize u 70 = u70
  generalize u 71 = u71
  generalize u 72 = u72
  generalize u 73 = u73
  generalize u 74 = u74
  generalize u 75 = u75
  generalize u 76 = u76
  generalize u 77 = u77
  generalize u 78 = u78
  generalize u 79 = u79
  generalize u 80 = u80
  generalize u 81 = u81
  generalize u 82 = u82
  generalize u 83 = u83
  generalize u 84 = u84
  generalize u 85 = u85
  generalize u 86 = u86
  generalize u 87 = u87
  generalize u 88 = u88
  generalize u 89 = u89
  generalize u 90 = u90
  generalize u 91 = u91
  generalize u 92 = u92
  generalize u 93 = u93
  generalize u 94 = u94
  generalize u 95 = u95
  clear u
  have HC := hide hC
  have c0 := box_cell hB 0 rfl
  have c1 := box_cell hB 1 rfl
  have c2 := box_cell hB 2 rfl
  clear hC hB
  go_wp2_with (go_at_call 11; refine (HC.out _ (Below.refl _ _)).mono ?_; rintro e w1 ⟨rfl, b1⟩)
  exact HQ.out _ _ ⟨rfl, rfl, rfl, rfl, rfl, rfl, rfl, rfl, rfl, rfl, rfl, rfl, rfl, rfl, rfl, rfl, rfl, rfl, rfl, rfl, rfl, rfl, rfl, rfl⟩ b1
set_option maxHeartbeats 8000000 in
set_option maxRecDepth 100000 in
theorem aw_r4 {K : Act → World → Prop} {c : Code} (hc : regOf (Tryz.f4.body.getD .skip) 4 = some c) (a : Act) {v : Vaw} {wq : World} {s : ByteArray} {m g cd n : Int} {ll : Nat} {RR : Option Addr → Nat → World → Prop} (hF : Faw a v) (h2v : v.v2 = .string s) (hC : Calls Tryz.prog 12 #[.string s] wq fun e w' => ∃ ro rc, e = .returned (.tuple #[.int .i64 m, .agg #[.int .i64 cd, .int .i64 n, .slice ro ll rc], .int .i64 g]) ∧ RR ro rc w')
    (hQ : ∀ a' w1 w' b ro rc, Faw a' { v with v12 := .int .i64 m, v13 := .pointer (some ⟨b, 0, none⟩), v14 := .int .i64 g } → RR ro rc w1 → w1.heap.size = b → w'.heap[b]? = some (.cells #[.int .i64 cd, .int .i64 n, .slice ro ll rc] 37 (0, 0)) → Below w1.heap.size w1 w' → K a' w') :
    Code.wp Tryz.prog c (Exit.then K fun _ _ _ => False) a wq := by
  have HQ := hide hQ
  clear hQ
  obtain ⟨t', d'⟩ := a
  obtain ⟨v0, v1, v2, v4, v6, v7, v8, v9, v10, v11, v12, v13, v14, v15, v16, v17, v18, v19, v20, v41, v64, v69⟩ := v
  simp only at h2v HQ
  subst h2v
  obtain ⟨hs1, hd1, q0, q1, q2, q4, q6, q7, q8, q9, q10, q11, q12, q13, q14, q15, q16, q17, q18, q19, q20, q41, q64, q69⟩ := hF
  obtain ⟨u, hu⟩ := frame_aw t' hs1
  simp only at hd1 q0 q1 q2 q4 q6 q7 q8 q9 q10 q11 q12 q13 q14 q15 q16 q17 q18 q19 q20 q41 q64 q69
  subst hu hd1
  have e0 : u 0 = v0 := q0
  have e1 : u 1 = v1 := q1
  have e2 : u 2 = .string s := q2
  have e4 : u 4 = v4 := q4
  have e6 : u 6 = v6 := q6
  have e7 : u 7 = v7 := q7
  have e8 : u 8 = v8 := q8
  have e9 : u 9 = v9 := q9
  have e10 : u 10 = v10 := q10
  have e11 : u 11 = v11 := q11
  have e12 : u 12 = v12 := q12
  have e13 : u 13 = v13 := q13
  have e14 : u 14 = v14 := q14
  have e15 : u 15 = v15 := q15
  have e16 : u 16 = v16 := q16
  have e17 : u 17 = v17 := q17
  have e18 : u 18 = v18 := q18
  have e19 : u 19 = v19 := q19
  have e20 : u 20 = v20 := q20
  have e41 : u 41 = v41 := q41
  have e64 : u 64 = v64 := q64
  have e69 : u 69 = v69 := q69
  rw [e0, e1, e2, e4, e6, e7, e8, e9, e10, e11, e12, e13, e14, e15, e16, e17, e18, e19, e20, e41, e64, e69]
  clear q0 e0 q1 e1 q2 e2 q4 e4 q6 e6 q7 e7 q8 e8 q9 e9 q10 e10 q11 e11 q12 e12 q13 e13 q14 e14 q15 e15 q16 e16 q17 e17 q18 e18 q19 e19 q20 e20 q41 e41 q64 e64 q69 e69 hs1
  simp only [Tryz.f4, Option.getD_some, regOf] at hc
  injection hc with hc
  subst hc
  generalize u 3 = u3
  generalize u 5 = u5
  generalize u 21 = u21
  generalize u 22 = u22
  generalize u 23 = u23
  generalize u 24 = u24
  generalize u 25 = u25
  generalize u 26 = u26
  generalize u 27 = u27
  generalize u 28 = u28
  generalize u 29 = u29
  generalize u 30 = u30
  generalize u 31 = u31
  generalize u 32 = u32
  generalize u 33 = u33
  generalize u 34 = u34
  generalize u 35 = u35
  generalize u 36 = u36
  generalize u 37 = u37
  generalize u 38 = u38
  generalize u 39 = u39
  generalize u 40 = u40
  generalize u 42 = u42
  generalize u 43 = u43
  generalize u 44 = u44
  generalize u 45 = u45
  generalize u 46 = u46
  generalize u 47 = u47
  generalize u 48 = u48
  generalize u 49 = u49
  generalize u 50 = u50
  generalize u 51 = u51
  generalize u 52 = u52
  generalize u 53 = u53
  generalize u 54 = u54
  generalize u 55 = u55
  generalize u 56 = u56
  generalize u 57 = u57
  generalize u 58 = u58
  generalize u 59 = u59
  generalize u 60 = u60
  generalize u 61 = u61
  generalize u 62 = u62
  generalize u 63 = u63
  generalize u 65 = u65
  generalize u 66 = u66
  generalize u 67 = u67
  generalize u 68 = u68
  generalize u 70 = u70
  generalize u 71 = u71
  generalize u 72 = u72
  generalize u 73 = u73
  generalize u 74 = u74
  generalize u 75 = u75
  generalize u 76 = u76
  generalize u 77 = u77
  generalize u 78 = u78
  generalize u 79 = u79
  generalize u 80 = u80
  generalize u 81 = u81
  generalize u 82 = u82
  generalize u 83 = u83
  generalize u 84 = u84
  generalize u 85 = u85
  generalize u 86 = u86
  generalize u 87 = u87
  generalize u 88 = u88
  generalize u 89 = u89
  generalize u 90 = u90
  generalize u 91 = u91
  generalize u 92 = u92
  generalize u 93 = u93
  generalize u 94 = u94
  generalize u 95 = u95
  clear u
  have HC := hide hC
  clear hC
  go_wp2_with (go_at_call 12; refine HC.out.mono ?_; rintro e w1 ⟨ro, rc, rfl, r1⟩; have R1 := hide r1; clear r1)
  exact HQ.out _ w1 _ w1.heap.size ro rc ⟨rfl, rfl, rfl, rfl, rfl, rfl, rfl, rfl, rfl, rfl, rfl, rfl, rfl, rfl, rfl, rfl, rfl, rfl, rfl, rfl, rfl, rfl, rfl, rfl⟩ R1.out rfl (heap_alloc_new _ _) ((Below.refl _ _).alloc (Nat.le_refl _) _)
set_option maxHeartbeats 8000000 in
set_option maxRecDepth 100000 in
theorem aw_r8 {K : Act → World → Prop} {c : Code} (hc : regOf (Tryz.f4.body.getD .skip) 8 = some c) (a : Act) {v : Vaw} {wq : World} {s : ByteArray} {m g cd n : Int} {ll : Nat} {RR : Option Addr → Nat → World → Prop} (hF : Faw a v) (h2v : v.v2 = .string s) (hC : Calls Tryz.prog 13 #[.string s] wq fun e w' => ∃ ro rc, e = .returned (.tuple #[.int .i64 m, .agg #[.int .i64 cd, .int .i64 n, .slice ro ll rc], .int .i64 g]) ∧ RR ro rc w')
    (hQ : ∀ a' w1 w' b ro rc, Faw a' { v with v16 := .int .i64 m, v17 := .pointer (some ⟨b, 0, none⟩), v18 := .int .i64 g } → RR ro rc w1 → w1.heap.size = b → w'.heap[b]? = some (.cells #[.int .i64 cd, .int .i64 n, .slice ro ll rc] 37 (0, 0)) → Below w1.heap.size w1 w' → K a' w') :
    Code.wp Tryz.prog c (Exit.then K fun _ _ _ => False) a wq := by
  have HQ := hide hQ
  clear hQ
  obtain ⟨t', d'⟩ := a
  obtain ⟨v0, v1, v2, v4, v6, v7, v8, v9, v10, v11, v12, v13, v14, v15, v16, v17, v18, v19, v20, v41, v64, v69⟩ := v
  simp only at h2v HQ
  subst h2v
  obtain ⟨hs1, hd1, q0, q1, q2, q4, q6, q7, q8, q9, q10, q11, q12, q13, q14, q15, q16, q17, q18, q19, q20, q41, q64, q69⟩ := hF
  obtain ⟨u, hu⟩ := frame_aw t' hs1
  simp only at hd1 q0 q1 q2 q4 q6 q7 q8 q9 q10 q11 q12 q13 q14 q15 q16 q17 q18 q19 q20 q41 q64 q69
  subst hu hd1
  have e0 : u 0 = v0 := q0
  have e1 : u 1 = v1 := q1
  have e2 : u 2 = .string s := q2
  have e4 : u 4 = v4 := q4
  have e6 : u 6 = v6 := q6
  have e7 : u 7 = v7 := q7
  have e8 : u 8 = v8 := q8
  have e9 : u 9 = v9 := q9
  have e10 : u 10 = v10 := q10
  have e11 : u 11 = v11 := q11
  have e12 : u 12 = v12 := q12
  have e13 : u 13 = v13 := q13
  have e14 : u 14 = v14 := q14
  have e15 : u 15 = v15 := q15
  have e16 : u 16 = v16 := q16
  have e17 : u 17 = v17 := q17
  have e18 : u 18 = v18 := q18
  have e19 : u 19 = v19 := q19
  have e20 : u 20 = v20 := q20
  have e41 : u 41 = v41 := q41
  have e64 : u 64 = v64 := q64
  have e69 : u 69 = v69 := q69
  rw [e0, e1, e2, e4, e6, e7, e8, e9, e10, e11, e12, e13, e14, e15, e16, e17, e18, e19, e20, e41, e64, e69]
  clear q0 e0 q1 e1 q2 e2 q4 e4 q6 e6 q7 e7 q8 e8 q9 e9 q10 e10 q11 e11 q12 e12 q13 e13 q14 e14 q15 e15 q16 e16 q17 e17 q18 e18 q19 e19 q20 e20 q41 e41 q64 e64 q69 e69 hs1
  simp only [Tryz.f4, Option.getD_some, regOf] at hc
  injection hc with hc
  subst hc
  generalize u 3 = u3
  generalize u 5 = u5
  generalize u 21 = u21
  generalize u 22 = u22
  generalize u 23 = u23
  generalize u 24 = u24
  generalize u 25 = u25
  generalize u 26 = u26
  generalize u 27 = u27
  generalize u 28 = u28
  generalize u 29 = u29
  generalize u 30 = u30
  generalize u 31 = u31
  generalize u 32 = u32
  generalize u 33 = u33
  generalize u 34 = u34
  generalize u 35 = u35
  generalize u 36 = u36
  generalize u 37 = u37
  generalize u 38 = u38
  generalize u 39 = u39
  generalize u 40 = u40
  generalize u 42 = u42
  generalize u 43 = u43
  generalize u 44 = u44
  generalize u 45 = u45
  generalize u 46 = u46
  generalize u 47 = u47
  generalize u 48 = u48
  generalize u 49 = u49
  generalize u 50 = u50
  generalize u 51 = u51
  generalize u 52 = u52
  generalize u 53 = u53
  generalize u 54 = u54
  generalize u 55 = u55
  generalize u 56 = u56
  generalize u 57 = u57
  generalize u 58 = u58
  generalize u 59 = u59
  generalize u 60 = u60
  generalize u 61 = u61
  generalize u 62 = u62
  generalize u 63 = u63
  generalize u 65 = u65
  generalize u 66 = u66
  generalize u 67 = u67
  generalize u 68 = u68
  generalize u 70 = u70
  generalize u 71 = u71
  generalize u 72 = u72
  generalize u 73 = u73
  generalize u 74 = u74
  generalize u 75 = u75
  generalize u 76 = u76
  generalize u 77 = u77
  generalize u 78 = u78
  generalize u 79 = u79
  generalize u 80 = u80
  generalize u 81 = u81
  generalize u 82 = u82
  generalize u 83 = u83
  generalize u 84 = u84
  generalize u 85 = u85
  generalize u 86 = u86
  generalize u 87 = u87
  generalize u 88 = u88
  generalize u 89 = u89
  generalize u 90 = u90
  generalize u 91 = u91
  generalize u 92 = u92
  generalize u 93 = u93
  generalize u 94 = u94
  generalize u 95 = u95
  clear u
  have HC := hide hC
  clear hC
  go_wp2_with (go_at_call 13; refine HC.out.mono ?_; rintro e w1 ⟨ro, rc, rfl, r1⟩; have R1 := hide r1; clear r1)
  exact HQ.out _ w1 _ w1.heap.size ro rc ⟨rfl, rfl, rfl, rfl, rfl, rfl, rfl, rfl, rfl, rfl, rfl, rfl, rfl, rfl, rfl, rfl, rfl, rfl, rfl, rfl, rfl, rfl, rfl, rfl⟩ R1.out rfl (heap_alloc_new _ _) ((Below.refl _ _).alloc (Nat.le_refl _) _)
set_option maxHeartbeats 8000000 in
set_option maxRecDepth 100000 in
theorem aw_r5 {K : Act → World → Prop} {c : Code} (hc : regOf (Tryz.f4.body.getD .skip) 5 = some c) (a : Act) {v : Vaw} {wq : World}  (hF : Faw a v) (hQ : ∀ a', Faw a' { v with v15 := .int .i64 ((0 : Nat) : Int) } → K a' wq) :
    Code.wp Tryz.prog c (Exit.then K fun _ _ _ => False) a wq := by
  have HQ := hide hQ
  clear hQ
  obtain ⟨t', d'⟩ := a
  obtain ⟨v0, v1, v2, v4, v6, v7, v8, v9, v10, v11, v12, v13, v14, v15, v16, v17, v18, v19, v20, v41, v64, v69⟩ := v
  obtain ⟨hs1, hd1, q0, q1, q2, q4, q6, q7, q8, q9, q10, q11, q12, q13, q14, q15, q16, q17, q18, q19, q20, q41, q64, q69⟩ := hF
  obtain ⟨u, hu⟩ := frame_aw t' hs1
  simp only at hd1 q0 q1 q2 q4 q6 q7 q8 q9 q10 q11 q12 q13 q14 q15 q16 q17 q18 q19 q20 q41 q64 q69
  subst hu hd1
  have e0 : u 0 = v0 := q0
  have e1 : u 1 = v1 := q1
  have e2 : u 2 = v2 := q2
  have e4 : u 4 = v4 := q4
  have e6 : u 6 = v6 := q6
  have e7 : u 7 = v7 := q7
  have e8 : u 8 = v8 := q8
  have e9 : u 9 = v9 := q9
  have e10 : u 10 = v10 := q10
  have e11 : u 11 = v11 := q11
  have e12 : u 12 = v12 := q12
  have e13 : u 13 = v13 := q13
  have e14 : u 14 = v14 := q14
  have e15 : u 15 = v15 := q15
  have e16 : u 16 = v16 := q16
  have e17 : u 17 = v17 := q17
  have e18 : u 18 = v18 := q18
  have e19 : u 19 = v19 := q19
  have e20 : u 20 = v20 := q20
  have e41 : u 41 = v41 := q41
  have e64 : u 64 = v64 := q64
  have e69 : u 69 = v69 := q69
  rw [e0, e1, e2, e4, e6, e7, e8, e9, e10, e11, e12, e13, e14, e15, e16, e17, e18, e19, e20, e41, e64, e69]
  clear q0 e0 q1 e1 q2 e2 q4 e4 q6 e6 q7 e7 q8 e8 q9 e9 q10 e10 q11 e11 q12 e12 q13 e13 q14 e14 q15 e15 q16 e16 q17 e17 q18 e18 q19 e19 q20 e20 q41 e41 q64 e64 q69 e69 hs1
  simp only [Tryz.f4, Option.getD_some, regOf] at hc
  injection hc with hc
  subst hc
  generalize u 3 = u3
  generalize u 5 = u5
  generalize u 21 = u21
  generalize u 22 = u22
  generalize u 23 = u23
  generalize u 24 = u24
  generalize u 25 = u25
  generalize u 26 = u26
  generalize u 27 = u27
  generalize u 28 = u28
  generalize u 29 = u29
  generalize u 30 = u30
  generalize u 31 = u31
  generalize u 32 = u32
  generalize u 33 = u33
  generalize u 34 = u34
  generalize u 35 = u35
  generalize u 36 = u36
  generalize u 37 = u37
  generalize u 38 = u38
  generalize u 39 = u39
  generalize u 40 = u40
  generalize u 42 = u42
  generalize u 43 = u43
  generalize u 44 = u44
  generalize u 45 = u45
  generalize u 46 = u46
  generalize u 47 = u47
  generalize u 48 = u48
  generalize u 49 = u49
  generalize u 50 = u50
  generalize u 51 = u51
  generalize u 52 = u52
  generalize u 53 = u53
  generalize u 54 = u54
  generalize u 55 = u55
  generalize u 56 = u56
  generalize u 57 = u57
  generalize u 58 = u58
  generalize u 59 = u59
  generalize u 60 = u60
  generalize u 61 = u61
  generalize u 62 = u62
  generalize u 63 = u63
  generalize u 65 = u65
  generalize u 66 = u66
  generalize u 67 = u67
  generalize u 68 = u68
  generalize u 70 = u70
  generalize u 71 = u71
  generalize u 72 = u72
  generalize u 73 = u73
  generalize u 74 = u74
  generalize u 75 = u75
  generalize u 76 = u76
  generalize u 77 = u77
  generalize u 78 = u78
  generalize u 79 = u79
  generalize u 80 = u80
  generalize u 81 = u81
  generalize u 82 = u82
  generalize u 83 = u83
  generalize u 84 = u84
  generalize u 85 = u85
  generalize u 86 = u86
  generalize u 87 = u87
  generalize u 88 = u88
  generalize u 89 = u89
  generalize u 90 = u90
  generalize u 91 = u91
  generalize u 92 = u92
  generalize u 93 = u93
  generalize u 94 = u94
  generalize u 95 = u95
  clear u
  go_wp2
  exact HQ.out _ ⟨rfl, rfl, rfl, rfl, rfl, rfl, rfl, rfl, rfl, rfl, rfl, rfl, rfl, rfl, rfl, rfl, rfl, rfl, rfl, rfl, rfl, rfl, rfl, rfl⟩
set_option maxHeartbeats 8000000 in
set_option maxRecDepth 100000 in
theorem aw_r6 {K : Act → World → Prop} {c : Code} (hc : regOf (Tryz.f4.body.getD .skip) 6 = some c) (a : Act) {v : Vaw} {wq : World} {t : Nat} (hF : Faw a v) (h15v : v.v15 = .int .i64 (t : Int)) (hQ : ∀ a', Faw a' { v with v41 := .bool (decide (t < 2)) } → K a' wq) :
    Code.wp Tryz.prog c (Exit.then K fun _ _ _ => False) a wq := by
  have HQ := hide hQ
  clear hQ
  obtain ⟨t', d'⟩ := a
  obtain ⟨v0, v1, v2, v4, v6, v7, v8, v9, v10, v11, v12, v13, v14, v15, v16, v17, v18, v19, v20, v41, v64, v69⟩ := v
  simp only at h15v HQ
  subst h15v
  obtain ⟨hs1, hd1, q0, q1, q2, q4, q6, q7, q8, q9, q10, q11, q12, q13, q14, q15, q16, q17, q18, q19, q20, q41, q64, q69⟩ := hF
  obtain ⟨u, hu⟩ := frame_aw t' hs1
  simp only at hd1 q0 q1 q2 q4 q6 q7 q8 q9 q10 q11 q12 q13 q14 q15 q16 q17 q18 q19 q20 q41 q64 q69
  subst hu hd1
  have e0 : u 0 = v0 := q0
  have e1 : u 1 = v1 := q1
  have e2 : u 2 = v2 := q2
  have e4 : u 4 = v4 := q4
  have e6 : u 6 = v6 := q6
  have e7 : u 7 = v7 := q7
  have e8 : u 8 = v8 := q8
  have e9 : u 9 = v9 := q9
  have e10 : u 10 = v10 := q10
  have e11 : u 11 = v11 := q11
  have e12 : u 12 = v12 := q12
  have e13 : u 13 = v13 := q13
  have e14 : u 14 = v14 := q14
  have e15 : u 15 = .int .i64 (t : Int) := q15
  have e16 : u 16 = v16 := q16
  have e17 : u 17 = v17 := q17
  have e18 : u 18 = v18 := q18
  have e19 : u 19 = v19 := q19
  have e20 : u 20 = v20 := q20
  have e41 : u 41 = v41 := q41
  have e64 : u 64 = v64 := q64
  have e69 : u 69 = v69 := q69
  rw [e0, e1, e2, e4, e6, e7, e8, e9, e10, e11, e12, e13, e14, e15, e16, e17, e18, e19, e20, e41, e64, e69]
  clear q0 e0 q1 e1 q2 e2 q4 e4 q6 e6 q7 e7 q8 e8 q9 e9 q10 e10 q11 e11 q12 e12 q13 e13 q14 e14 q15 e15 q16 e16 q17 e17 q18 e18 q19 e19 q20 e20 q41 e41 q64 e64 q69 e69 hs1
  simp only [Tryz.f4, Option.getD_some, regOf] at hc
  injection hc with hc
  subst hc
  generalize u 3 = u3
  generalize u 5 = u5
  generalize u 21 = u21
  generalize u 22 = u22
  generalize u 23 = u23
  generalize u 24 = u24
  generalize u 25 = u25
  generalize u 26 = u26
  generalize u 27 = u27
  generalize u 28 = u28
  generalize u 29 = u29
  generalize u 30 = u30
  generalize u 31 = u31
  generalize u 32 = u32
  generalize u 33 = u33
  generalize u 34 = u34
  generalize u 35 = u35
  generalize u 36 = u36
  generalize u 37 = u37
  generalize u 38 = u38
  generalize u 39 = u39
  generalize u 40 = u40
  generalize u 42 = u42
  generalize u 43 = u43
  generalize u 44 = u44
  generalize u 45 = u45
  generalize u 46 = u46
  generalize u 47 = u47
  generalize u 48 = u48
  generalize u 49 = u49
  generalize u 50 = u50
  generalize u 51 = u51
  generalize u 52 = u52
  generalize u 53 = u53
  generalize u 54 = u54
  generalize u 55 = u55
  generalize u 56 = u56
  generalize u 57 = u57
  generalize u 58 = u58
  generalize u 59 = u59
  generalize u 60 = u60
  generalize u 61 = u61
  generalize u 62 = u62
  generalize u 63 = u63
  generalize u 65 = u65
  generalize u 66 = u66
  generalize u 67 = u67
  generalize u 68 = u68
  generalize u 70 = u70
  generalize u 71 = u71
  generalize u 72 = u72
  generalize u 73 = u73
  generalize u 74 = u74
  generalize u 75 = u75
  generalize u 76 = u76
  generalize u 77 = u77
  generalize u 78 = u78
  generalize u 79 = u79
  generalize u 80 = u80
  generalize u 81 = u81
  generalize u 82 = u82
  generalize u 83 = u83
  generalize u 84 = u84
  generalize u 85 = u85
  generalize u 86 = u86
  generalize u 87 = u87
  generalize u 88 = u88
  generalize u 89 = u89
  generalize u 90 = u90
  generalize u 91 = u91
  generalize u 92 = u92
  generalize u 93 = u93
  generalize u 94 = u94
  generalize u 95 = u95
  clear u
  by_cases h1 : t < 2
  · rw [decide_eq_true h1] at HQ
    have g : (t : Int) < (2 : Int) := by omega
    go_wp2
    exact HQ.out _ ⟨rfl, rfl, rfl, rfl, rfl, rfl, rfl, rfl, rfl, rfl, rfl, rfl, rfl, rfl, rfl, rfl, rfl, rfl, rfl, rfl, rfl, (by first | rfl | (simp; done) | (simp; omega)), rfl, rfl⟩
  · rw [decide_eq_false h1] at HQ
    have g : ¬ (t : Int) < (2 : Int) := by omega
    go_wp2
    exact HQ.out _ ⟨rfl, rfl, rfl, rfl, rfl, rfl, rfl, rfl, rfl, rfl, rfl, rfl, rfl, rfl, rfl, rfl, rfl, rfl, rfl, rfl, rfl, (by first | rfl | (simp; done) | (simp; omega)), rfl, rfl⟩
set_option maxHeartbeats 8000000 in
set_option maxRecDepth 100000 in
theorem aw_r9 {K : Act → World → Prop} {c : Code} (hc : regOf (Tryz.f4.body.getD .skip) 9 = some c) (a : Act) {v : Vaw} {wq : World} {b b2 : Nat} {cd n : Int} {ll : Nat} {ro ro2 : Option Addr} {rc rc2 : Nat} (hF : Faw a v) (h17v : v.v17 = .pointer (some ⟨b, 0, none⟩)) (h13v : v.v13 = .pointer (some ⟨b2, 0, none⟩)) (hB : wq.heap[b]? = some (.cells #[.int .i64 cd, .int .i64 n, .slice ro ll rc] 37 (0, 0))) (hB2 : wq.heap[b2]? = some (.cells #[.int .i64 cd, .int .i64 n, .slice ro2 ll rc2] 37 (0, 0))) (hC : ∀ W, Below wq.heap.size wq W → Calls Tryz.prog 14 #[.agg #[.int .i64 cd, .int .i64 n, .slice ro ll rc], .agg #[.int .i64 cd, .int .i64 n, .slice ro2 ll rc2]] W fun e w' => e = .returned (.bool true) ∧ Below W.heap.size W w')
    (hQ : ∀ a' w', Faw a' { v with v19 := .bool true } → Below wq.heap.size wq w' → K a' w') :
    Code.wp Tryz.prog c (Exit.then K fun _ _ _ => False) a wq := by
  have HQ := hide hQ
  clear hQ
  obtain ⟨t', d'⟩ := a
  obtain ⟨v0, v1, v2, v4, v6, v7, v8, v9, v10, v11, v12, v13, v14, v15, v16, v17, v18, v19, v20, v41, v64, v69⟩ := v
  simp only at h17v h13v HQ
  subst h17v h13v
  obtain ⟨hs1, hd1, q0, q1, q2, q4, q6, q7, q8, q9, q10, q11, q12, q13, q14, q15, q16, q17, q18, q19, q20, q41, q64, q69⟩ := hF
  obtain ⟨u, hu⟩ := frame_aw t' hs1
  simp only at hd1 q0 q1 q2 q4 q6 q7 q8 q9 q10 q11 q12 q13 q14 q15 q16 q17 q18 q19 q20 q41 q64 q69
  subst hu hd1
  have e0 : u 0 = v0 := q0
  have e1 : u 1 = v1 := q1
  have e2 : u 2 = v2 := q2
  have e4 : u 4 = v4 := q4
  have e6 : u 6 = v6 := q6
  have e7 : u 7 = v7 := q7
  have e8 : u 8 = v8 := q8
  have e9 : u 9 = v9 := q9
  have e10 : u 10 = v10 := q10
  have e11 : u 11 = v11 := q11
  have e12 : u 12 = v12 := q12
  have e13 : u 13 = .pointer (some ⟨b2, 0, none⟩) := q13
  have e14 : u 14 = v14 := q14
  have e15 : u 15 = v15 := q15
  have e16 : u 16 = v16 := q16
  have e17 : u 17 = .pointer (some ⟨b, 0, none⟩) := q17
  have e18 : u 18 = v18 := q18
  have e19 : u 19 = v19 := q19
  have e20 : u 20 = v20 := q20
  have e41 : u 41 = v41 := q41
  have e64 : u 64 = v64 := q64
  have e69 : u 69 = v69 := q69
  rw [e0, e1, e2, e4, e6, e7, e8, e9, e10, e11, e12, e13, e14, e15, e16, e17, e18, e19, e20, e41, e64, e69]
  clear q0 e0 q1 e1 q2 e2 q4 e4 q6 e6 q7 e7 q8 e8 q9 e9 q10 e10 q11 e11 q12 e12 q13 e13 q14 e14 q15 e15 q16 e16 q17 e17 q18 e18 q19 e19 q20 e20 q41 e41 q64 e64 q69 e69 hs1
  simp only [Tryz.f4, Option.getD_some, regOf] at hc
  injection hc with hc
  subst hc
  generalize u 3 = u3
  generalize u 5 = u5
  generalize u 21 = u21
  generalize u 22 = u22
  generalize u 23 = u23
  generalize u 24 = u24
  generalize u 25 = u25
  generalize u 26 = u26
  generalize u 27 = u27
  generalize u 28 = u28
  generalize u 29 = u29
  generalize u 30 = u30
  generalize u 31 = u31
  generalize u 32 = u32
  generalize u 33 = u33
  generalize u 34 = u34
  generalize u 35 = u35
  generalize u 36 = u36
  generalize u 37 = u37
  generalize u 38 = u38
  generalize u 39 = u39
  generalize u 40 = u40
  generalize u 42 = u42
  generalize u 43 = u43
  generalize u 44 = u44
  generalize u 45 = u45
  generalize u 46 = u46
  generalize u 47 = u47
  generalize u 48 = u48
  generalize u 49 = u49
  generalize u 50 = u50
  generalize u 51 = u51
  generalize u 52 = u52
  generalize u 53 = u53
  generalize u 54 = u54
  generalize u 55 = u55
  generalize u 56 = u56
  generalize u 57 = u57
  generalize u 58 = u58
  generalize u 59 = u59
  generalize u 60 = u60
  generalize u 61 = u61
  generalize u 62 = u62
  generalize u 63 = u63
  generalize u 65 = u65
  generalize u 66 = u66
  generalize u 67 = u67
  generalize u 68 = u68
  generalize u 70 = u70
  generalize u 71 = u71
  generalize u 72 = u72
  generalize u 73 = u73
  generalize u 74 = u74
  generalize u 75 = u75
  generalize u 76 = u76
  generalize u 77 = u77
  generalize u 78 = u78
  generalize u 79 = u79
  generalize u 80 = u80
  generalize u 81 = u81
  generalize u 82 = u82
  generalize u 83 = u83
  generalize u 84 = u84
  generalize u 85 = u85
  generalize u 86 = u86
  generalize u 87 = u87
  generalize u 88 = u88
  generalize u 89 = u89
  generalize u 90 = u90
  generalize u 91 = u91
  generalize u 92 = u92
  generalize u 93 = u93
  generalize u 94 = u94
  generalize u 95 = u95
  clear u
  have HC := hide hC
  have c0 := box_cell hB 0 rfl
  have c1 := box_cell hB 1 rfl
  have c2 := box_cell hB 2 rfl
  have d0 := box_cell hB2 0 rfl
  have d1 := box_cell hB2 1 rfl
  have d2 := box_cell hB2 2 rfl
  clear hC hB hB2
  go_wp2_with (go_at_call 14; refine (HC.out _ (Below.refl _ _)).mono ?_; rintro e w1 ⟨rfl, b1⟩)
  exact HQ.out _ _ ⟨rfl, rfl, rfl, rfl, rfl, rfl, rfl, rfl, rfl, rfl, rfl, rfl, rfl, rfl, rfl, rfl, rfl, rfl, rfl, rfl, rfl, rfl, rfl, rfl⟩ b1
set_option maxHeartbeats 8000000 in
set_option maxRecDepth 100000 in
theorem aw_r10 {K : Act → World → Prop} {c : Code} (hc : regOf (Tryz.f4.body.getD .skip) 10 = some c) (a : Act) {v : Vaw} {wq : World} {m g : Int} (hF : Faw a v) (h12v : v.v12 = .int .i64 m) (h14v : v.v14 = .int .i64 g) (h16v : v.v16 = .int .i64 m) (h18v : v.v18 = .int .i64 g) (h19v : v.v19 = .bool true) (hQ : ∀ a', Faw a' { v with v64 := .bool false } → K a' wq) :
    Code.wp Tryz.prog c (Exit.then K fun _ _ _ => False) a wq := by
  have HQ := hide hQ
  clear hQ
  obtain ⟨t', d'⟩ := a
  obtain ⟨v0, v1, v2, v4, v6, v7, v8, v9, v10, v11, v12, v13, v14, v15, v16, v17, v18, v19, v20, v41, v64, v69⟩ := v
  simp only at h12v h14v h16v h18v h19v HQ
  subst h12v h14v h16v h18v h19v
  obtain ⟨hs1, hd1, q0, q1, q2, q4, q6, q7, q8, q9, q10, q11, q12, q13, q14, q15, q16, q17, q18, q19, q20, q41, q64, q69⟩ := hF
  obtain ⟨u, hu⟩ := frame_aw t' hs1
  simp only at hd1 q0 q1 q2 q4 q6 q7 q8 q9 q10 q11 q12 q13 q14 q15 q16 q17 q18 q19 q20 q41 q64 q69
  subst hu hd1
  have e0 : u 0 = v0 := q0
  have e1 : u 1 = v1 := q1
  have e2 : u 2 = v2 := q2
  have e4 : u 4 = v4 := q4
  have e6 : u 6 = v6 := q6
  have e7 : u 7 = v7 := q7
  have e8 : u 8 = v8 := q8
  have e9 : u 9 = v9 := q9
  have e10 : u 10 = v10 := q10
  have e11 : u 11 = v11 := q11
  have e12 : u 12 = .int .i64 m := q12
  have e13 : u 13 = v13 := q13
  have e14 : u 14 = .int .i64 g := q14
  have e15 : u 15 = v15 := q15
  have e16 : u 16 = .int .i64 m := q16
  have e17 : u 17 = v17 := q17
  have e18 : u 18 = .int .i64 g := q18
  have e19 : u 19 = .bool true := q19
  have e20 : u 20 = v20 := q20
  have e41 : u 41 = v41 := q41
  have e64 : u 64 = v64 := q64
  have e69 : u 69 = v69 := q69
  rw [e0, e1, e2, e4, e6, e7, e8, e9, e10, e11, e12, e13, e14, e15, e16, e17, e18, e19, e20, e41, e64, e69]
  clear q0 e0 q1 e1 q2 e2 q4 e4 q6 e6 q7 e7 q8 e8 q9 e9 q10 e10 q11 e11 q12 e12 q13 e13 q14 e14 q15 e15 q16 e16 q17 e17 q18 e18 q19 e19 q20 e20 q41 e41 q64 e64 q69 e69 hs1
  simp only [Tryz.f4, Option.getD_some, regOf] at hc
  injection hc with hc
  subst hc
  generalize u 3 = u3
  generalize u 5 = u5
  generalize u 21 = u21
  generalize u 22 = u22
  generalize u 23 = u23
  generalize u 24 = u24
  generalize u 25 = u25
  generalize u 26 = u26
  generalize u 27 = u27
  generalize u 28 = u28
  generalize u 29 = u29
  generalize u 30 = u30
  generalize u 31 = u31
  generalize u 32 = u32
  generalize u 33 = u33
  generalize u 34 = u34
  generalize u 35 = u35
  generalize u 36 = u36
  generalize u 37 = u37
  generalize u 38 = u38
  generalize u 39 = u39
  generalize u 40 = u40
  generalize u 42 = u42
  generalize u 43 = u43
  generalize u 44 = u44
  generalize u 45 = u45
  generalize u 46 = u46
  generalize u 47 = u47
  generalize u 48 = u48
  generalize u 49 = u49
  generalize u 50 = u50
  generalize u 51 = u51
  generalize u 52 = u52
  generalize u 53 = u53
  generalize u 54 = u54
  generalize u 55 = u55
  generalize u 56 = u56
  generalize u 57 = u57
  generalize u 58 = u58
  generalize u 59 = u59
  generalize u 60 = u60
  generalize u 61 = u61
  generalize u 62 = u62
  generalize u 63 = u63
  generalize u 65 = u65
  generalize u 66 = u66
  generalize u 67 = u67
  generalize u 68 = u68
  generalize u 70 = u70
  generalize u 71 = u71
  generalize u 72 = u72
  generalize u 73 = u73
  generalize u 74 = u74
  generalize u 75 = u75
  generalize u 76 = u76
  generalize u 77 = u77
  generalize u 78 = u78
  generalize u 79 = u79
  generalize u 80 = u80
  generalize u 81 = u81
  generalize u 82 = u82
  generalize u 83 = u83
  generalize u 84 = u84
  generalize u 85 = u85
  generalize u 86 = u86
  generalize u 87 = u87
  generalize u 88 = u88
  generalize u 89 = u89
  generalize u 90 = u90
  generalize u 91 = u91
  generalize u 92 = u92
  generalize u 93 = u93
  generalize u 94 = u94
  generalize u 95 = u95
  clear u
  go_wp2
  exact HQ.out _ ⟨rfl, rfl, rfl, rfl, rfl, rfl, rfl, rfl, rfl, rfl, rfl, rfl, rfl, rfl, rfl, rfl, rfl, rfl, rfl, rfl, rfl, rfl, (by first | rfl | (simp; done)), rfl⟩
set_option maxHeartbeats 8000000 in
set_option maxRecDepth 100000 in
theorem aw_r12 {K : Act → World → Prop} {c : Code} (hc : regOf (Tryz.f4.body.getD .skip) 12 = some c) (a : Act) {v : Vaw} {wq : World}  (hF : Faw a v) (hQ : ∀ a', Faw a' { v with v20 := .int .i64 ((0 : Nat) : Int) } → K a' wq) :
    Code.wp Tryz.prog c (Exit.then K fun _ _ _ => False) a wq := by
  have HQ := hide hQ
  clear hQ
  obtain ⟨t', d'⟩ := a
  obtain ⟨v0, v1, v2, v4, v6, v7, v8, v9, v10, v11, v12, v13, v14, v15, v16, v17, v18, v19, v20, v41, v64, v69⟩ := v
  obtain ⟨hs1, hd1, q0, q1, q2, q4, q6, q7, q8, q9, q10, q11, q12, q13, q14, q15, q16, q17, q18, q19, q20, q41, q64, q69⟩ := hF
  obtain ⟨u, hu⟩ := frame_aw t' hs1
  simp only at hd1 q0 q1 q2 q4 q6 q7 q8 q9 q10 q11 q12 q13 q14 q15 q16 q17 q18 q19 q20 q41 q64 q69
  subst hu hd1
  have e0 : u 0 = v0 := q0
  have e1 : u 1 = v1 := q1
  have e2 : u 2 = v2 := q2
  have e4 : u 4 = v4 := q4
  have e6 : u 6 = v6 := q6
  have e7 : u 7 = v7 := q7
  have e8 : u 8 = v8 := q8
  have e9 : u 9 = v9 := q9
  have e10 : u 10 = v10 := q10
  have e11 : u 11 = v11 := q11
  have e12 : u 12 = v12 := q12
  have e13 : u 13 = v13 := q13
  have e14 : u 14 = v14 := q14
  have e15 : u 15 = v15 := q15
  have e16 : u 16 = v16 := q16
  have e17 : u 17 = v17 := q17
  have e18 : u 18 = v18 := q18
  have e19 : u 19 = v19 := q19
  have e20 : u 20 = v20 := q20
  have e41 : u 41 = v41 := q41
  have e64 : u 64 = v64 := q64
  have e69 : u 69 = v69 := q69
  rw [e0, e1, e2, e4, e6, e7, e8, e9, e10, e11, e12, e13, e14, e15, e16, e17, e18, e19, e20, e41, e64, e69]
  clear q0 e0 q1 e1 q2 e2 q4 e4 q6 e6 q7 e7 q8 e8 q9 e9 q10 e10 q11 e11 q12 e12 q13 e13 q14 e14 q15 e15 q16 e16 q17 e17 q18 e18 q19 e19 q20 e20 q41 e41 q64 e64 q69 e69 hs1
  simp only [Tryz.f4, Option.getD_some, regOf] at hc
  injection hc with hc
  subst hc
  generalize u 3 = u3
  generalize u 5 = u5
  generalize u 21 = u21
  generalize u 22 = u22
  generalize u 23 = u23
  generalize u 24 = u24
  generalize u 25 = u25
  generalize u 26 = u26
  generalize u 27 = u27
  generalize u 28 = u28
  generalize u 29 = u29
  generalize u 30 = u30
  generalize u 31 = u31
  generalize u 32 = u32
  generalize u 33 = u33
  generalize u 34 = u34
  generalize u 35 = u35
  generalize u 36 = u36
  generalize u 37 = u37
  generalize u 38 = u38
  generalize u 39 = u39
  generalize u 40 = u40
  generalize u 42 = u42
  generalize u 43 = u43
  generalize u 44 = u44
  generalize u 45 = u45
  generalize u 46 = u46
  generalize u 47 = u47
  generalize u 48 = u48
  generalize u 49 = u49
  generalize u 50 = u50
  generalize u 51 = u51
  generalize u 52 = u52
  generalize u 53 = u53
  generalize u 54 = u54
  generalize u 55 = u55
  generalize u 56 = u56
  generalize u 57 = u57
  generalize u 58 = u58
  generalize u 59 = u59
  generalize u 60 = u60
  generalize u 61 = u61
  generalize u 62 = u62
  generalize u 63 = u63
  generalize u 65 = u65
  generalize u 66 = u66
  generalize u 67 = u67
  generalize u 68 = u68
  generalize u 70 = u70
  generalize u 71 = u71
  generalize u 72 = u72
  generalize u 73 = u73
  generalize u 74 = u74
  generalize u 75 = u75
  generalize u 76 = u76
  generalize u 77 = u77
  generalize u 78 = u78
  generalize u 79 = u79
  generalize u 80 = u80
  generalize u 81 = u81
  generalize u 82 = u82
  generalize u 83 = u83
  generalize u 84 = u84
  generalize u 85 = u85
  generalize u 86 = u86
  generalize u 87 = u87
  generalize u 88 = u88
  generalize u 89 = u89
  generalize u 90 = u90
  generalize u 91 = u91
  generalize u 92 = u92
  generalize u 93 = u93
  generalize u 94 = u94
  generalize u 95 = u95
  clear u
  go_wp2
  exact HQ.out _ ⟨rfl, rfl, rfl, rfl, rfl, rfl, rfl, rfl, rfl, rfl, rfl, rfl, rfl, rfl, rfl, rfl, rfl, rfl, rfl, rfl, rfl, rfl, rfl, rfl⟩
set_option maxHeartbeats 8000000 in
set_option maxRecDepth 100000 in
theorem aw_r13 {K : Act → World → Prop} {c : Code} (hc : regOf (Tryz.f4.body.getD .skip) 13 = some c) (a : Act) {v : Vaw} {wq : World} {b i : Nat} {cd n : Int} {ao : Option Addr} {ll cap : Nat} (hF : Faw a v) (h17v : v.v17 = .pointer (some ⟨b, 0, none⟩)) (h20v : v.v20 = .int .i64 (i : Int)) (hB : wq.heap[b]? = some (.cells #[.int .i64 cd, .int .i64 n, .slice ao ll cap] 37 (0, 0)))
    (hQ : ∀ a', Faw a' { v with v69 := .bool (decide (i < ll)) } → K a' wq) :
    Code.wp Tryz.prog c (Exit.then K fun _ _ _ => False) a wq := by
  have HQ := hide hQ
  clear hQ
  obtain ⟨t', d'⟩ := a
  obtain ⟨v0, v1, v2, v4, v6, v7, v8, v9, v10, v11, v12, v13, v14, v15, v16, v17, v18, v19, v20, v41, v64, v69⟩ := v
  simp only at h17v h20v HQ
  subst h17v h20v
  obtain ⟨hs1, hd1, q0, q1, q2, q4, q6, q7, q8, q9, q10, q11, q12, q13, q14, q15, q16, q17, q18, q19, q20, q41, q64, q69⟩ := hF
  obtain ⟨u, hu⟩ := frame_aw t' hs1
  simp only at hd1 q0 q1 q2 q4 q6 q7 q8 q9 q10 q11 q12 q13 q14 q15 q16 q17 q18 q19 q20 q41 q64 q69
  subst hu hd1
  have e0 : u 0 = v0 := q0
  have e1 : u 1 = v1 := q1
  have e2 : u 2 = v2 := q2
  have e4 : u 4 = v4 := q4
  have e6 : u 6 = v6 := q6
  have e7 : u 7 = v7 := q7
  have e8 : u 8 = v8 := q8
  have e9 : u 9 = v9 := q9
  have e10 : u 10 = v10 := q10
  have e11 : u 11 = v11 := q11
  have e12 : u 12 = v12 := q12
  have e13 : u 13 = v13 := q13
  have e14 : u 14 = v14 := q14
  have e15 : u 15 = v15 := q15
  have e16 : u 16 = v16 := q16
  have e17 : u 17 = .pointer (some ⟨b, 0, none⟩) := q17
  have e18 : u 18 = v18 := q18
  have e19 : u 19 = v19 := q19
  have e20 : u 20 = .int .i64 (i : Int) := q20
  have e41 : u 41 = v41 := q41
  have e64 : u 64 = v64 := q64
  have e69 : u 69 = v69 := q69
  rw [e0, e1, e2, e4, e6, e7, e8, e9, e10, e11, e12, e13, e14, e15, e16, e17, e18, e19, e20, e41, e64, e69]
  clear q0 e0 q1 e1 q2 e2 q4 e4 q6 e6 q7 e7 q8 e8 q9 e9 q10 e10 q11 e11 q12 e12 q13 e13 q14 e14 q15 e15 q16 e16 q17 e17 q18 e18 q19 e19 q20 e20 q41 e41 q64 e64 q69 e69 hs1
  simp only [Tryz.f4, Option.getD_some, regOf] at hc
  injection hc with hc
  subst hc
  generalize u 3 = u3
  generalize u 5 = u5
  generalize u 21 = u21
  generalize u 22 = u22
  generalize u 23 = u23
  generalize u 24 = u24
  generalize u 25 = u25
  generalize u 26 = u26
  generalize u 27 = u27
  generalize u 28 = u28
  generalize u 29 = u29
  generalize u 30 = u30
  generalize u 31 = u31
  generalize u 32 = u32
  generalize u 33 = u33
  generalize u 34 = u34
  generalize u 35 = u35
  generalize u 36 = u36
  generalize u 37 = u37
  generalize u 38 = u38
  generalize u 39 = u39
  generalize u 40 = u40
  generalize u 42 = u42
  generalize u 43 = u43
  generalize u 44 = u44
  generalize u 45 = u45
  generalize u 46 = u46
  generalize u 47 = u47
  generalize u 48 = u48
  generalize u 49 = u49
  generalize u 50 = u50
  generalize u 51 = u51
  generalize u 52 = u52
  generalize u 53 = u53
  generalize u 54 = u54
  generalize u 55 = u55
  generalize u 56 = u56
  generalize u 57 = u57
  generalize u 58 = u58
  generalize u 59 = u59
  generalize u 60 = u60
  generalize u 61 = u61
  generalize u 62 = u62
  generalize u 63 = u63
  generalize u 65 = u65
  generalize u 66 = u66
  generalize u 67 = u67
  generalize u 68 = u68
  generalize u 70 = u70
  generalize u 71 = u71
  generalize u 72 = u72
  generalize u 73 = u73
  generalize u 74 = u74
  generalize u 75 = u75
  generalize u 76 = u76
  generalize u 77 = u77
  generalize u 78 = u78
  generalize u 79 = u79
  generalize u 80 = u80
  generalize u 81 = u81
  generalize u 82 = u82
  generalize u 83 = u83
  generalize u 84 = u84
  generalize u 85 = u85
  generalize u 86 = u86
  generalize u 87 = u87
  generalize u 88 = u88
  generalize u 89 = u89
  generalize u 90 = u90
  generalize u 91 = u91
  generalize u 92 = u92
  generalize u 93 = u93
  generalize u 94 = u94
  generalize u 95 = u95
  clear u
  have c0 := box_cell hB 0 rfl
  have c1 := box_cell hB 1 rfl
  have c2 := box_cell hB 2 rfl
  clear hB
  by_cases h1 : i < ll
  · rw [decide_eq_true h1] at HQ
    have g : (i : Int) < (ll : Int) := by omega
    go_wp2
    exact HQ.out _ ⟨rfl, rfl, rfl, rfl, rfl, rfl, rfl, rfl, rfl, rfl, rfl, rfl, rfl, rfl, rfl, rfl, rfl, rfl, rfl, rfl, rfl, rfl, rfl, (by first | rfl | (simp; done) | (simp; omega))⟩
  · rw [decide_eq_false h1] at HQ
    have g : ¬ (i : Int) < (ll : Int) := by omega
    go_wp2
    exact HQ.out _ ⟨rfl, rfl, rfl, rfl, rfl, rfl, rfl, rfl, rfl, rfl, rfl, rfl, rfl, rfl, rfl, rfl, rfl, rfl, rfl, rfl, rfl, rfl, rfl, (by first | rfl | (simp; done) | (simp; omega))⟩
set_option maxHeartbeats 8000000 in
set_option maxRecDepth 100000 in
theorem aw_r15 {K : Act → World → Prop} {c : Code} (hc : regOf (Tryz.f4.body.getD .skip) 15 = some c) (a : Act) {v : Vaw} {wq : World} {b g i ll cap : Nat} {cd n : Int} {cur : Array Value} (hF : Faw a v) (h17v : v.v17 = .pointer (some ⟨b, 0, none⟩)) (h20v : v.v20 = .int .i64 (i : Int)) (hB : wq.heap[b]? = some (.cells #[.int .i64 cd, .int .i64 n, .slice (some ⟨g, 0, none⟩) ll cap] 37 (0, 0))) (hi : i < ll) (hG : wq.heap[g]? = some (.cells cur 46 (0, 0))) (hs : ll * 5 ≤ cur.size)
    (hQ : ∀ a' w' cur', Faw a' v → w'.heap[g]? = some (.cells cur' 46 (0, 0)) → cur'.size = cur.size → Touch (fun j => j = g) wq w' → K a' w') :
    Code.wp Tryz.prog c (Exit.then K fun _ _ _ => False) a wq := by
  have HQ := hide hQ
  clear hQ
  obtain ⟨t', d'⟩ := a
  obtain ⟨v0, v1, v2, v4, v6, v7, v8, v9, v10, v11, v12, v13, v14, v15, v16, v17, v18, v19, v20, v41, v64, v69⟩ := v
  simp only at h17v h20v HQ
  subst h17v h20v
  obtain ⟨hs1, hd1, q0, q1, q2, q4, q6, q7, q8, q9, q10, q11, q12, q13, q14, q15, q16, q17, q18, q19, q20, q41, q64, q69⟩ := hF
  obtain ⟨u, hu⟩ := frame_aw t' hs1
  simp only at hd1 q0 q1 q2 q4 q6 q7 q8 q9 q10 q11 q12 q13 q14 q15 q16 q17 q18 q19 q20 q41 q64 q69
  subst hu hd1
  have e0 : u 0 = v0 := q0
  have e1 : u 1 = v1 := q1
  have e2 : u 2 = v2 := q2
  have e4 : u 4 = v4 := q4
  have e6 : u 6 = v6 := q6
  have e7 : u 7 = v7 := q7
  have e8 : u 8 = v8 := q8
  have e9 : u 9 = v9 := q9
  have e10 : u 10 = v10 := q10
  have e11 : u 11 = v11 := q11
  have e12 : u 12 = v12 := q12
  have e13 : u 13 = v13 := q13
  have e14 : u 14 = v14 := q14
  have e15 : u 15 = v15 := q15
  have e16 : u 16 = v16 := q16
  have e17 : u 17 = .pointer (some ⟨b, 0, none⟩) := q17
  have e18 : u 18 = v18 := q18
  have e19 : u 19 = v19 := q19
  have e20 : u 20 = .int .i64 (i : Int) := q20
  have e41 : u 41 = v41 := q41
  have e64 : u 64 = v64 := q64
  have e69 : u 69 = v69 := q69
  rw [e0, e1, e2, e4, e6, e7, e8, e9, e10, e11, e12, e13, e14, e15, e16, e17, e18, e19, e20, e41, e64, e69]
  clear q0 e0 q1 e1 q2 e2 q4 e4 q6 e6 q7 e7 q8 e8 q9 e9 q10 e10 q11 e11 q12 e12 q13 e13 q14 e14 q15 e15 q16 e16 q17 e17 q18 e18 q19 e19 q20 e20 q41 e41 q64 e64 q69 e69 hs1
  simp only [Tryz.f4, Option.getD_some, regOf] at hc
  injection hc with hc
  subst hc
  generalize u 3 = u3
  generalize u 5 = u5
  generalize u 21 = u21
  generalize u 22 = u22
  generalize u 23 = u23
  generalize u 24 = u24
  generalize u 25 = u25
  generalize u 26 = u26
  generalize u 27 = u27
  generalize u 28 = u28
  generalize u 29 = u29
  generalize u 30 = u30
  generalize u 31 = u31
  generalize u 32 = u32
  generalize u 33 = u33
  generalize u 34 = u34
  generalize u 35 = u35
  generalize u 36 = u36
  generalize u 37 = u37
  generalize u 38 = u38
  generalize u 39 = u39
  generalize u 40 = u40
  generalize u 42 = u42
  generalize u 43 = u43
  generalize u 44 = u44
  generalize u 45 = u45
  generalize u 46 = u46
  generalize u 47 = u47
  generalize u 48 = u48
  generalize u 49 = u49
  generalize u 50 = u50
  generalize u 51 = u51
  generalize u 52 = u52
  generalize u 53 = u53
  generalize u 54 = u54
  generalize u 55 = u55
  generalize u 56 = u56
  generalize u 57 = u57
  generalize u 58 = u58
  generalize u 59 = u59
  generalize u 60 = u60
  generalize u 61 = u61
  generalize u 62 = u62
  generalize u 63 = u63
  generalize u 65 = u65
  generalize u 66 = u66
  generalize u 67 = u67
  generalize u 68 = u68
  generalize u 70 = u70
  generalize u 71 = u71
  generalize u 72 = u72
  generalize u 73 = u73
  generalize u 74 = u74
  generalize u 75 = u75
  generalize u 76 = u76
  generalize u 77 = u77
  generalize u 78 = u78
  generalize u 79 = u79
  generalize u 80 = u80
  generalize u 81 = u81
  generalize u 82 = u82
  generalize u 83 = u83
  generalize u 84 = u84
  generalize u 85 = u85
  generalize u 86 = u86
  generalize u 87 = u87
  generalize u 88 = u88
  generalize u 89 = u89
  generalize u 90 = u90
  generalize u 91 = u91
  generalize u 92 = u92
  generalize u 93 = u93
  generalize u 94 = u94
  generalize u 95 = u95
  clear u
  have c0 := box_cell hB 0 rfl
  have c1 := box_cell hB 1 rfl
  have c2 := box_cell hB 2 rfl
  have hi0 : (0 : Int) ≤ (i : Int) := by omega
  have hi1 : (i : Int) < (ll : Int) := by omega
  have ce : ∀ j, j < 5 → ∃ u, wq.cell? ⟨g, i * 5 + j, none⟩ = some u := fun j hj => ⟨_, (Lib.cell_of_heap hG _).trans (Array.getElem?_eq_getElem (by omega))⟩
  obtain ⟨u0', d0⟩ := ce 0 (by omega)
  obtain ⟨u1', d1⟩ := ce 1 (by omega)
  obtain ⟨u2', d2⟩ := ce 2 (by omega)
  obtain ⟨u3', d3⟩ := ce 3 (by omega)
  obtain ⟨u4', d4⟩ := ce 4 (by omega)
  rw [Nat.add_zero] at d0
  have f0 := box_free hG (i * 5)
  have f1 := box_free hG (i * 5 + 1)
  have f2 := box_free hG (i * 5 + 2)
  have f3 := box_free hG (i * 5 + 3)
  have f4 := box_free hG (i * 5 + 4)
  have X := hide (box_set (box_set (box_set (box_set (box_set (hG) (i * 5) (.int .i64 0)) (i * 5 + 1) (.string ⟨#[]⟩)) (i * 5 + 2) (.int .i64 0)) (i * 5 + 3) (.string ⟨#[]⟩)) (i * 5 + 4) (.string ⟨#[]⟩))
  have Y : Hid (Touch (fun j => j = g) wq ((((((wq).setCell ⟨g, i * 5, none⟩ (.int .i64 0)).setCell ⟨g, i * 5 + 1, none⟩ (.string ⟨#[]⟩)).setCell ⟨g, i * 5 + 2, none⟩ (.int .i64 0)).setCell ⟨g, i * 5 + 3, none⟩ (.string ⟨#[]⟩)).setCell ⟨g, i * 5 + 4, none⟩ (.string ⟨#[]⟩))) := (((((Touch.refl (fun j => j = g) wq).setCell ⟨g, i * 5, none⟩ (.int .i64 0) (fun _ => rfl)).setCell ⟨g, i * 5 + 1, none⟩ (.string ⟨#[]⟩) (fun _ => rfl)).setCell ⟨g, i * 5 + 2, none⟩ (.int .i64 0) (fun _ => rfl)).setCell ⟨g, i * 5 + 3, none⟩ (.string ⟨#[]⟩) (fun _ => rfl)).setCell ⟨g, i * 5 + 4, none⟩ (.string ⟨#[]⟩) (fun _ => rfl)
  clear hB hG ce
  go_wp2
  exact HQ.out _ _ _ ⟨rfl, rfl, rfl, rfl, rfl, rfl, rfl, rfl, rfl, rfl, rfl, rfl, rfl, rfl, rfl, rfl, rfl, rfl, rfl, rfl, rfl, rfl, rfl, rfl⟩ X.out (by simp) Y.out
set_option maxHeartbeats 8000000 in
set_option maxRecDepth 100000 in
theorem aw_r14 {K : Act → World → Prop} {c : Code} (hc : regOf (Tryz.f4.body.getD .skip) 14 = some c) (a : Act) {v : Vaw} {wq : World} {i : Nat} (hF : Faw a v) (h20v : v.v20 = .int .i64 (i : Int)) (hi : i ≤ 1000000)
    (hQ : ∀ a', Faw a' { v with v20 := .int .i64 ((i + 1 : Nat) : Int) } → K a' wq) :
    Code.wp Tryz.prog c (Exit.then K fun _ _ _ => False) a wq := by
  have HQ := hide hQ
  clear hQ
  obtain ⟨t', d'⟩ := a
  obtain ⟨v0, v1, v2, v4, v6, v7, v8, v9, v10, v11, v12, v13, v14, v15, v16, v17, v18, v19, v20, v41, v64, v69⟩ := v
  simp only at h20v HQ
  subst h20v
  obtain ⟨hs1, hd1, q0, q1, q2, q4, q6, q7, q8, q9, q10, q11, q12, q13, q14, q15, q16, q17, q18, q19, q20, q41, q64, q69⟩ := hF
  obtain ⟨u, hu⟩ := frame_aw t' hs1
  simp only at hd1 q0 q1 q2 q4 q6 q7 q8 q9 q10 q11 q12 q13 q14 q15 q16 q17 q18 q19 q20 q41 q64 q69
  subst hu hd1
  have e0 : u 0 = v0 := q0
  have e1 : u 1 = v1 := q1
  have e2 : u 2 = v2 := q2
  have e4 : u 4 = v4 := q4
  have e6 : u 6 = v6 := q6
  have e7 : u 7 = v7 := q7
  have e8 : u 8 = v8 := q8
  have e9 : u 9 = v9 := q9
  have e10 : u 10 = v10 := q10
  have e11 : u 11 = v11 := q11
  have e12 : u 12 = v12 := q12
  have e13 : u 13 = v13 := q13
  have e14 : u 14 = v14 := q14
  have e15 : u 15 = v15 := q15
  have e16 : u 16 = v16 := q16
  have e17 : u 17 = v17 := q17
  have e18 : u 18 = v18 := q18
  have e19 : u 19 = v19 := q19
  have e20 : u 20 = .int .i64 (i : Int) := q20
  have e41 : u 41 = v41 := q41
  have e64 : u 64 = v64 := q64
  have e69 : u 69 = v69 := q69
  rw [e0, e1, e2, e4, e6, e7, e8, e9, e10, e11, e12, e13, e14, e15, e16, e17, e18, e19, e20, e41, e64, e69]
  clear q0 e0 q1 e1 q2 e2 q4 e4 q6 e6 q7 e7 q8 e8 q9 e9 q10 e10 q11 e11 q12 e12 q13 e13 q14 e14 q15 e15 q16 e16 q17 e17 q18 e18 q19 e19 q20 e20 q41 e41 q64 e64 q69 e69 hs1
  simp only [Tryz.f4, Option.getD_some, regOf] at hc
  injection hc with hc
  subst hc
  generalize u 3 = u3
  generalize u 5 = u5
  generalize u 21 = u21
  generalize u 22 = u22
  generalize u 23 = u23
  generalize u 24 = u24
  generalize u 25 = u25
  generalize u 26 = u26
  generalize u 27 = u27
  generalize u 28 = u28
  generalize u 29 = u29
  generalize u 30 = u30
  generalize u 31 = u31
  generalize u 32 = u32
  generalize u 33 = u33
  generalize u 34 = u34
  generalize u 35 = u35
  generalize u 36 = u36
  generalize u 37 = u37
  generalize u 38 = u38
  generalize u 39 = u39
  generalize u 40 = u40
  generalize u 42 = u42
  generalize u 43 = u43
  generalize u 44 = u44
  generalize u 45 = u45
  generalize u 46 = u46
  generalize u 47 = u47
  generalize u 48 = u48
  generalize u 49 = u49
  generalize u 50 = u50
  generalize u 51 = u51
  generalize u 52 = u52
  generalize u 53 = u53
  generalize u 54 = u54
  generalize u 55 = u55
  generalize u 56 = u56
  generalize u 57 = u57
  generalize u 58 = u58
  generalize u 59 = u59
  generalize u 60 = u60
  generalize u 61 = u61
  generalize u 62 = u62
  generalize u 63 = u63
  generalize u 65 = u65
  generalize u 66 = u66
  generalize u 67 = u67
  generalize u 68 = u68
  generalize u 70 = u70
  generalize u 71 = u71
  generalize u 72 = u72
  generalize u 73 = u73
  generalize u 74 = u74
  generalize u 75 = u75
  generalize u 76 = u76
  generalize u 77 = u77
  generalize u 78 = u78
  generalize u 79 = u79
  generalize u 80 = u80
  generalize u 81 = u81
  generalize u 82 = u82
  generalize u 83 = u83
  generalize u 84 = u84
  generalize u 85 = u85
  generalize u 86 = u86
  generalize u 87 = u87
  generalize u 88 = u88
  generalize u 89 = u89
  generalize u 90 = u90
  generalize u 91 = u91
  generalize u 92 = u92
  generalize u 93 = u93
  generalize u 94 = u94
  generalize u 95 = u95
  clear u
  have e1 : ((i + 1 : Nat) : Int) = (i : Int) + 1 := by omega
  rw [e1] at HQ
  go_wp2
  exact HQ.out _ ⟨rfl, rfl, rfl, rfl, rfl, rfl, rfl, rfl, rfl, rfl, rfl, rfl, rfl, rfl, rfl, rfl, rfl, rfl, rfl, rfl, rfl, rfl, rfl, rfl⟩
set_option maxHeartbeats 8000000 in
set_option maxRecDepth 100000 in
theorem aw_r7 {K : Act → World → Prop} {c : Code} (hc : regOf (Tryz.f4.body.getD .skip) 7 = some c) (a : Act) {v : Vaw} {wq : World} {i : Nat} (hF : Faw a v) (h15v : v.v15 = .int .i64 (i : Int)) (hi : i ≤ 1000000)
    (hQ : ∀ a', Faw a' { v with v15 := .int .i64 ((i + 1 : Nat) : Int) } → K a' wq) :
    Code.wp Tryz.prog c (Exit.then K fun _ _ _ => False) a wq := by
  have HQ := hide hQ
  clear hQ
  obtain ⟨t', d'⟩ := a
  obtain ⟨v0, v1, v2, v4, v6, v7, v8, v9, v10, v11, v12, v13, v14, v15, v16, v17, v18, v19, v20, v41, v64, v69⟩ := v
  simp only at h15v HQ
  subst h15v
  obtain ⟨hs1, hd1, q0, q1, q2, q4, q6, q7, q8, q9, q10, q11, q12, q13, q14, q15, q16, q17, q18, q19, q20, q41, q64, q69⟩ := hF
  obtain ⟨u, hu⟩ := frame_aw t' hs1
  simp only at hd1 q0 q1 q2 q4 q6 q7 q8 q9 q10 q11 q12 q13 q14 q15 q16 q17 q18 q19 q20 q41 q64 q69
  subst hu hd1
  have e0 : u 0 = v0 := q0
  have e1 : u 1 = v1 := q1
  have e2 : u 2 = v2 := q2
  have e4 : u 4 = v4 := q4
  have e6 : u 6 = v6 := q6
  have e7 : u 7 = v7 := q7
  have e8 : u 8 = v8 := q8
  have e9 : u 9 = v9 := q9
  have e10 : u 10 = v10 := q10
  have e11 : u 11 = v11 := q11
  have e12 : u 12 = v12 := q12
  have e13 : u 13 = v13 := q13
  have e14 : u 14 = v14 := q14
  have e15 : u 15 = .int .i64 (i : Int) := q15
  have e16 : u 16 = v16 := q16
  have e17 : u 17 = v17 := q17
  have e18 : u 18 = v18 := q18
  have e19 : u 19 = v19 := q19
  have e20 : u 20 = v20 := q20
  have e41 : u 41 = v41 := q41
  have e64 : u 64 = v64 := q64
  have e69 : u 69 = v69 := q69
  rw [e0, e1, e2, e4, e6, e7, e8, e9, e10, e11, e12, e13, e14, e15, e16, e17, e18, e19, e20, e41, e64, e69]
  clear q0 e0 q1 e1 q2 e2 q4 e4 q6 e6 q7 e7 q8 e8 q9 e9 q10 e10 q11 e11 q12 e12 q13 e13 q14 e14 q15 e15 q16 e16 q17 e17 q18 e18 q19 e19 q20 e20 q41 e41 q64 e64 q69 e69 hs1
  simp only [Tryz.f4, Option.getD_some, regOf] at hc
  injection hc with hc
  subst hc
  generalize u 3 = u3
  generalize u 5 = u5
  generalize u 21 = u21
  generalize u 22 = u22
  generalize u 23 = u23
  generalize u 24 = u24
  generalize u 25 = u25
  generalize u 26 = u26
  generalize u 27 = u27
  generalize u 28 = u28
  generalize u 29 = u29
  generalize u 30 = u30
  generalize u 31 = u31
  generalize u 32 = u32
  generalize u 33 = u33
  generalize u 34 = u34
  generalize u 35 = u35
  generalize u 36 = u36
  generalize u 37 = u37
  generalize u 38 = u38
  generalize u 39 = u39
  generalize u 40 = u40
  generalize u 42 = u42
  generalize u 43 = u43
  generalize u 44 = u44
  generalize u 45 = u45
  generalize u 46 = u46
  generalize u 47 = u47
  generalize u 48 = u48
  generalize u 49 = u49
  generalize u 50 = u50
  generalize u 51 = u51
  generalize u 52 = u52
  generalize u 53 = u53
  generalize u 54 = u54
  generalize u 55 = u55
  generalize u 56 = u56
  generalize u 57 = u57
  generalize u 58 = u58
  generalize u 59 = u59
  generalize u 60 = u60
  generalize u 61 = u61
  generalize u 62 = u62
  generalize u 63 = u63
  generalize u 65 = u65
  generalize u 66 = u66
  generalize u 67 = u67
  generalize u 68 = u68
  generalize u 70 = u70
  generalize u 71 = u71
  generalize u 72 = u72
  generalize u 73 = u73
  generalize u 74 = u74
  generalize u 75 = u75
  generalize u 76 = u76
  generalize u 77 = u77
  generalize u 78 = u78
  generalize u 79 = u79
  generalize u 80 = u80
  generalize u 81 = u81
  generalize u 82 = u82
  generalize u 83 = u83
  generalize u 84 = u84
  generalize u 85 = u85
  generalize u 86 = u86
  generalize u 87 = u87
  generalize u 88 = u88
  generalize u 89 = u89
  generalize u 90 = u90
  generalize u 91 = u91
  generalize u 92 = u92
  generalize u 93 = u93
  generalize u 94 = u94
  generalize u 95 = u95
  clear u
  have e1 : ((i + 1 : Nat) : Int) = (i : Int) + 1 := by omega
  rw [e1] at HQ
  go_wp2
  exact HQ.out _ ⟨rfl, rfl, rfl, rfl, rfl, rfl, rfl, rfl, rfl, rfl, rfl, rfl, rfl, rfl, rfl, rfl, rfl, rfl, rfl, rfl, rfl, rfl, rfl, rfl⟩
set_option maxHeartbeats 8000000 in
set_option maxRecDepth 100000 in
theorem aw_r16a {K : Act → World → Prop} {c : Code} (hc : regOf (Tryz.f4.body.getD .skip) 16 = some c) (a : Act) {v : Vaw} {wq : World} {T : ByteArray} (hF : Faw a v) (h7v : v.v7 = .bool true) (h8v : v.v8 = .string T) (h9v : v.v9 = .int .i64 0) (h10v : v.v10 = .string T) (h11v : v.v11 = .bool true) (hQ : ∀ a', Faw a' { v with v6 := .bool true } → K a' wq) :
    Code.wp Tryz.prog c (Exit.then K fun _ _ _ => False) a wq := by
  have HQ := hide hQ
  clear hQ
  obtain ⟨t', d'⟩ := a
  obtain ⟨v0, v1, v2, v4, v6, v7, v8, v9, v10, v11, v12, v13, v14, v15, v16, v17, v18, v19, v20, v41, v64, v69⟩ := v
  simp only at h7v h8v h9v h10v h11v HQ
  subst h7v h8v h9v h10v h11v
  obtain ⟨hs1, hd1, q0, q1, q2, q4, q6, q7, q8, q9, q10, q11, q12, q13, q14, q15, q16, q17, q18, q19, q20, q41, q64, q69⟩ := hF
  obtain ⟨u, hu⟩ := frame_aw t' hs1
  simp only at hd1 q0 q1 q2 q4 q6 q7 q8 q9 q10 q11 q12 q13 q14 q15 q16 q17 q18 q19 q20 q41 q64 q69
  subst hu hd1
  have e0 : u 0 = v0 := q0
  have e1 : u 1 = v1 := q1
  have e2 : u 2 = v2 := q2
  have e4 : u 4 = v4 := q4
  have e6 : u 6 = v6 := q6
  have e7 : u 7 = .bool true := q7
  have e8 : u 8 = .string T := q8
  have e9 : u 9 = .int .i64 0 := q9
  have e10 : u 10 = .string T := q10
  have e11 : u 11 = .bool true := q11
  have e12 : u 12 = v12 := q12
  have e13 : u 13 = v13 := q13
  have e14 : u 14 = v14 := q14
  have e15 : u 15 = v15 := q15
  have e16 : u 16 = v16 := q16
  have e17 : u 17 = v17 := q17
  have e18 : u 18 = v18 := q18
  have e19 : u 19 = v19 := q19
  have e20 : u 20 = v20 := q20
  have e41 : u 41 = v41 := q41
  have e64 : u 64 = v64 := q64
  have e69 : u 69 = v69 := q69
  rw [e0, e1, e2, e4, e6, e7, e8, e9, e10, e11, e12, e13, e14, e15, e16, e17, e18, e19, e20, e41, e64, e69]
  clear q0 e0 q1 e1 q2 e2 q4 e4 q6 e6 q7 e7 q8 e8 q9 e9 q10 e10 q11 e11 q12 e12 q13 e13 q14 e14 q15 e15 q16 e16 q17 e17 q18 e18 q19 e19 q20 e20 q41 e41 q64 e64 q69 e69 hs1
  simp only [Tryz.f4, Option.getD_some, regOf] at hc
  injection hc with hc
  subst hc
  generalize u 3 = u3
  generalize u 5 = u5
  generalize u 21 = u21
  generalize u 22 = u22
  generalize u 23 = u23
  generalize u 24 = u24
  generalize u 25 = u25
  generalize u 26 = u26
  generalize u 27 = u27
  generalize u 28 = u28
  generalize u 29 = u29
  generalize u 30 = u30
  generalize u 31 = u31
  generalize u 32 = u32
  generalize u 33 = u33
  generalize u 34 = u34
  generalize u 35 = u35
  generalize u 36 = u36
  generalize u 37 = u37
  generalize u 38 = u38
  generalize u 39 = u39
  generalize u 40 = u40
  generalize u 42 = u42
  generalize u 43 = u43
  generalize u 44 = u44
  generalize u 45 = u45
  generalize u 46 = u46
  generalize u 47 = u47
  generalize u 48 = u48
  generalize u 49 = u49
  generalize u 50 = u50
  generalize u 51 = u51
  generalize u 52 = u52
  generalize u 53 = u53
  generalize u 54 = u54
  generalize u 55 = u55
  generalize u 56 = u56
  generalize u 57 = u57
  generalize u 58 = u58
  generalize u 59 = u59
  generalize u 60 = u60
  generalize u 61 = u61
  generalize u 62 = u62
  generalize u 63 = u63
  generalize u 65 = u65
  generalize u 66 = u66
  generalize u 67 = u67
  generalize u 68 = u68
  generalize u 70 = u70
  generalize u 71 = u71
  generalize u 72 = u72
  generalize u 73 = u73
  generalize u 74 = u74
  generalize u 75 = u75
  generalize u 76 = u76
  generalize u 77 = u77
  generalize u 78 = u78
  generalize u 79 = u79
  generalize u 80 = u80
  generalize u 81 = u81
  generalize u 82 = u82
  generalize u 83 = u83
  generalize u 84 = u84
  generalize u 85 = u85
  generalize u 86 = u86
  generalize u 87 = u87
  generalize u 88 = u88
  generalize u 89 = u89
  generalize u 90 = u90
  generalize u 91 = u91
  generalize u 92 = u92
  generalize u 93 = u93
  generalize u 94 = u94
  generalize u 95 = u95
  clear u
  have g : (T.toList == T.toList) = true := by simp
  go_wp2
  exact HQ.out _ ⟨rfl, rfl, rfl, rfl, rfl, rfl, rfl, rfl, rfl, rfl, rfl, rfl, rfl, rfl, rfl, rfl, rfl, rfl, rfl, rfl, rfl, rfl, rfl, rfl⟩
set_option maxHeartbeats 8000000 in
set_option maxRecDepth 100000 in
theorem aw_r16b {K : Act → World → Prop} {c : Code} (hc : regOf (Tryz.f4.body.getD .skip) 16 = some c) (a : Act) {v : Vaw} {wq : World} {T : ByteArray} (hF : Faw a v) (h7v : v.v7 = .bool true) (h8v : v.v8 = .string T) (h9v : v.v9 = .int .i64 1) (h10v : v.v10 = .string T) (h11v : v.v11 = .bool false) (hQ : ∀ a', Faw a' { v with v6 := .bool true } → K a' wq) :
    Code.wp Tryz.prog c (Exit.then K fun _ _ _ => False) a wq := by
  have HQ := hide hQ
  clear hQ
  obtain ⟨t', d'⟩ := a
  obtain ⟨v0, v1, v2, v4, v6, v7, v8, v9, v10, v11, v12, v13, v14, v15, v16, v17, v18, v19, v20, v41, v64, v69⟩ := v
  simp only at h7v h8v h9v h10v h11v HQ
  subst h7v h8v h9v h10v h11v
  obtain ⟨hs1, hd1, q0, q1, q2, q4, q6, q7, q8, q9, q10, q11, q12, q13, q14, q15, q16, q17, q18, q19, q20, q41, q64, q69⟩ := hF
  obtain ⟨u, hu⟩ := frame_aw t' hs1
  simp only at hd1 q0 q1 q2 q4 q6 q7 q8 q9 q10 q11 q12 q13 q14 q15 q16 q17 q18 q19 q20 q41 q64 q69
  subst hu hd1
  have e0 : u 0 = v0 := q0
  have e1 : u 1 = v1 := q1
  have e2 : u 2 = v2 := q2
  have e4 : u 4 = v4 := q4
  have e6 : u 6 = v6 := q6
  have e7 : u 7 = .bool true := q7
  have e8 : u 8 = .string T := q8
  have e9 : u 9 = .int .i64 1 := q9
  have e10 : u 10 = .string T := q10
  have e11 : u 11 = .bool false := q11
  have e12 : u 12 = v12 := q12
  have e13 : u 13 = v13 := q13
  have e14 : u 14 = v14 := q14
  have e15 : u 15 = v15 := q15
  have e16 : u 16 = v16 := q16
  have e17 : u 17 = v17 := q17
  have e18 : u 18 = v18 := q18
  have e19 : u 19 = v19 := q19
  have e20 : u 20 = v20 := q20
  have e41 : u 41 = v41 := q41
  have e64 : u 64 = v64 := q64
  have e69 : u 69 = v69 := q69
  rw [e0, e1, e2, e4, e6, e7, e8, e9, e10, e11, e12, e13, e14, e15, e16, e17, e18, e19, e20, e41, e64, e69]
  clear q0 e0 q1 e1 q2 e2 q4 e4 q6 e6 q7 e7 q8 e8 q9 e9 q10 e10 q11 e11 q12 e12 q13 e13 q14 e14 q15 e15 q16 e16 q17 e17 q18 e18 q19 e19 q20 e20 q41 e41 q64 e64 q69 e69 hs1
  simp only [Tryz.f4, Option.getD_some, regOf] at hc
  injection hc with hc
  subst hc
  generalize u 3 = u3
  generalize u 5 = u5
  generalize u 21 = u21
  generalize u 22 = u22
  generalize u 23 = u23
  generalize u 24 = u24
  generalize u 25 = u25
  generalize u 26 = u26
  generalize u 27 = u27
  generalize u 28 = u28
  generalize u 29 = u29
  generalize u 30 = u30
  generalize u 31 = u31
  generalize u 32 = u32
  generalize u 33 = u33
  generalize u 34 = u34
  generalize u 35 = u35
  generalize u 36 = u36
  generalize u 37 = u37
  generalize u 38 = u38
  generalize u 39 = u39
  generalize u 40 = u40
  generalize u 42 = u42
  generalize u 43 = u43
  generalize u 44 = u44
  generalize u 45 = u45
  generalize u 46 = u46
  generalize u 47 = u47
  generalize u 48 = u48
  generalize u 49 = u49
  generalize u 50 = u50
  generalize u 51 = u51
  generalize u 52 = u52
  generalize u 53 = u53
  generalize u 54 = u54
  generalize u 55 = u55
  generalize u 56 = u56
  generalize u 57 = u57
  generalize u 58 = u58
  generalize u 59 = u59
  generalize u 60 = u60
  generalize u 61 = u61
  generalize u 62 = u62
  generalize u 63 = u63
  generalize u 65 = u65
  generalize u 66 = u66
  generalize u 67 = u67
  generalize u 68 = u68
  generalize u 70 = u70
  generalize u 71 = u71
  generalize u 72 = u72
  generalize u 73 = u73
  generalize u 74 = u74
  generalize u 75 = u75
  generalize u 76 = u76
  generalize u 77 = u77
  generalize u 78 = u78
  generalize u 79 = u79
  generalize u 80 = u80
  generalize u 81 = u81
  generalize u 82 = u82
  generalize u 83 = u83
  generalize u 84 = u84
  generalize u 85 = u85
  generalize u 86 = u86
  generalize u 87 = u87
  generalize u 88 = u88
  generalize u 89 = u89
  generalize u 90 = u90
  generalize u 91 = u91
  generalize u 92 = u92
  generalize u 93 = u93
  generalize u 94 = u94
  generalize u 95 = u95
  clear u
  have g : (T.toList == T.toList) = true := by simp
  go_wp2
  exact HQ.out _ ⟨rfl, rfl, rfl, rfl, rfl, rfl, rfl, rfl, rfl, rfl, rfl, rfl, rfl, rfl, rfl, rfl, rfl, rfl, rfl, rfl, rfl, rfl, rfl, rfl⟩
theorem aw_ret {W : World} {a : Act} {v : Vaw} {b : Bool} {R : Ending → World → Prop} (hF : Faw a v) (h0 : v.v6 = .bool b) (h : R (.returned (.bool b)) W) :
    bodyPost Tryz.prog Tryz.f4 R .ret a W := by
  have g0 := slot_get (hF.s6.trans h0)
  refine bodyPost_ret (v := .bool b) ?_ hF.defers h
  simp [results, Tryz.results4, go_sem, g0]
end Go.Proofs.YtoolbbibnegdnaaGreatDoor
/-
  CommandAnswers' walk (mkaw.py)
-/
namespace Go.Proofs.YtoolbbibnegdnaaGreatDoor
open Go.RowKit

attribute [local go_sem ↓] Go.wp_at_zero Go.wp_at_succ
set_option linter.unusedSimpArgs false
set_option linter.unusedVariables false
theorem pansw (ask : Int) (r : RP) (ao : Option Addr) (cap : Nat) (w : World) (hT : Tab w) (hat : RecsC w ao r.recs) (hok : ∀ x ∈ r.recs, x.ok) (hlen : r.recs.length ≤ 9223372036854775807) :
    Calls Tryz.prog 10 #[.int .i64 ask, r.v ao cap] w fun e w' => e = .returned (.tuple #[.string (answT ask r), .int .i64 (if askOk ask ∧ r.right then 0 else 1)]) ∧ Below w.heap.size w w' := by
  by_cases h : askOk ask ∧ r.right
  · have := pansw_good ask r h.1 h.2 ao cap w hT hat hok
    unfold answT
    rw [if_pos h, if_pos h]
    exact this
  · have := pansw_bad ask r h ao cap w hat hok hlen
    unfold answT
    rw [if_neg h, if_neg h]
    exact this
theorem answP_len (s : List UInt8) : (answP s).2.1.recs.length ≤ 50 := by
  by_cases h : (answP s).2.2 = 0
  · exact (answP_back h).2.1.2.2.2.2.1
  · rw [(answP_none h).2]
    show 0 ≤ 50
    omega
set_option maxHeartbeats 8000000 in
set_option maxRecDepth 100000 in
theorem answers_walk (ask : Int) (r : RP) (ao : Option Addr) (cap : Nat) (w : World) (hat : RecsC w ao r.recs) (hok : ∀ x ∈ r.recs, x.ok) (hlen : r.recs.length ≤ 9223372036854775807) (s : ByteArray) (h63 : s.size ≤ 9223372036854775807) (hT : Tab w) :
    Calls Tryz.prog 4 #[.int .i64 ask, r.v ao cap, .string s] w fun e w' => e = .returned (.bool true) ∧ Below w.heap.size w w' := by
  have hP : ∀ W, Below w.heap.size w W → Calls Tryz.prog 10 #[.int .i64 ask, r.v ao cap] W fun e w' => e = .returned (.tuple #[.string (answT ask r), .int .i64 (if askOk ask ∧ r.right then 0 else 1)]) ∧ Below W.heap.size W w' := fun W hb => pansw ask r ao cap W (hT.below hb) (hat.below hb (Nat.le_refl _)) hok hlen
  have hR : ∀ W, Below w.heap.size w W → Calls Tryz.prog 11 #[.int .i64 ask, r.v ao cap] W fun e w' => e = .returned (.tuple #[.string (answT ask r), .bool (decide (askOk ask ∧ r.right))]) ∧ Below W.heap.size W w' := fun W hb => ransw ask r ao cap W (hat.below hb (Nat.le_refl _)) hok hlen _ rfl
  have hE : ∀ W, Below w.heap.size w W → Calls Tryz.prog 5 #[] W fun e w' => e = .returned (.bool true) ∧ Below W.heap.size W w' := fun W hb => examples_any W (hT.below hb)
  have hX : ∀ W, Below w.heap.size w W → Calls Tryz.prog 13 #[.string s] W (Gave W (answP s.data.toList).1 (answP s.data.toList).2.1 (answP s.data.toList).2.2) := fun W hb => panswered s h63 W (hT.below hb)
  have hY : ∀ W, Calls Tryz.prog 12 #[.string s] W (Gave W (answP s.data.toList).1 (answP s.data.toList).2.1 (answP s.data.toList).2.2) := fun W => ransd s h63 W
  have hk50 := answP_len s.data.toList
  simp only [RP.v] at hP hR ⊢
  generalize answP s.data.toList = A at *
  obtain ⟨m, y, g⟩ := A
  simp only at hX hY hk50
  unfold Gave at hX hY
  have hRep := fun (a1 b1 : Option Addr) (c1 d1 : Nat) (W : World) (h1 : RecsC W a1 y.recs) (h2 : RecsC W b1 y.recs) => preplies y a1 b1 c1 d1 W (by omega) h1 h2
  simp only [RP.v] at hX hY hRep
  go_enter Tryz.func4, Tryz.ntmps4
  refine wp_seq (reg_mono (aw_r0 (by kernel_rfl) _ (v := ⟨_, _, _, _, _, _, _, _, _, _, _, _, _, _, _, _, _, _, _, _, _, _⟩) ⟨rfl, rfl, rfl, rfl, rfl, rfl, rfl, rfl, rfl, rfl, rfl, rfl, rfl, rfl, rfl, rfl, rfl, rfl, rfl, rfl, rfl, rfl, rfl, rfl⟩ rfl ?_))
  intro a0 w0 b F0 X0 B0
  try dsimp only at F0
  refine wp_seq (reg_mono (aw_r1 (by kernel_rfl) _ F0 (fun W hb => hE W (B0.trans (hb.mono B0.size))) ?_))
  intro a1 w1 F1 b1
  try dsimp only at F1
  have B1 := B0.trans (b1.mono B0.size)
  have X1 := (b1.block _ (heap_lt X0)).trans X0
  refine wp_seq (reg_mono (aw_r2 (by kernel_rfl) _ F1 rfl rfl X1 (fun W hb => hP W (B1.trans (hb.mono B1.size))) ?_))
  intro a2 w2 F2 b2
  try dsimp only at F2
  have B2 := B1.trans (b2.mono B1.size)
  have X2 := (b2.block _ (heap_lt X1)).trans X1
  refine wp_seq (reg_mono (aw_r3 (by kernel_rfl) _ F2 rfl rfl X2 (fun W hb => hR W (B2.trans (hb.mono B2.size))) ?_))
  intro a3 w3 F3 b3
  try dsimp only at F3
  have B3 := B2.trans (b3.mono B2.size)
  refine wp_seq (reg_mono (aw_r4 (by kernel_rfl) _ F3 rfl (hY w3) ?_))
  rintro a4 w4' w4 b13 yo yc F4 ⟨R4', B4'⟩ hb13 X4 b4
  try dsimp only at F4
  have R4 := own_baseC (below_row b4 R4') B3.size
  have B4'' := B3.trans (B4'.mono B3.size)
  have B4 := B4''.trans (b4.mono B4''.size)
  refine wp_seq (wp_seq (reg_mono (aw_r5 (by kernel_rfl) _ F4 ?_)))
  intro a5 F5
  try dsimp only at F5
  refine wp_block (wp_loop (fun a W => ∃ (t : Nat) (v : Vaw), t ≤ 2 ∧ Faw a v ∧ v.v2 = .string s ∧ v.v7 = .bool true ∧ v.v8 = .string (answT ask r) ∧ v.v9 = .int .i64 (if askOk ask ∧ r.right then 0 else 1) ∧ v.v10 = .string (answT ask r) ∧ v.v11 = .bool (decide (askOk ask ∧ r.right)) ∧ v.v12 = .int .i64 m ∧ v.v13 = .pointer (some ⟨b13, 0, none⟩) ∧ v.v14 = .int .i64 g ∧ v.v15 = .int .i64 (t : Int) ∧ W.heap[b13]? = some (.cells #[.int .i64 y.code, .int .i64 y.n, .slice yo y.recs.length yc] 37 (0, 0)) ∧ W.ownsRow w.heap.size 46 5 (.slice yo y.recs.length yc) y.recs.length (rcCells y.recs) ∧ Below w.heap.size w W) (fun a _ => 2 - (intOf (a.tmps.getD 15 undef)).toNat) ⟨0, _, Nat.zero_le _, F5, rfl, rfl, rfl, rfl, rfl, rfl, rfl, rfl, rfl, rfl, X4, R4, B4⟩ ?_)
  clear F0 F1 F2 F3 F4 F5 X0 X1 X2 X4 R4 R4' B4 B4' B4'' b4 b1 b2 b3 B0 B1 B2 B3
  rintro a6 w6 ⟨t, v, ht, F6, q2, q7, q8, q9, q10, q11, q12, q13, q14, q15, Y6, R6, B6⟩
  have hmt : (intOf (a6.tmps.getD 15 undef)).toNat = t := by rw [F6.s15, q15]; simp [intOf]
  refine wp_seq (wp_seq (reg_mono (aw_r6 (by kernel_rfl) _ F6 q15 ?_)))
  intro a7 F7
  try dsimp only at F7
  have s41 := F7.s41
  by_cases ht2 : t < 2
  case neg =>
    rw [decide_eq_false ht2] at s41
    refine wp_cond_false s41 (wp_exit ?_)
    show Code.wp _ _ _ _ _
    by_cases hg : askOk ask ∧ r.right
    · rw [if_pos hg] at q9
      rw [decide_eq_true hg] at q11
      refine wp_seq (reg_mono (aw_r16a (by kernel_rfl) _ F7 q7 q8 q9 q10 q11 ?_))
      intro a8 F8
      exact wp_ret (aw_ret F8 rfl ⟨rfl, B6⟩)
    · rw [if_neg hg] at q9
      rw [decide_eq_false hg] at q11
      refine wp_seq (reg_mono (aw_r16b (by kernel_rfl) _ F7 q7 q8 q9 q10 q11 ?_))
      intro a8 F8
      exact wp_ret (aw_ret F8 rfl ⟨rfl, B6⟩)
  rw [decide_eq_true ht2] at s41
  refine wp_cond_true s41 (wp_skip ?_)
  show Code.wp _ _ _ _ _
  refine wp_mid (fun a W => ∃ (v : Vaw), Faw a v ∧ v.v2 = .string s ∧ v.v7 = .bool true ∧ v.v8 = .string (answT ask r) ∧ v.v9 = .int .i64 (if askOk ask ∧ r.right then 0 else 1) ∧ v.v10 = .string (answT ask r) ∧ v.v11 = .bool (decide (askOk ask ∧ r.right)) ∧ v.v12 = .int .i64 m ∧ v.v13 = .pointer (some ⟨b13, 0, none⟩) ∧ v.v14 = .int .i64 g ∧ v.v15 = .int .i64 (t : Int) ∧ W.heap[b13]? = some (.cells #[.int .i64 y.code, .int .i64 y.n, .slice yo y.recs.length yc] 37 (0, 0)) ∧ W.ownsRow w.heap.size 46 5 (.slice yo y.recs.length yc) y.recs.length (rcCells y.recs) ∧ Below w.heap.size w W) (wp_block ?_) ?_
  case refine_2 =>
    rintro a20 w20 ⟨v, F, q2, q7, q8, q9, q10, q11, q12, q13, q14, q15, Y, R, B⟩
    refine reg_mono (aw_r7 (by kernel_rfl) _ F q15 (by omega) ?_)
    intro a21 F21
    try dsimp only at F21
    refine ⟨⟨t + 1, _, by omega, F21, q2, q7, q8, q9, q10, q11, q12, q13, q14, rfl, Y, R, B⟩, ?_⟩
    rw [hmt, F21.s15]
    simp [intOf]
    omega
  refine wp_seq (reg_mono (aw_r8 (by kernel_rfl) _ F7 q2 (hX w6 B6) ?_))
  rintro a8 w8' w8 b17 xo xc F8 ⟨R8', B8'⟩ hb17 X8 b8
  try dsimp only at F8
  have hY6 := heap_lt Y6
  have Y8' := (B8'.block _ hY6).trans Y6
  have Y8 := (b8.block _ (heap_lt Y8')).trans Y8'
  have RX := below_row b8 R8'
  have RY := below_row b8 (below_row B8' R6)
  have B8'' := B6.trans (B8'.mono B6.size)
  have B8 := B8''.trans (b8.mono B8''.size)
  have hRC1 := recs_of_ownC RX
  have hRC2 := recs_of_ownC RY
  refine wp_seq (reg_mono (aw_r9 (by kernel_rfl) _ F8 rfl q13 X8 Y8 (fun W hb => hRep xo yo xc yc W (hRC1.below hb (Nat.le_refl _)) (hRC2.below hb (Nat.le_refl _))) ?_))
  intro a9 w9 F9 b9
  try dsimp only at F9
  have X9 := (b9.block _ (heap_lt X8)).trans X8
  have Y9 := (b9.block _ (heap_lt Y8)).trans Y8
  have RX9 := below_row b9 RX
  have RY9 := below_row b9 RY
  have B9 := B8.trans (b9.mono B8.size)
  refine wp_seq (wp_seq (reg_mono (aw_r10 (by kernel_rfl) _ F9 q12 q14 rfl rfl rfl ?_)))
  intro a10 F10
  try dsimp only at F10
  refine wp_cond_false F10.s64 (wp_skip ?_)
  show Code.wp _ _ _ _ _
  refine wp_seq (reg_mono (aw_r12 (by kernel_rfl) _ F10 ?_))
  intro a12 F12
  try dsimp only at F12
  have hxg : ∀ j, (Value.slice xo y.recs.length xc).ownBlock = some j → w6.heap.size ≤ j ∧ ∃ cur, w9.heap[j]? = some (.cells cur 46 (0, 0)) ∧ y.recs.length * 5 ≤ cur.size ∧ xo = some ⟨j, 0, none⟩ := fun j hj => by
    rcases RX9.2 with ⟨h1, _⟩ | ⟨g2, cap2, cur2, h1, h2, h3, h4, _, h6, _⟩
    · rw [h1] at hj; cases hj
    · injection h1 with e1 _ e3
      subst e1
      obtain rfl : g2 = j := Option.some.inj hj
      exact ⟨h2, cur2, h3, by rw [h6]; exact Nat.mul_le_mul_right _ h4, rfl⟩
  have hyb : ∀ j, (Value.slice yo y.recs.length yc).ownBlock = some j → j < w6.heap.size := fun j hj => row_lt R6 hj
  refine wp_block (wp_loop (fun a W => ∃ (i : Nat) (v : Vaw), i ≤ y.recs.length ∧ Faw a v ∧ v.v2 = .string s ∧ v.v7 = .bool true ∧ v.v8 = .string (answT ask r) ∧ v.v9 = .int .i64 (if askOk ask ∧ r.right then 0 else 1) ∧ v.v10 = .string (answT ask r) ∧ v.v11 = .bool (decide (askOk ask ∧ r.right)) ∧ v.v12 = .int .i64 m ∧ v.v13 = .pointer (some ⟨b13, 0, none⟩) ∧ v.v14 = .int .i64 g ∧ v.v15 = .int .i64 (t : Int) ∧ v.v17 = .pointer (some ⟨b17, 0, none⟩) ∧ v.v20 = .int .i64 (i : Int) ∧ W.heap[b17]? = some (.cells #[.int .i64 y.code, .int .i64 y.n, .slice xo y.recs.length xc] 37 (0, 0)) ∧ W.heap[b13]? = some (.cells #[.int .i64 y.code, .int .i64 y.n, .slice yo y.recs.length yc] 37 (0, 0)) ∧ W.ownsRow w.heap.size 46 5 (.slice yo y.recs.length yc) y.recs.length (rcCells y.recs) ∧ Below w.heap.size w W ∧ (∀ j, (Value.slice xo y.recs.length xc).ownBlock = some j → w6.heap.size ≤ j ∧ ∃ cur, W.heap[j]? = some (.cells cur 46 (0, 0)) ∧ y.recs.length * 5 ≤ cur.size ∧ xo = some ⟨j, 0, none⟩)) (fun a _ => y.recs.length - (intOf (a.tmps.getD 20 undef)).toNat) ⟨0, _, Nat.zero_le _, F12, q2, q7, q8, q9, q10, q11, q12, q13, q14, q15, rfl, rfl, X9, Y9, RY9, B9, hxg⟩ ?_)
  have R8x := RX9
  clear F6 F7 F8 F9 F10 F12 q2 q7 q8 q9 q10 q11 q12 q13 q14 q15 X8 X9 Y6 Y8 Y8' Y9 RX RX9 RY RY9 B8 B8' B8'' B9 b8 b9 hRC1 hRC2 hxg R8'
  rintro a13 w13 ⟨i, v, hi, F13, q2, q7, q8, q9, q10, q11, q12, q13, q14, q15, q17, q20, X13, Y13, R13, B13, hxg⟩
  have hmi : (intOf (a13.tmps.getD 20 undef)).toNat = i := by rw [F13.s20, q20]; simp [intOf]
  refine wp_seq (wp_seq (reg_mono (aw_r13 (by kernel_rfl) _ F13 q17 q20 X13 ?_)))
  intro a14 F14
  try dsimp only at F14
  have s69 := F14.s69
  by_cases hil : i < y.recs.length
  · rw [decide_eq_true hil] at s69
    refine wp_cond_true s69 (wp_skip ?_)
    show Code.wp _ _ _ _ _
    obtain ⟨gx, hgx⟩ : ∃ j, (Value.slice xo y.recs.length xc).ownBlock = some j := by
      cases xo with
      | none => exact absurd hil (by
          rcases R8x.2 with ⟨_, h⟩ | ⟨_, _, _, h, _⟩
          · omega
          · cases h)
      | some ad => exact ⟨ad.block, rfl⟩
    obtain ⟨hg6, cur, hG, hcs, hxo⟩ := hxg gx hgx
    have X13' := X13
    rw [hxo] at X13'
    refine wp_seq (wp_block (reg_all (aw_r15 (by kernel_rfl) _ F14 q17 q20 X13' hil hG hcs ?_)))
    intro a15 w15 cur' F15 G15 hcs' t15
    show Code.wp _ _ _ _ _
    refine reg_mono (aw_r14 (by kernel_rfl) _ F15 q20 (by omega) ?_)
    intro a16 F16
    try dsimp only at F16
    have ne17 : ¬ b17 = gx := fun e => by subst e; rw [X13] at hG; injection hG with hG; injection hG with _ hG _; exact absurd hG (by decide)
    have ne13 : ¬ b13 = gx := fun e => by subst e; rw [Y13] at hG; injection hG with hG; injection hG with _ hG _; exact absurd hG (by decide)
    refine ⟨⟨i + 1, _, by omega, F16, q2, q7, q8, q9, q10, q11, q12, q13, q14, q15, q17, rfl, t15.at X13 ne17, t15.at Y13 ne13, t15.row R13 (fun k hk e => by subst e; have := hyb _ hk; omega), B13.trans (t15.toBelow B13.size (fun k hk e => by subst e; have := B6.size; omega)), ?_⟩, ?_⟩
    · intro j hj
      rw [hgx] at hj
      obtain rfl := Option.some.inj hj
      exact ⟨hg6, cur', G15, by omega, hxo⟩
    · rw [hmi, F16.s20]
      simp [intOf]
      omega
  · rw [decide_eq_false hil] at s69
    refine wp_cond_false s69 (wp_exit ?_)
    exact ⟨_, F14, q2, q7, q8, q9, q10, q11, q12, q13, q14, q15, Y13, R13, B13⟩
end Go.Proofs.YtoolbbibnegdnaaGreatDoor
