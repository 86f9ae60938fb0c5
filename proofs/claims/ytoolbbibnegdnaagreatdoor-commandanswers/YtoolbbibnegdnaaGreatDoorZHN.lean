/-
  carillonref14's Answered: its regions but three (mkrp.py)
-/
import Derived.Test.YtoolbbibnegdnaaGreatDoorZHM
import Derived.Test.YtoolbbibnegdnaaGreatDoorZHA
import Derived.Test.YtoolbbibnegdnaaGreatDoorZLastA
import Derived.Test.YtoolbbibnegdnaaGreatDoorZHD
namespace Go.Proofs.YtoolbbibnegdnaaGreatDoor
open Go.RowKit

attribute [local go_sem ↓] Go.wp_at_zero Go.wp_at_succ
set_option linter.unusedSimpArgs false
set_option linter.unusedVariables false
set_option maxRecDepth 100000 in
theorem frame_rz (t : Array Value) (h : t.size = 133) : ∃ u : Nat → Value, t = List.toArray (u 0 :: u 1 :: u 2 :: u 3 :: u 4 :: u 5 :: u 6 :: u 7 :: u 8 :: u 9 :: u 10 :: u 11 :: u 12 :: u 13 :: u 14 :: u 15 :: u 16 :: u 17 :: u 18 :: u 19 :: u 20 :: u 21 :: u 22 :: u 23 :: u 24 :: u 25 :: u 26 :: u 27 :: u 28 :: u 29 :: u 30 :: u 31 :: u 32 :: u 33 :: u 34 :: u 35 :: u 36 :: u 37 :: u 38 :: u 39 :: u 40 :: u 41 :: u 42 :: u 43 :: u 44 :: u 45 :: u 46 :: u 47 :: u 48 :: u 49 :: u 50 :: u 51 :: u 52 :: u 53 :: u 54 :: u 55 :: u 56 :: u 57 :: u 58 :: u 59 :: u 60 :: u 61 :: u 62 :: u 63 :: u 64 :: u 65 :: u 66 :: u 67 :: u 68 :: u 69 :: u 70 :: u 71 :: u 72 :: u 73 :: u 74 :: u 75 :: u 76 :: u 77 :: u 78 :: u 79 :: u 80 :: u 81 :: u 82 :: u 83 :: u 84 :: u 85 :: u 86 :: u 87 :: u 88 :: u 89 :: u 90 :: u 91 :: u 92 :: u 93 :: u 94 :: u 95 :: u 96 :: u 97 :: u 98 :: u 99 :: u 100 :: u 101 :: u 102 :: u 103 :: u 104 :: u 105 :: u 106 :: u 107 :: u 108 :: u 109 :: u 110 :: u 111 :: u 112 :: u 113 :: u 114 :: u 115 :: u 116 :: u 117 :: u 118 :: u 119 :: u 120 :: u 121 :: u 122 :: u 123 :: u 124 :: u 125 :: u 126 :: u 127 :: u 128 :: u 129 :: u 130 :: u 131 :: u 132 :: []) := by
  refine ⟨fun i => t.getD i undef, ?_⟩
  have e : (List.toArray ((fun i => t.getD i undef) 0 :: (fun i => t.getD i undef) 1 :: (fun i => t.getD i undef) 2 :: (fun i => t.getD i undef) 3 :: (fun i => t.getD i undef) 4 :: (fun i => t.getD i undef) 5 :: (fun i => t.getD i undef) 6 :: (fun i => t.getD i undef) 7 :: (fun i => t.getD i undef) 8 :: (fun i => t.getD i undef) 9 :: (fun i => t.getD i undef) 10 :: (fun i => t.getD i undef) 11 :: (fun i => t.getD i undef) 12 :: (fun i => t.getD i undef) 13 :: (fun i => t.getD i undef) 14 :: (fun i => t.getD i undef) 15 :: (fun i => t.getD i undef) 16 :: (fun i => t.getD i undef) 17 :: (fun i => t.getD i undef) 18 :: (fun i => t.getD i undef) 19 :: (fun i => t.getD i undef) 20 :: (fun i => t.getD i undef) 21 :: (fun i => t.getD i undef) 22 :: (fun i => t.getD i undef) 23 :: (fun i => t.getD i undef) 24 :: (fun i => t.getD i undef) 25 :: (fun i => t.getD i undef) 26 :: (fun i => t.getD i undef) 27 :: (fun i => t.getD i undef) 28 :: (fun i => t.getD i undef) 29 :: (fun i => t.getD i undef) 30 :: (fun i => t.getD i undef) 31 :: (fun i => t.getD i undef) 32 :: (fun i => t.getD i undef) 33 :: (fun i => t.getD i undef) 34 :: (fun i => t.getD i undef) 35 :: (fun i => t.getD i undef) 36 :: (fun i => t.getD i undef) 37 :: (fun i => t.getD i undef) 38 :: (fun i => t.getD i undef) 39 :: (fun i => t.getD i undef) 40 :: (fun i => t.getD i undef) 41 :: (fun i => t.getD i undef) 42 :: (fun i => t.getD i undef) 43 :: (fun i => t.getD i undef) 44 :: (fun i => t.getD i undef) 45 :: (fun i => t.getD i undef) 46 :: (fun i => t.getD i undef) 47 :: (fun i => t.getD i undef) 48 :: (fun i => t.getD i undef) 49 :: (fun i => t.getD i undef) 50 :: (fun i => t.getD i undef) 51 :: (fun i => t.getD i undef) 52 :: (fun i => t.getD i undef) 53 :: (fun i => t.getD i undef) 54 :: (fun i => t.getD i undef) 55 :: (fun i => t.getD i undef) 56 :: (fun i => t.getD i undef) 57 :: (fun i => t.getD i undef) 58 :: (fun i => t.getD i undef) 59 :: (fun i => t.getD i undef) 60 :: (fun i => t.getD i undef) 61 :: (fun i => t.getD i undef) 62 :: (fun i => t.getD i undef) 63 :: (fun i => t.getD i undef) 64 :: (fun i => t.getD i undef) 65 :: (fun i => t.getD i undef) 66 :: (fun i => t.getD i undef) 67 :: (fun i => t.getD i undef) 68 :: (fun i => t.getD i undef) 69 :: (fun i => t.getD i undef) 70 :: (fun i => t.getD i undef) 71 :: (fun i => t.getD i undef) 72 :: (fun i => t.getD i undef) 73 :: (fun i => t.getD i undef) 74 :: (fun i => t.getD i undef) 75 :: (fun i => t.getD i undef) 76 :: (fun i => t.getD i undef) 77 :: (fun i => t.getD i undef) 78 :: (fun i => t.getD i undef) 79 :: (fun i => t.getD i undef) 80 :: (fun i => t.getD i undef) 81 :: (fun i => t.getD i undef) 82 :: (fun i => t.getD i undef) 83 :: (fun i => t.getD i undef) 84 :: (fun i => t.getD i undef) 85 :: (fun i => t.getD i undef) 86 :: (fun i => t.getD i undef) 87 :: (fun i => t.getD i undef) 88 :: (fun i => t.getD i undef) 89 :: (fun i => t.getD i undef) 90 :: (fun i => t.getD i undef) 91 :: (fun i => t.getD i undef) 92 :: (fun i => t.getD i undef) 93 :: (fun i => t.getD i undef) 94 :: (fun i => t.getD i undef) 95 :: (fun i => t.getD i undef) 96 :: (fun i => t.getD i undef) 97 :: (fun i => t.getD i undef) 98 :: (fun i => t.getD i undef) 99 :: (fun i => t.getD i undef) 100 :: (fun i => t.getD i undef) 101 :: (fun i => t.getD i undef) 102 :: (fun i => t.getD i undef) 103 :: (fun i => t.getD i undef) 104 :: (fun i => t.getD i undef) 105 :: (fun i => t.getD i undef) 106 :: (fun i => t.getD i undef) 107 :: (fun i => t.getD i undef) 108 :: (fun i => t.getD i undef) 109 :: (fun i => t.getD i undef) 110 :: (fun i => t.getD i undef) 111 :: (fun i => t.getD i undef) 112 :: (fun i => t.getD i undef) 113 :: (fun i => t.getD i undef) 114 :: (fun i => t.getD i undef) 115 :: (fun i => t.getD i undef) 116 :: (fun i => t.getD i undef) 117 :: (fun i => t.getD i undef) 118 :: (fun i => t.getD i undef) 119 :: (fun i => t.getD i undef) 120 :: (fun i => t.getD i undef) 121 :: (fun i => t.getD i undef) 122 :: (fun i => t.getD i undef) 123 :: (fun i => t.getD i undef) 124 :: (fun i => t.getD i undef) 125 :: (fun i => t.getD i undef) 126 :: (fun i => t.getD i undef) 127 :: (fun i => t.getD i undef) 128 :: (fun i => t.getD i undef) 129 :: (fun i => t.getD i undef) 130 :: (fun i => t.getD i undef) 131 :: (fun i => t.getD i undef) 132 :: []) : Array Value) = ((List.range 133).map fun i => t.getD i undef).toArray := rfl
  refine Eq.trans ?_ e.symm
  apply Array.ext
  · simp [h]
  · intro k h1 h2
    simp [Array.getD, h1]
/-- The slots that matter. -/
structure Vrz where
  v0 : Value
  v2 : Value
  v3 : Value
  v4 : Value
  v5 : Value
  v6 : Value
  v7 : Value
  v8 : Value
  v9 : Value
  v10 : Value
  v11 : Value
  v12 : Value
  v20 : Value
  v49 : Value
  v66 : Value
  v83 : Value
  v125 : Value
structure Frz (a : Act) (v : Vrz) : Prop where
  size : a.tmps.size = 133
  defers : a.defers = []
  s0 : a.tmps.getD 0 undef = v.v0
  s2 : a.tmps.getD 2 undef = v.v2
  s3 : a.tmps.getD 3 undef = v.v3
  s4 : a.tmps.getD 4 undef = v.v4
  s5 : a.tmps.getD 5 undef = v.v5
  s6 : a.tmps.getD 6 undef = v.v6
  s7 : a.tmps.getD 7 undef = v.v7
  s8 : a.tmps.getD 8 undef = v.v8
  s9 : a.tmps.getD 9 undef = v.v9
  s10 : a.tmps.getD 10 undef = v.v10
  s11 : a.tmps.getD 11 undef = v.v11
  s12 : a.tmps.getD 12 undef = v.v12
  s20 : a.tmps.getD 20 undef = v.v20
  s49 : a.tmps.getD 49 undef = v.v49
  s66 : a.tmps.getD 66 undef = v.v66
  s83 : a.tmps.getD 83 undef = v.v83
  s125 : a.tmps.getD 125 undef = v.v125
set_option maxHeartbeats 8000000 in
set_option maxRecDepth 100000 in
theorem rz_r0 {K : Act → World → Prop} {c : Code} (hc : regOf (Tryz.f12.body.getD .skip) 0 = some c) (a : Act) {v : Vrz} {wq : World}  (hF : Frz a v) (hQ : ∀ a' w' b, Frz a' { v with v2 := .int .i64 0, v3 := .pointer (some ⟨b, 0, none⟩), v4 := .int .i64 0 } → w'.heap[b]? = some (.cells #[.int .i64 0, .int .i64 0, .slice none 0 0] 37 (0, 0)) → wq.heap.size ≤ b → Below wq.heap.size wq w' → K a' w') :
    Code.wp Tryz.prog c (Exit.then K fun _ _ _ => False) a wq := by
  have HQ := hide hQ
  clear hQ
  obtain ⟨t', d'⟩ := a
  obtain ⟨v0, v2, v3, v4, v5, v6, v7, v8, v9, v10, v11, v12, v20, v49, v66, v83, v125⟩ := v
  obtain ⟨hs1, hd1, q0, q2, q3, q4, q5, q6, q7, q8, q9, q10, q11, q12, q20, q49, q66, q83, q125⟩ := hF
  obtain ⟨u, hu⟩ := frame_rz t' hs1
  simp only at hd1 q0 q2 q3 q4 q5 q6 q7 q8 q9 q10 q11 q12 q20 q49 q66 q83 q125
  subst hu hd1
  have e0 : u 0 = v0 := q0
  have e2 : u 2 = v2 := q2
  have e3 : u 3 = v3 := q3
  have e4 : u 4 = v4 := q4
  have e5 : u 5 = v5 := q5
  have e6 : u 6 = v6 := q6
  have e7 : u 7 = v7 := q7
  have e8 : u 8 = v8 := q8
  have e9 : u 9 = v9 := q9
  have e10 : u 10 = v10 := q10
  have e11 : u 11 = v11 := q11
  have e12 : u 12 = v12 := q12
  have e20 : u 20 = v20 := q20
  have e49 : u 49 = v49 := q49
  have e66 : u 66 = v66 := q66
  have e83 : u 83 = v83 := q83
  have e125 : u 125 = v125 := q125
  rw [e0, e2, e3, e4, e5, e6, e7, e8, e9, e10, e11, e12, e20, e49, e66, e83, e125]
  clear q0 e0 q2 e2 q3 e3 q4 e4 q5 e5 q6 e6 q7 e7 q8 e8 q9 e9 q10 e10 q11 e11 q12 e12 q20 e20 q49 e49 q66 e66 q83 e83 q125 e125 hs1
  simp only [Tryz.f12, Option.getD_some, regOf] at hc
  injection hc with hc
  subst hc
  generalize u 1 = u1
  generalize u 13 = u13
  generalize u 14 = u14
  generalize u 15 = u15
  generalize u 16 = u16
  generalize u 17 = u17
  generalize u 18 = u18
  generalize u 19 = u19
  generalize u 21 = u21
  generalize u 22 = u22
  generalize u 23 = u23
  generalize u 24 = u24
  generalize u 25 = u25
  generalize u 26 = u26
  generalize u 27 = u27
  generalize u 28 = u28
  generalize u 29 = u29
  generalize u 30 = u30
  generalize u 31 = u31
  generalize u 32 = u32
  generalize u 33 = u33
  generalize u 34 = u34
  generalize u 35 = u35
  generalize u 36 = u36
  generalize u 37 = u37
  generalize u 38 = u38
  generalize u 39 = u39
  generalize u 40 = u40
  generalize u 41 = u41
  generalize u 42 = u42
  generalize u 43 = u43
  generalize u 44 = u44
  generalize u 45 = u45
  generalize u 46 = u46
  generalize u 47 = u47
  generalize u 48 = u48
  generalize u 50 = u50
  generalize u 51 = u51
  generalize u 52 = u52
  generalize u 53 = u53
  generalize u 54 = u54
  generalize u 55 = u55
  generalize u 56 = u56
  generalize u 57 = u57
  generalize u 58 = u58
  generalize u 59 = u59
  generalize u 60 = u60
  generalize u 61 = u61
  generalize u 62 = u62
  generalize u 63 = u63
  generalize u 64 = u64
  generalize u 65 = u65
  generalize u 67 = u67
  generalize u 68 = u68
  generalize u 69 = u69
  generalize u 70 = u70
  generalize u 71 = u71
  generalize u 72 = u72
  generalize u 73 = u73
  generalize u 74 = u74
  generalize u 75 = u75
  generalize u 76 = u76
  generalize u 77 = u77
  generalize u 78 = u78
  generalize u 79 = u79
  generalize u 80 = u80
  generalize u 81 = u81
  generalize u 82 = u82
  generalize u 84 = u84
  generalize u 85 = u85
  generalize u 86 = u86
  generalize u 87 = u87
  generalize u 88 = u88
  generalize u 89 = u89
  generalize u 90 = u90
  generalize u 91 = u91
  generalize u 92 = u92
  generalize u 93 = u93
  generalize u 94 = u94
  generalize u 95 = u95
  generalize u 96 = u96
  generalize u 97 = u97
  generalize u 98 = u98
  generalize u 99 = u99
  generalize u 100 = u100
  generalize u 101 = u101
  generalize u 102 = u102
  generalize u 103 = u103
  generalize u 104 = u104
  generalize u 105 = u105
  generalize u 106 = u106
  generalize u 107 = u107
  generalize u 108 = u108
  generalize u 109 = u109
  generalize u 110 = u110
  generalize u 111 = u111
  generalize u 112 = u112
  generalize u 113 = u113
  generalize u 114 = u114
  generalize u 115 = u115
  generalize u 116 = u116
  generalize u 117 = u117
  generalize u 118 = u118
  generalize u 119 = u119
  generalize u 120 = u120
  generalize u 121 = u121
  generalize u 122 = u122
  generalize u 123 = u123
  generalize u 124 = u124
  generalize u 126 = u126
  generalize u 127 = u127
  generalize u 128 = u128
  generalize u 129 = u129
  generalize u 130 = u130
  generalize u 131 = u131
  generalize u 132 = u132
  clear u
  go_wp2
  exact HQ.out _ _ wq.heap.size ⟨rfl, rfl, rfl, rfl, rfl, rfl, rfl, rfl, rfl, rfl, rfl, rfl, rfl, rfl, rfl, rfl, rfl, rfl, rfl⟩ (heap_alloc_new _ _) (Nat.le_refl _) ((Below.refl _ _).alloc (Nat.le_refl _) _)
set_option maxHeartbeats 8000000 in
set_option maxRecDepth 100000 in
theorem rz_r1 {K : Act → World → Prop} {c : Code} (hc : regOf (Tryz.f12.body.getD .skip) 1 = some c) (a : Act) {v : Vrz} {wq : World} {s body : ByteArray} {m er : Int} (hF : Frz a v) (h0v : v.v0 = .string s) (hC : ∀ W, Below wq.heap.size wq W → Calls Tryz.prog 23 #[.string s] W fun e w' => e = .returned (.tuple #[.string body, .int .i64 m, .int .i64 er]) ∧ Below W.heap.size W w')
    (hQ : ∀ a' w', Frz a' { v with v5 := .string body, v6 := .int .i64 m, v7 := .int .i64 er } → Below wq.heap.size wq w' → K a' w') :
    Code.wp Tryz.prog c (Exit.then K fun _ _ _ => False) a wq := by
  have HQ := hide hQ
  clear hQ
  obtain ⟨t', d'⟩ := a
  obtain ⟨v0, v2, v3, v4, v5, v6, v7, v8, v9, v10, v11, v12, v20, v49, v66, v83, v125⟩ := v
  simp only at h0v HQ
  subst h0v
  obtain ⟨hs1, hd1, q0, q2, q3, q4, q5, q6, q7, q8, q9, q10, q11, q12, q20, q49, q66, q83, q125⟩ := hF
  obtain ⟨u, hu⟩ := frame_rz t' hs1
  simp only at hd1 q0 q2 q3 q4 q5 q6 q7 q8 q9 q10 q11 q12 q20 q49 q66 q83 q125
  subst hu hd1
  have e0 : u 0 = .string s := q0
  have e2 : u 2 = v2 := q2
  have e3 : u 3 = v3 := q3
  have e4 : u 4 = v4 := q4
  have e5 : u 5 = v5 := q5
  have e6 : u 6 = v6 := q6
  have e7 : u 7 = v7 := q7
  have e8 : u 8 = v8 := q8
  have e9 : u 9 = v9 := q9
  have e10 : u 10 = v10 := q10
  have e11 : u 11 = v11 := q11
  have e12 : u 12 = v12 := q12
  have e20 : u 20 = v20 := q20
  have e49 : u 49 = v49 := q49
  have e66 : u 66 = v66 := q66
  have e83 : u 83 = v83 := q83
  have e125 : u 125 = v125 := q125
  rw [e0, e2, e3, e4, e5, e6, e7, e8, e9, e10, e11, e12, e20, e49, e66, e83, e125]
  clear q0 e0 q2 e2 q3 e3 q4 e4 q5 e5 q6 e6 q7 e7 q8 e8 q9 e9 q10 e10 q11 e11 q12 e12 q20 e20 q49 e49 q66 e66 q83 e83 q125 e125 hs1
  simp only [Tryz.f12, Option.getD_some, regOf] at hc
  injection hc with hc
  subst hc
  generalize u 1 = u1
  generalize u 13 = u13
  generalize u 14 = u14
  generalize u 15 = u15
  generalize u 16 = u16
  generalize u 17 = u17
  generalize u 18 = u18
  generalize u 19 = u19
  generalize u 21 = u21
  generalize u 22 = u22
  generalize u 23 = u23
  generalize u 24 = u24
  generalize u 25 = u25
  generalize u 26 = u26
  generalize u 27 = u27
  generalize u 28 = u28
  generalize u 29 = u29
  generalize u 30 = u30
  generalize u 31 = u31
  generalize u 32 = u32
  generalize u 33 = u33
  generalize u 34 = u34
  generalize u 35 = u35
  generalize u 36 = u36
  generalize u 37 = u37
  generalize u 38 = u38
  generalize u 39 = u39
  generalize u 40 = u40
  generalize u 41 = u41
  generalize u 42 = u42
  generalize u 43 = u43
  generalize u 44 = u44
  generalize u 45 = u45
  generalize u 46 = u46
  generalize u 47 = u47
  generalize u 48 = u48
  generalize u 50 = u50
  generalize u 51 = u51
  generalize u 52 = u52
  generalize u 53 = u53
  generalize u 54 = u54
  generalize u 55 = u55
  generalize u 56 = u56
  generalize u 57 = u57
  generalize u 58 = u58
  generalize u 59 = u59
  generalize u 60 = u60
  generalize u 61 = u61
  generalize u 62 = u62
  generalize u 63 = u63
  generalize u 64 = u64
  generalize u 65 = u65
  generalize u 67 = u67
  generalize u 68 = u68
  generalize u 69 = u69
  generalize u 70 = u70
  generalize u 71 = u71
  generalize u 72 = u72
  generalize u 73 = u73
  generalize u 74 = u74
  generalize u 75 = u75
  generalize u 76 = u76
  generalize u 77 = u77
  generalize u 78 = u78
  generalize u 79 = u79
  generalize u 80 = u80
  generalize u 81 = u81
  generalize u 82 = u82
  generalize u 84 = u84
  generalize u 85 = u85
  generalize u 86 = u86
  generalize u 87 = u87
  generalize u 88 = u88
  generalize u 89 = u89
  generalize u 90 = u90
  generalize u 91 = u91
  generalize u 92 = u92
  generalize u 93 = u93
  generalize u 94 = u94
  generalize u 95 = u95
  generalize u 96 = u96
  generalize u 97 = u97
  generalize u 98 = u98
  generalize u 99 = u99
  generalize u 100 = u100
  generalize u 101 = u101
  generalize u 102 = u102
  generalize u 103 = u103
  generalize u 104 = u104
  generalize u 105 = u105
  generalize u 106 = u106
  generalize u 107 = u107
  generalize u 108 = u108
  generalize u 109 = u109
  generalize u 110 = u110
  generalize u 111 = u111
  generalize u 112 = u112
  generalize u 113 = u113
  generalize u 114 = u114
  generalize u 115 = u115
  generalize u 116 = u116
  generalize u 117 = u117
  generalize u 118 = u118
  generalize u 119 = u119
  generalize u 120 = u120
  generalize u 121 = u121
  generalize u 122 = u122
  generalize u 123 = u123
  generalize u 124 = u124
  generalize u 126 = u126
  generalize u 127 = u127
  generalize u 128 = u128
  generalize u 129 = u129
  generalize u 130 = u130
  generalize u 131 = u131
  generalize u 132 = u132
  clear u
  have HC := hide hC
  clear hC
  go_wp2_with (go_at_call 23; refine (HC.out _ (Below.refl _ _)).mono ?_; rintro e w1 ⟨rfl, b1⟩)
  exact HQ.out _ _ ⟨rfl, rfl, rfl, rfl, rfl, rfl, rfl, rfl, rfl, rfl, rfl, rfl, rfl, rfl, rfl, rfl, rfl, rfl, rfl⟩ b1
set_option maxHeartbeats 8000000 in
set_option maxRecDepth 100000 in
theorem rz_r2a {K : Act → World → Prop} {c : Code} (hc : regOf (Tryz.f12.body.getD .skip) 2 = some c) (a : Act) {v : Vrz} {wq : World} {er : Int} (hF : Frz a v) (h7v : v.v7 = .int .i64 er) (hz : er ≠ 0)
    (hQ : ∀ a', Frz a' { v with v20 := .bool true } → K a' wq) :
    Code.wp Tryz.prog c (Exit.then K fun _ _ _ => False) a wq := by
  have HQ := hide hQ
  clear hQ
  obtain ⟨t', d'⟩ := a
  obtain ⟨v0, v2, v3, v4, v5, v6, v7, v8, v9, v10, v11, v12, v20, v49, v66, v83, v125⟩ := v
  simp only at h7v HQ
  subst h7v
  obtain ⟨hs1, hd1, q0, q2, q3, q4, q5, q6, q7, q8, q9, q10, q11, q12, q20, q49, q66, q83, q125⟩ := hF
  obtain ⟨u, hu⟩ := frame_rz t' hs1
  simp only at hd1 q0 q2 q3 q4 q5 q6 q7 q8 q9 q10 q11 q12 q20 q49 q66 q83 q125
  subst hu hd1
  have e0 : u 0 = v0 := q0
  have e2 : u 2 = v2 := q2
  have e3 : u 3 = v3 := q3
  have e4 : u 4 = v4 := q4
  have e5 : u 5 = v5 := q5
  have e6 : u 6 = v6 := q6
  have e7 : u 7 = .int .i64 er := q7
  have e8 : u 8 = v8 := q8
  have e9 : u 9 = v9 := q9
  have e10 : u 10 = v10 := q10
  have e11 : u 11 = v11 := q11
  have e12 : u 12 = v12 := q12
  have e20 : u 20 = v20 := q20
  have e49 : u 49 = v49 := q49
  have e66 : u 66 = v66 := q66
  have e83 : u 83 = v83 := q83
  have e125 : u 125 = v125 := q125
  rw [e0, e2, e3, e4, e5, e6, e7, e8, e9, e10, e11, e12, e20, e49, e66, e83, e125]
  clear q0 e0 q2 e2 q3 e3 q4 e4 q5 e5 q6 e6 q7 e7 q8 e8 q9 e9 q10 e10 q11 e11 q12 e12 q20 e20 q49 e49 q66 e66 q83 e83 q125 e125 hs1
  simp only [Tryz.f12, Option.getD_some, regOf] at hc
  injection hc with hc
  subst hc
  generalize u 1 = u1
  generalize u 13 = u13
  generalize u 14 = u14
  generalize u 15 = u15
  generalize u 16 = u16
  generalize u 17 = u17
  generalize u 18 = u18
  generalize u 19 = u19
  generalize u 21 = u21
  generalize u 22 = u22
  generalize u 23 = u23
  generalize u 24 = u24
  generalize u 25 = u25
  generalize u 26 = u26
  generalize u 27 = u27
  generalize u 28 = u28
  generalize u 29 = u29
  generalize u 30 = u30
  generalize u 31 = u31
  generalize u 32 = u32
  generalize u 33 = u33
  generalize u 34 = u34
  generalize u 35 = u35
  generalize u 36 = u36
  generalize u 37 = u37
  generalize u 38 = u38
  generalize u 39 = u39
  generalize u 40 = u40
  generalize u 41 = u41
  generalize u 42 = u42
  generalize u 43 = u43
  generalize u 44 = u44
  generalize u 45 = u45
  generalize u 46 = u46
  generalize u 47 = u47
  generalize u 48 = u48
  generalize u 50 = u50
  generalize u 51 = u51
  generalize u 52 = u52
  generalize u 53 = u53
  generalize u 54 = u54
  generalize u 55 = u55
  generalize u 56 = u56
  generalize u 57 = u57
  generalize u 58 = u58
  generalize u 59 = u59
  generalize u 60 = u60
  generalize u 61 = u61
  generalize u 62 = u62
  generalize u 63 = u63
  generalize u 64 = u64
  generalize u 65 = u65
  generalize u 67 = u67
  generalize u 68 = u68
  generalize u 69 = u69
  generalize u 70 = u70
  generalize u 71 = u71
  generalize u 72 = u72
  generalize u 73 = u73
  generalize u 74 = u74
  generalize u 75 = u75
  generalize u 76 = u76
  generalize u 77 = u77
  generalize u 78 = u78
  generalize u 79 = u79
  generalize u 80 = u80
  generalize u 81 = u81
  generalize u 82 = u82
  generalize u 84 = u84
  generalize u 85 = u85
  generalize u 86 = u86
  generalize u 87 = u87
  generalize u 88 = u88
  generalize u 89 = u89
  generalize u 90 = u90
  generalize u 91 = u91
  generalize u 92 = u92
  generalize u 93 = u93
  generalize u 94 = u94
  generalize u 95 = u95
  generalize u 96 = u96
  generalize u 97 = u97
  generalize u 98 = u98
  generalize u 99 = u99
  generalize u 100 = u100
  generalize u 101 = u101
  generalize u 102 = u102
  generalize u 103 = u103
  generalize u 104 = u104
  generalize u 105 = u105
  generalize u 106 = u106
  generalize u 107 = u107
  generalize u 108 = u108
  generalize u 109 = u109
  generalize u 110 = u110
  generalize u 111 = u111
  generalize u 112 = u112
  generalize u 113 = u113
  generalize u 114 = u114
  generalize u 115 = u115
  generalize u 116 = u116
  generalize u 117 = u117
  generalize u 118 = u118
  generalize u 119 = u119
  generalize u 120 = u120
  generalize u 121 = u121
  generalize u 122 = u122
  generalize u 123 = u123
  generalize u 124 = u124
  generalize u 126 = u126
  generalize u 127 = u127
  generalize u 128 = u128
  generalize u 129 = u129
  generalize u 130 = u130
  generalize u 131 = u131
  generalize u 132 = u132
  clear u
  have g : ¬ er = 0 := hz
  have g2 : (er == 0) = false := by simpa using hz
  clear hz
  go_wp2
  exact HQ.out _ ⟨rfl, rfl, rfl, rfl, rfl, rfl, rfl, rfl, rfl, rfl, rfl, rfl, rfl, rfl, (by first | rfl | (simp; done) | (simp; assumption)), rfl, rfl, rfl, rfl⟩
set_option maxHeartbeats 8000000 in
set_option maxRecDepth 100000 in
theorem rz_r2b {K : Act → World → Prop} {c : Code} (hc : regOf (Tryz.f12.body.getD .skip) 2 = some c) (a : Act) {v : Vrz} {wq : World}  (hF : Frz a v) (h7v : v.v7 = .int .i64 0) (hQ : ∀ a', Frz a' { v with v20 := .bool false } → K a' wq) :
    Code.wp Tryz.prog c (Exit.then K fun _ _ _ => False) a wq := by
  have HQ := hide hQ
  clear hQ
  obtain ⟨t', d'⟩ := a
  obtain ⟨v0, v2, v3, v4, v5, v6, v7, v8, v9, v10, v11, v12, v20, v49, v66, v83, v125⟩ := v
  simp only at h7v HQ
  subst h7v
  obtain ⟨hs1, hd1, q0, q2, q3, q4, q5, q6, q7, q8, q9, q10, q11, q12, q20, q49, q66, q83, q125⟩ := hF
  obtain ⟨u, hu⟩ := frame_rz t' hs1
  simp only at hd1 q0 q2 q3 q4 q5 q6 q7 q8 q9 q10 q11 q12 q20 q49 q66 q83 q125
  subst hu hd1
  have e0 : u 0 = v0 := q0
  have e2 : u 2 = v2 := q2
  have e3 : u 3 = v3 := q3
  have e4 : u 4 = v4 := q4
  have e5 : u 5 = v5 := q5
  have e6 : u 6 = v6 := q6
  have e7 : u 7 = .int .i64 0 := q7
  have e8 : u 8 = v8 := q8
  have e9 : u 9 = v9 := q9
  have e10 : u 10 = v10 := q10
  have e11 : u 11 = v11 := q11
  have e12 : u 12 = v12 := q12
  have e20 : u 20 = v20 := q20
  have e49 : u 49 = v49 := q49
  have e66 : u 66 = v66 := q66
  have e83 : u 83 = v83 := q83
  have e125 : u 125 = v125 := q125
  rw [e0, e2, e3, e4, e5, e6, e7, e8, e9, e10, e11, e12, e20, e49, e66, e83, e125]
  clear q0 e0 q2 e2 q3 e3 q4 e4 q5 e5 q6 e6 q7 e7 q8 e8 q9 e9 q10 e10 q11 e11 q12 e12 q20 e20 q49 e49 q66 e66 q83 e83 q125 e125 hs1
  simp only [Tryz.f12, Option.getD_some, regOf] at hc
  injection hc with hc
  subst hc
  generalize u 1 = u1
  generalize u 13 = u13
  generalize u 14 = u14
  generalize u 15 = u15
  generalize u 16 = u16
  generalize u 17 = u17
  generalize u 18 = u18
  generalize u 19 = u19
  generalize u 21 = u21
  generalize u 22 = u22
  generalize u 23 = u23
  generalize u 24 = u24
  generalize u 25 = u25
  generalize u 26 = u26
  generalize u 27 = u27
  generalize u 28 = u28
  generalize u 29 = u29
  generalize u 30 = u30
  generalize u 31 = u31
  generalize u 32 = u32
  generalize u 33 = u33
  generalize u 34 = u34
  generalize u 35 = u35
  generalize u 36 = u36
  generalize u 37 = u37
  generalize u 38 = u38
  generalize u 39 = u39
  generalize u 40 = u40
  generalize u 41 = u41
  generalize u 42 = u42
  generalize u 43 = u43
  generalize u 44 = u44
  generalize u 45 = u45
  generalize u 46 = u46
  generalize u 47 = u47
  generalize u 48 = u48
  generalize u 50 = u50
  generalize u 51 = u51
  generalize u 52 = u52
  generalize u 53 = u53
  generalize u 54 = u54
  generalize u 55 = u55
  generalize u 56 = u56
  generalize u 57 = u57
  generalize u 58 = u58
  generalize u 59 = u59
  generalize u 60 = u60
  generalize u 61 = u61
  generalize u 62 = u62
  generalize u 63 = u63
  generalize u 64 = u64
  generalize u 65 = u65
  generalize u 67 = u67
  generalize u 68 = u68
  generalize u 69 = u69
  generalize u 70 = u70
  generalize u 71 = u71
  generalize u 72 = u72
  generalize u 73 = u73
  generalize u 74 = u74
  generalize u 75 = u75
  generalize u 76 = u76
  generalize u 77 = u77
  generalize u 78 = u78
  generalize u 79 = u79
  generalize u 80 = u80
  generalize u 81 = u81
  generalize u 82 = u82
  generalize u 84 = u84
  generalize u 85 = u85
  generalize u 86 = u86
  generalize u 87 = u87
  generalize u 88 = u88
  generalize u 89 = u89
  generalize u 90 = u90
  generalize u 91 = u91
  generalize u 92 = u92
  generalize u 93 = u93
  generalize u 94 = u94
  generalize u 95 = u95
  generalize u 96 = u96
  generalize u 97 = u97
  generalize u 98 = u98
  generalize u 99 = u99
  generalize u 100 = u100
  generalize u 101 = u101
  generalize u 102 = u102
  generalize u 103 = u103
  generalize u 104 = u104
  generalize u 105 = u105
  generalize u 106 = u106
  generalize u 107 = u107
  generalize u 108 = u108
  generalize u 109 = u109
  generalize u 110 = u110
  generalize u 111 = u111
  generalize u 112 = u112
  generalize u 113 = u113
  generalize u 114 = u114
  generalize u 115 = u115
  generalize u 116 = u116
  generalize u 117 = u117
  generalize u 118 = u118
  generalize u 119 = u119
  generalize u 120 = u120
  generalize u 121 = u121
  generalize u 122 = u122
  generalize u 123 = u123
  generalize u 124 = u124
  generalize u 126 = u126
  generalize u 127 = u127
  generalize u 128 = u128
  generalize u 129 = u129
  generalize u 130 = u130
  generalize u 131 = u131
  generalize u 132 = u132
  clear u
  go_wp2
  exact HQ.out _ ⟨rfl, rfl, rfl, rfl, rfl, rfl, rfl, rfl, rfl, rfl, rfl, rfl, rfl, rfl, (by first | rfl | (simp; done) | (simp; assumption)), rfl, rfl, rfl, rfl⟩
set_option maxHeartbeats 8000000 in
set_option maxRecDepth 100000 in
theorem rz_r3 {K : Act → World → Prop} {c : Code} (hc : regOf (Tryz.f12.body.getD .skip) 3 = some c) (a : Act) {v : Vrz} {wq : World} {b B : Nat} {er : Int} (hF : Frz a v) (h3v : v.v3 = .pointer (some ⟨b, 0, none⟩)) (h7v : v.v7 = .int .i64 er) (hB : wq.heap[b]? = some (.cells #[.int .i64 0, .int .i64 0, .slice none 0 0] 37 (0, 0))) (hbB : B ≤ b)
    (hQ : ∀ a' w', Frz a' { v with v2 := .int .i64 0, v4 := .int .i64 er } → w'.heap[b]? = some (.cells #[.int .i64 0, .int .i64 0, .slice none 0 0] 37 (0, 0)) → Below B wq w' → K a' w') :
    Code.wp Tryz.prog c (Exit.then K fun _ _ _ => False) a wq := by
  have HQ := hide hQ
  clear hQ
  obtain ⟨t', d'⟩ := a
  obtain ⟨v0, v2, v3, v4, v5, v6, v7, v8, v9, v10, v11, v12, v20, v49, v66, v83, v125⟩ := v
  simp only at h3v h7v HQ
  subst h3v h7v
  obtain ⟨hs1, hd1, q0, q2, q3, q4, q5, q6, q7, q8, q9, q10, q11, q12, q20, q49, q66, q83, q125⟩ := hF
  obtain ⟨u, hu⟩ := frame_rz t' hs1
  simp only at hd1 q0 q2 q3 q4 q5 q6 q7 q8 q9 q10 q11 q12 q20 q49 q66 q83 q125
  subst hu hd1
  have e0 : u 0 = v0 := q0
  have e2 : u 2 = v2 := q2
  have e3 : u 3 = .pointer (some ⟨b, 0, none⟩) := q3
  have e4 : u 4 = v4 := q4
  have e5 : u 5 = v5 := q5
  have e6 : u 6 = v6 := q6
  have e7 : u 7 = .int .i64 er := q7
  have e8 : u 8 = v8 := q8
  have e9 : u 9 = v9 := q9
  have e10 : u 10 = v10 := q10
  have e11 : u 11 = v11 := q11
  have e12 : u 12 = v12 := q12
  have e20 : u 20 = v20 := q20
  have e49 : u 49 = v49 := q49
  have e66 : u 66 = v66 := q66
  have e83 : u 83 = v83 := q83
  have e125 : u 125 = v125 := q125
  rw [e0, e2, e3, e4, e5, e6, e7, e8, e9, e10, e11, e12, e20, e49, e66, e83, e125]
  clear q0 e0 q2 e2 q3 e3 q4 e4 q5 e5 q6 e6 q7 e7 q8 e8 q9 e9 q10 e10 q11 e11 q12 e12 q20 e20 q49 e49 q66 e66 q83 e83 q125 e125 hs1
  simp only [Tryz.f12, Option.getD_some, regOf] at hc
  injection hc with hc
  subst hc
  generalize u 1 = u1
  generalize u 13 = u13
  generalize u 14 = u14
  generalize u 15 = u15
  generalize u 16 = u16
  generalize u 17 = u17
  generalize u 18 = u18
  generalize u 19 = u19
  generalize u 21 = u21
  generalize u 22 = u22
  generalize u 23 = u23
  generalize u 24 = u24
  generalize u 25 = u25
  generalize u 26 = u26
  generalize u 27 = u27
  generalize u 28 = u28
  generalize u 29 = u29
  generalize u 30 = u30
  generalize u 31 = u31
  generalize u 32 = u32
  generalize u 33 = u33
  generalize u 34 = u34
  generalize u 35 = u35
  generalize u 36 = u36
  generalize u 37 = u37
  generalize u 38 = u38
  generalize u 39 = u39
  generalize u 40 = u40
  generalize u 41 = u41
  generalize u 42 = u42
  generalize u 43 = u43
  generalize u 44 = u44
  generalize u 45 = u45
  generalize u 46 = u46
  generalize u 47 = u47
  generalize u 48 = u48
  generalize u 50 = u50
  generalize u 51 = u51
  generalize u 52 = u52
  generalize u 53 = u53
  generalize u 54 = u54
  generalize u 55 = u55
  generalize u 56 = u56
  generalize u 57 = u57
  generalize u 58 = u58
  generalize u 59 = u59
  generalize u 60 = u60
  generalize u 61 = u61
  generalize u 62 = u62
  generalize u 63 = u63
  generalize u 64 = u64
  generalize u 65 = u65
  generalize u 67 = u67
  generalize u 68 = u68
  generalize u 69 = u69
  generalize u 70 = u70
  generalize u 71 = u71
  generalize u 72 = u72
  generalize u 73 = u73
  generalize u 74 = u74
  generalize u 75 = u75
  generalize u 76 = u76
  generalize u 77 = u77
  generalize u 78 = u78
  generalize u 79 = u79
  generalize u 80 = u80
  generalize u 81 = u81
  generalize u 82 = u82
  generalize u 84 = u84
  generalize u 85 = u85
  generalize u 86 = u86
  generalize u 87 = u87
  generalize u 88 = u88
  generalize u 89 = u89
  generalize u 90 = u90
  generalize u 91 = u91
  generalize u 92 = u92
  generalize u 93 = u93
  generalize u 94 = u94
  generalize u 95 = u95
  generalize u 96 = u96
  generalize u 97 = u97
  generalize u 98 = u98
  generalize u 99 = u99
  generalize u 100 = u100
  generalize u 101 = u101
  generalize u 102 = u102
  generalize u 103 = u103
  generalize u 104 = u104
  generalize u 105 = u105
  generalize u 106 = u106
  generalize u 107 = u107
  generalize u 108 = u108
  generalize u 109 = u109
  generalize u 110 = u110
  generalize u 111 = u111
  generalize u 112 = u112
  generalize u 113 = u113
  generalize u 114 = u114
  generalize u 115 = u115
  generalize u 116 = u116
  generalize u 117 = u117
  generalize u 118 = u118
  generalize u 119 = u119
  generalize u 120 = u120
  generalize u 121 = u121
  generalize u 122 = u122
  generalize u 123 = u123
  generalize u 124 = u124
  generalize u 126 = u126
  generalize u 127 = u127
  generalize u 128 = u128
  generalize u 129 = u129
  generalize u 130 = u130
  generalize u 131 = u131
  generalize u 132 = u132
  clear u
  have c0 := box_cell hB 0 rfl
  have c1 := box_cell hB 1 rfl
  have c2 := box_cell hB 2 rfl
  have f0 := box_free hB 0
  have f1 := box_free hB 1
  have f2 := box_free hB 2
  have X := hide (box_set (box_set (box_set hB 0 (.int .i64 0)) 1 (.int .i64 0)) 2 (.slice none 0 0))
  have Y := hide ((((Below.refl B wq).setCell (p := ⟨b, 0, none⟩) hbB (.int .i64 0)).setCell (p := ⟨b, 1, none⟩) hbB (.int .i64 0)).setCell (p := ⟨b, 2, none⟩) hbB (.slice none 0 0))
  clear hB hbB
  go_wp2
  exact HQ.out _ _ ⟨rfl, rfl, rfl, rfl, rfl, rfl, rfl, rfl, rfl, rfl, rfl, rfl, rfl, rfl, rfl, rfl, rfl, rfl, rfl⟩ X.out Y.out
set_option maxHeartbeats 8000000 in
set_option maxRecDepth 100000 in
theorem rz_r6 {K : Act → World → Prop} {c : Code} (hc : regOf (Tryz.f12.body.getD .skip) 6 = some c) (a : Act) {v : Vrz} {wq : World} {b B : Nat}  (hF : Frz a v) (h3v : v.v3 = .pointer (some ⟨b, 0, none⟩)) (hB : wq.heap[b]? = some (.cells #[.int .i64 0, .int .i64 0, .slice none 0 0] 37 (0, 0))) (hbB : B ≤ b)
    (hQ : ∀ a' w', Frz a' { v with v2 := .int .i64 0, v4 := .int .i64 10 } → w'.heap[b]? = some (.cells #[.int .i64 0, .int .i64 0, .slice none 0 0] 37 (0, 0)) → Below B wq w' → K a' w') :
    Code.wp Tryz.prog c (Exit.then K fun _ _ _ => False) a wq := by
  have HQ := hide hQ
  clear hQ
  obtain ⟨t', d'⟩ := a
  obtain ⟨v0, v2, v3, v4, v5, v6, v7, v8, v9, v10, v11, v12, v20, v49, v66, v83, v125⟩ := v
  simp only at h3v HQ
  subst h3v
  obtain ⟨hs1, hd1, q0, q2, q3, q4, q5, q6, q7, q8, q9, q10, q11, q12, q20, q49, q66, q83, q125⟩ := hF
  obtain ⟨u, hu⟩ := frame_rz t' hs1
  simp only at hd1 q0 q2 q3 q4 q5 q6 q7 q8 q9 q10 q11 q12 q20 q49 q66 q83 q125
  subst hu hd1
  have e0 : u 0 = v0 := q0
  have e2 : u 2 = v2 := q2
  have e3 : u 3 = .pointer (some ⟨b, 0, none⟩) := q3
  have e4 : u 4 = v4 := q4
  have e5 : u 5 = v5 := q5
  have e6 : u 6 = v6 := q6
  have e7 : u 7 = v7 := q7
  have e8 : u 8 = v8 := q8
  have e9 : u 9 = v9 := q9
  have e10 : u 10 = v10 := q10
  have e11 : u 11 = v11 := q11
  have e12 : u 12 = v12 := q12
  have e20 : u 20 = v20 := q20
  have e49 : u 49 = v49 := q49
  have e66 : u 66 = v66 := q66
  have e83 : u 83 = v83 := q83
  have e125 : u 125 = v125 := q125
  rw [e0, e2, e3, e4, e5, e6, e7, e8, e9, e10, e11, e12, e20, e49, e66, e83, e125]
  clear q0 e0 q2 e2 q3 e3 q4 e4 q5 e5 q6 e6 q7 e7 q8 e8 q9 e9 q10 e10 q11 e11 q12 e12 q20 e20 q49 e49 q66 e66 q83 e83 q125 e125 hs1
  simp only [Tryz.f12, Option.getD_some, regOf] at hc
  injection hc with hc
  subst hc
  generalize u 1 = u1
  generalize u 13 = u13
  generalize u 14 = u14
  generalize u 15 = u15
  generalize u 16 = u16
  generalize u 17 = u17
  generalize u 18 = u18
  generalize u 19 = u19
  generalize u 21 = u21
  generalize u 22 = u22
  generalize u 23 = u23
  generalize u 24 = u24
  generalize u 25 = u25
  generalize u 26 = u26
  generalize u 27 = u27
  generalize u 28 = u28
  generalize u 29 = u29
  generalize u 30 = u30
  generalize u 31 = u31
  generalize u 32 = u32
  generalize u 33 = u33
  generalize u 34 = u34
  generalize u 35 = u35
  generalize u 36 = u36
  generalize u 37 = u37
  generalize u 38 = u38
  generalize u 39 = u39
  generalize u 40 = u40
  generalize u 41 = u41
  generalize u 42 = u42
  generalize u 43 = u43
  generalize u 44 = u44
  generalize u 45 = u45
  generalize u 46 = u46
  generalize u 47 = u47
  generalize u 48 = u48
  generalize u 50 = u50
  generalize u 51 = u51
  generalize u 52 = u52
  generalize u 53 = u53
  generalize u 54 = u54
  generalize u 55 = u55
  generalize u 56 = u56
  generalize u 57 = u57
  generalize u 58 = u58
  generalize u 59 = u59
  generalize u 60 = u60
  generalize u 61 = u61
  generalize u 62 = u62
  generalize u 63 = u63
  generalize u 64 = u64
  generalize u 65 = u65
  generalize u 67 = u67
  generalize u 68 = u68
  generalize u 69 = u69
  generalize u 70 = u70
  generalize u 71 = u71
  generalize u 72 = u72
  generalize u 73 = u73
  generalize u 74 = u74
  generalize u 75 = u75
  generalize u 76 = u76
  generalize u 77 = u77
  generalize u 78 = u78
  generalize u 79 = u79
  generalize u 80 = u80
  generalize u 81 = u81
  generalize u 82 = u82
  generalize u 84 = u84
  generalize u 85 = u85
  generalize u 86 = u86
  generalize u 87 = u87
  generalize u 88 = u88
  generalize u 89 = u89
  generalize u 90 = u90
  generalize u 91 = u91
  generalize u 92 = u92
  generalize u 93 = u93
  generalize u 94 = u94
  generalize u 95 = u95
  generalize u 96 = u96
  generalize u 97 = u97
  generalize u 98 = u98
  generalize u 99 = u99
  generalize u 100 = u100
  generalize u 101 = u101
  generalize u 102 = u102
  generalize u 103 = u103
  generalize u 104 = u104
  generalize u 105 = u105
  generalize u 106 = u106
  generalize u 107 = u107
  generalize u 108 = u108
  generalize u 109 = u109
  generalize u 110 = u110
  generalize u 111 = u111
  generalize u 112 = u112
  generalize u 113 = u113
  generalize u 114 = u114
  generalize u 115 = u115
  generalize u 116 = u116
  generalize u 117 = u117
  generalize u 118 = u118
  generalize u 119 = u119
  generalize u 120 = u120
  generalize u 121 = u121
  generalize u 122 = u122
  generalize u 123 = u123
  generalize u 124 = u124
  generalize u 126 = u126
  generalize u 127 = u127
  generalize u 128 = u128
  generalize u 129 = u129
  generalize u 130 = u130
  generalize u 131 = u131
  generalize u 132 = u132
  clear u
  have c0 := box_cell hB 0 rfl
  have c1 := box_cell hB 1 rfl
  have c2 := box_cell hB 2 rfl
  have f0 := box_free hB 0
  have f1 := box_free hB 1
  have f2 := box_free hB 2
  have X := hide (box_set (box_set (box_set hB 0 (.int .i64 0)) 1 (.int .i64 0)) 2 (.slice none 0 0))
  have Y := hide ((((Below.refl B wq).setCell (p := ⟨b, 0, none⟩) hbB (.int .i64 0)).setCell (p := ⟨b, 1, none⟩) hbB (.int .i64 0)).setCell (p := ⟨b, 2, none⟩) hbB (.slice none 0 0))
  clear hB hbB
  go_wp2
  exact HQ.out _ _ ⟨rfl, rfl, rfl, rfl, rfl, rfl, rfl, rfl, rfl, rfl, rfl, rfl, rfl, rfl, rfl, rfl, rfl, rfl, rfl⟩ X.out Y.out
set_option maxHeartbeats 8000000 in
set_option maxRecDepth 100000 in
theorem rz_r12 {K : Act → World → Prop} {c : Code} (hc : regOf (Tryz.f12.body.getD .skip) 12 = some c) (a : Act) {v : Vrz} {wq : World} {b B : Nat}  (hF : Frz a v) (h3v : v.v3 = .pointer (some ⟨b, 0, none⟩)) (hB : wq.heap[b]? = some (.cells #[.int .i64 0, .int .i64 0, .slice none 0 0] 37 (0, 0))) (hbB : B ≤ b)
    (hQ : ∀ a' w', Frz a' { v with v2 := .int .i64 0, v4 := .int .i64 10 } → w'.heap[b]? = some (.cells #[.int .i64 0, .int .i64 0, .slice none 0 0] 37 (0, 0)) → Below B wq w' → K a' w') :
    Code.wp Tryz.prog c (Exit.then K fun _ _ _ => False) a wq := by
  have HQ := hide hQ
  clear hQ
  obtain ⟨t', d'⟩ := a
  obtain ⟨v0, v2, v3, v4, v5, v6, v7, v8, v9, v10, v11, v12, v20, v49, v66, v83, v125⟩ := v
  simp only at h3v HQ
  subst h3v
  obtain ⟨hs1, hd1, q0, q2, q3, q4, q5, q6, q7, q8, q9, q10, q11, q12, q20, q49, q66, q83, q125⟩ := hF
  obtain ⟨u, hu⟩ := frame_rz t' hs1
  simp only at hd1 q0 q2 q3 q4 q5 q6 q7 q8 q9 q10 q11 q12 q20 q49 q66 q83 q125
  subst hu hd1
  have e0 : u 0 = v0 := q0
  have e2 : u 2 = v2 := q2
  have e3 : u 3 = .pointer (some ⟨b, 0, none⟩) := q3
  have e4 : u 4 = v4 := q4
  have e5 : u 5 = v5 := q5
  have e6 : u 6 = v6 := q6
  have e7 : u 7 = v7 := q7
  have e8 : u 8 = v8 := q8
  have e9 : u 9 = v9 := q9
  have e10 : u 10 = v10 := q10
  have e11 : u 11 = v11 := q11
  have e12 : u 12 = v12 := q12
  have e20 : u 20 = v20 := q20
  have e49 : u 49 = v49 := q49
  have e66 : u 66 = v66 := q66
  have e83 : u 83 = v83 := q83
  have e125 : u 125 = v125 := q125
  rw [e0, e2, e3, e4, e5, e6, e7, e8, e9, e10, e11, e12, e20, e49, e66, e83, e125]
  clear q0 e0 q2 e2 q3 e3 q4 e4 q5 e5 q6 e6 q7 e7 q8 e8 q9 e9 q10 e10 q11 e11 q12 e12 q20 e20 q49 e49 q66 e66 q83 e83 q125 e125 hs1
  simp only [Tryz.f12, Option.getD_some, regOf] at hc
  injection hc with hc
  subst hc
  generalize u 1 = u1
  generalize u 13 = u13
  generalize u 14 = u14
  generalize u 15 = u15
  generalize u 16 = u16
  generalize u 17 = u17
  generalize u 18 = u18
  generalize u 19 = u19
  generalize u 21 = u21
  generalize u 22 = u22
  generalize u 23 = u23
  generalize u 24 = u24
  generalize u 25 = u25
  generalize u 26 = u26
  generalize u 27 = u27
  generalize u 28 = u28
  generalize u 29 = u29
  generalize u 30 = u30
  generalize u 31 = u31
  generalize u 32 = u32
  generalize u 33 = u33
  generalize u 34 = u34
  generalize u 35 = u35
  generalize u 36 = u36
  generalize u 37 = u37
  generalize u 38 = u38
  generalize u 39 = u39
  generalize u 40 = u40
  generalize u 41 = u41
  generalize u 42 = u42
  generalize u 43 = u43
  generalize u 44 = u44
  generalize u 45 = u45
  generalize u 46 = u46
  generalize u 47 = u47
  generalize u 48 = u48
  generalize u 50 = u50
  generalize u 51 = u51
  generalize u 52 = u52
  generalize u 53 = u53
  generalize u 54 = u54
  generalize u 55 = u55
  generalize u 56 = u56
  generalize u 57 = u57
  generalize u 58 = u58
  generalize u 59 = u59
  generalize u 60 = u60
  generalize u 61 = u61
  generalize u 62 = u62
  generalize u 63 = u63
  generalize u 64 = u64
  generalize u 65 = u65
  generalize u 67 = u67
  generalize u 68 = u68
  generalize u 69 = u69
  generalize u 70 = u70
  generalize u 71 = u71
  generalize u 72 = u72
  generalize u 73 = u73
  generalize u 74 = u74
  generalize u 75 = u75
  generalize u 76 = u76
  generalize u 77 = u77
  generalize u 78 = u78
  generalize u 79 = u79
  generalize u 80 = u80
  generalize u 81 = u81
  generalize u 82 = u82
  generalize u 84 = u84
  generalize u 85 = u85
  generalize u 86 = u86
  generalize u 87 = u87
  generalize u 88 = u88
  generalize u 89 = u89
  generalize u 90 = u90
  generalize u 91 = u91
  generalize u 92 = u92
  generalize u 93 = u93
  generalize u 94 = u94
  generalize u 95 = u95
  generalize u 96 = u96
  generalize u 97 = u97
  generalize u 98 = u98
  generalize u 99 = u99
  generalize u 100 = u100
  generalize u 101 = u101
  generalize u 102 = u102
  generalize u 103 = u103
  generalize u 104 = u104
  generalize u 105 = u105
  generalize u 106 = u106
  generalize u 107 = u107
  generalize u 108 = u108
  generalize u 109 = u109
  generalize u 110 = u110
  generalize u 111 = u111
  generalize u 112 = u112
  generalize u 113 = u113
  generalize u 114 = u114
  generalize u 115 = u115
  generalize u 116 = u116
  generalize u 117 = u117
  generalize u 118 = u118
  generalize u 119 = u119
  generalize u 120 = u120
  generalize u 121 = u121
  generalize u 122 = u122
  generalize u 123 = u123
  generalize u 124 = u124
  generalize u 126 = u126
  generalize u 127 = u127
  generalize u 128 = u128
  generalize u 129 = u129
  generalize u 130 = u130
  generalize u 131 = u131
  generalize u 132 = u132
  clear u
  have c0 := box_cell hB 0 rfl
  have c1 := box_cell hB 1 rfl
  have c2 := box_cell hB 2 rfl
  have f0 := box_free hB 0
  have f1 := box_free hB 1
  have f2 := box_free hB 2
  have X := hide (box_set (box_set (box_set hB 0 (.int .i64 0)) 1 (.int .i64 0)) 2 (.slice none 0 0))
  have Y := hide ((((Below.refl B wq).setCell (p := ⟨b, 0, none⟩) hbB (.int .i64 0)).setCell (p := ⟨b, 1, none⟩) hbB (.int .i64 0)).setCell (p := ⟨b, 2, none⟩) hbB (.slice none 0 0))
  clear hB hbB
  go_wp2
  exact HQ.out _ _ ⟨rfl, rfl, rfl, rfl, rfl, rfl, rfl, rfl, rfl, rfl, rfl, rfl, rfl, rfl, rfl, rfl, rfl, rfl, rfl⟩ X.out Y.out
set_option maxHeartbeats 8000000 in
set_option maxRecDepth 100000 in
theorem rz_r16 {K : Act → World → Prop} {c : Code} (hc : regOf (Tryz.f12.body.getD .skip) 16 = some c) (a : Act) {v : Vrz} {wq : World} {b B : Nat}  (hF : Frz a v) (h3v : v.v3 = .pointer (some ⟨b, 0, none⟩)) (hB : wq.heap[b]? = some (.cells #[.int .i64 0, .int .i64 0, .slice none 0 0] 37 (0, 0))) (hbB : B ≤ b)
    (hQ : ∀ a' w', Frz a' { v with v2 := .int .i64 0, v4 := .int .i64 10 } → w'.heap[b]? = some (.cells #[.int .i64 0, .int .i64 0, .slice none 0 0] 37 (0, 0)) → Below B wq w' → K a' w') :
    Code.wp Tryz.prog c (Exit.then K fun _ _ _ => False) a wq := by
  have HQ := hide hQ
  clear hQ
  obtain ⟨t', d'⟩ := a
  obtain ⟨v0, v2, v3, v4, v5, v6, v7, v8, v9, v10, v11, v12, v20, v49, v66, v83, v125⟩ := v
  simp only at h3v HQ
  subst h3v
  obtain ⟨hs1, hd1, q0, q2, q3, q4, q5, q6, q7, q8, q9, q10, q11, q12, q20, q49, q66, q83, q125⟩ := hF
  obtain ⟨u, hu⟩ := frame_rz t' hs1
  simp only at hd1 q0 q2 q3 q4 q5 q6 q7 q8 q9 q10 q11 q12 q20 q49 q66 q83 q125
  subst hu hd1
  have e0 : u 0 = v0 := q0
  have e2 : u 2 = v2 := q2
  have e3 : u 3 = .pointer (some ⟨b, 0, none⟩) := q3
  have e4 : u 4 = v4 := q4
  have e5 : u 5 = v5 := q5
  have e6 : u 6 = v6 := q6
  have e7 : u 7 = v7 := q7
  have e8 : u 8 = v8 := q8
  have e9 : u 9 = v9 := q9
  have e10 : u 10 = v10 := q10
  have e11 : u 11 = v11 := q11
  have e12 : u 12 = v12 := q12
  have e20 : u 20 = v20 := q20
  have e49 : u 49 = v49 := q49
  have e66 : u 66 = v66 := q66
  have e83 : u 83 = v83 := q83
  have e125 : u 125 = v125 := q125
  rw [e0, e2, e3, e4, e5, e6, e7, e8, e9, e10, e11, e12, e20, e49, e66, e83, e125]
  clear q0 e0 q2 e2 q3 e3 q4 e4 q5 e5 q6 e6 q7 e7 q8 e8 q9 e9 q10 e10 q11 e11 q12 e12 q20 e20 q49 e49 q66 e66 q83 e83 q125 e125 hs1
  simp only [Tryz.f12, Option.getD_some, regOf] at hc
  injection hc with hc
  subst hc
  generalize u 1 = u1
  generalize u 13 = u13
  generalize u 14 = u14
  generalize u 15 = u15
  generalize u 16 = u16
  generalize u 17 = u17
  generalize u 18 = u18
  generalize u 19 = u19
  generalize u 21 = u21
  generalize u 22 = u22
  generalize u 23 = u23
  generalize u 24 = u24
  generalize u 25 = u25
  generalize u 26 = u26
  generalize u 27 = u27
  generalize u 28 = u28
  generalize u 29 = u29
  generalize u 30 = u30
  generalize u 31 = u31
  generalize u 32 = u32
  generalize u 33 = u33
  generalize u 34 = u34
  generalize u 35 = u35
  generalize u 36 = u36
  generalize u 37 = u37
  generalize u 38 = u38
  generalize u 39 = u39
  generalize u 40 = u40
  generalize u 41 = u41
  generalize u 42 = u42
  generalize u 43 = u43
  generalize u 44 = u44
  generalize u 45 = u45
  generalize u 46 = u46
  generalize u 47 = u47
  generalize u 48 = u48
  generalize u 50 = u50
  generalize u 51 = u51
  generalize u 52 = u52
  generalize u 53 = u53
  generalize u 54 = u54
  generalize u 55 = u55
  generalize u 56 = u56
  generalize u 57 = u57
  generalize u 58 = u58
  generalize u 59 = u59
  generalize u 60 = u60
  generalize u 61 = u61
  generalize u 62 = u62
  generalize u 63 = u63
  generalize u 64 = u64
  generalize u 65 = u65
  generalize u 67 = u67
  generalize u 68 = u68
  generalize u 69 = u69
  generalize u 70 = u70
  generalize u 71 = u71
  generalize u 72 = u72
  generalize u 73 = u73
  generalize u 74 = u74
  generalize u 75 = u75
  generalize u 76 = u76
  generalize u 77 = u77
  generalize u 78 = u78
  generalize u 79 = u79
  generalize u 80 = u80
  generalize u 81 = u81
  generalize u 82 = u82
  generalize u 84 = u84
  generalize u 85 = u85
  generalize u 86 = u86
  generalize u 87 = u87
  generalize u 88 = u88
  generalize u 89 = u89
  generalize u 90 = u90
  generalize u 91 = u91
  generalize u 92 = u92
  generalize u 93 = u93
  generalize u 94 = u94
  generalize u 95 = u95
  generalize u 96 = u96
  generalize u 97 = u97
  generalize u 98 = u98
  generalize u 99 = u99
  generalize u 100 = u100
  generalize u 101 = u101
  generalize u 102 = u102
  generalize u 103 = u103
  generalize u 104 = u104
  generalize u 105 = u105
  generalize u 106 = u106
  generalize u 107 = u107
  generalize u 108 = u108
  generalize u 109 = u109
  generalize u 110 = u110
  generalize u 111 = u111
  generalize u 112 = u112
  generalize u 113 = u113
  generalize u 114 = u114
  generalize u 115 = u115
  generalize u 116 = u116
  generalize u 117 = u117
  generalize u 118 = u118
  generalize u 119 = u119
  generalize u 120 = u120
  generalize u 121 = u121
  generalize u 122 = u122
  generalize u 123 = u123
  generalize u 124 = u124
  generalize u 126 = u126
  generalize u 127 = u127
  generalize u 128 = u128
  generalize u 129 = u129
  generalize u 130 = u130
  generalize u 131 = u131
  generalize u 132 = u132
  clear u
  have c0 := box_cell hB 0 rfl
  have c1 := box_cell hB 1 rfl
  have c2 := box_cell hB 2 rfl
  have f0 := box_free hB 0
  have f1 := box_free hB 1
  have f2 := box_free hB 2
  have X := hide (box_set (box_set (box_set hB 0 (.int .i64 0)) 1 (.int .i64 0)) 2 (.slice none 0 0))
  have Y := hide ((((Below.refl B wq).setCell (p := ⟨b, 0, none⟩) hbB (.int .i64 0)).setCell (p := ⟨b, 1, none⟩) hbB (.int .i64 0)).setCell (p := ⟨b, 2, none⟩) hbB (.slice none 0 0))
  clear hB hbB
  go_wp2
  exact HQ.out _ _ ⟨rfl, rfl, rfl, rfl, rfl, rfl, rfl, rfl, rfl, rfl, rfl, rfl, rfl, rfl, rfl, rfl, rfl, rfl, rfl⟩ X.out Y.out
set_option maxHeartbeats 8000000 in
set_option maxRecDepth 100000 in
theorem rz_r4 {K : Act → World → Prop} {c : Code} (hc : regOf (Tryz.f12.body.getD .skip) 4 = some c) (a : Act) {v : Vrz} {wq : World} {body : ByteArray} {n : Nat} {f : Int} {RR : Option Addr → Nat → World → Prop} (hF : Frz a v) (h5v : v.v5 = .string body) (hC : ∀ W, Below wq.heap.size wq W → Calls Tryz.prog 33 #[.string ⟨#[108, 98, 108, 42, 108, 116, 108, 116, 116]⟩, .string body] W fun e w' => ∃ oo oc, e = .returned (.tuple #[.slice oo n oc, .int .i64 f]) ∧ RR oo oc w' ∧ Below W.heap.size W w')
    (hQ : ∀ a' w' oo oc, Frz a' { v with v8 := .slice oo n oc, v9 := .int .i64 f } → RR oo oc w' → Below wq.heap.size wq w' → K a' w') :
    Code.wp Tryz.prog c (Exit.then K fun _ _ _ => False) a wq := by
  have HQ := hide hQ
  clear hQ
  obtain ⟨t', d'⟩ := a
  obtain ⟨v0, v2, v3, v4, v5, v6, v7, v8, v9, v10, v11, v12, v20, v49, v66, v83, v125⟩ := v
  simp only at h5v HQ
  subst h5v
  obtain ⟨hs1, hd1, q0, q2, q3, q4, q5, q6, q7, q8, q9, q10, q11, q12, q20, q49, q66, q83, q125⟩ := hF
  obtain ⟨u, hu⟩ := frame_rz t' hs1
  simp only at hd1 q0 q2 q3 q4 q5 q6 q7 q8 q9 q10 q11 q12 q20 q49 q66 q83 q125
  subst hu hd1
  have e0 : u 0 = v0 := q0
  have e2 : u 2 = v2 := q2
  have e3 : u 3 = v3 := q3
  have e4 : u 4 = v4 := q4
  have e5 : u 5 = .string body := q5
  have e6 : u 6 = v6 := q6
  have e7 : u 7 = v7 := q7
  have e8 : u 8 = v8 := q8
  have e9 : u 9 = v9 := q9
  have e10 : u 10 = v10 := q10
  have e11 : u 11 = v11 := q11
  have e12 : u 12 = v12 := q12
  have e20 : u 20 = v20 := q20
  have e49 : u 49 = v49 := q49
  have e66 : u 66 = v66 := q66
  have e83 : u 83 = v83 := q83
  have e125 : u 125 = v125 := q125
  rw [e0, e2, e3, e4, e5, e6, e7, e8, e9, e10, e11, e12, e20, e49, e66, e83, e125]
  clear q0 e0 q2 e2 q3 e3 q4 e4 q5 e5 q6 e6 q7 e7 q8 e8 q9 e9 q10 e10 q11 e11 q12 e12 q20 e20 q49 e49 q66 e66 q83 e83 q125 e125 hs1
  simp only [Tryz.f12, Option.getD_some, regOf] at hc
  injection hc with hc
  subst hc
  generalize u 1 = u1
  generalize u 13 = u13
  generalize u 14 = u14
  generalize u 15 = u15
  generalize u 16 = u16
  generalize u 17 = u17
  generalize u 18 = u18
  generalize u 19 = u19
  generalize u 21 = u21
  generalize u 22 = u22
  generalize u 23 = u23
  generalize u 24 = u24
  generalize u 25 = u25
  generalize u 26 = u26
  generalize u 27 = u27
  generalize u 28 = u28
  generalize u 29 = u29
  generalize u 30 = u30
  generalize u 31 = u31
  generalize u 32 = u32
  generalize u 33 = u33
  generalize u 34 = u34
  generalize u 35 = u35
  generalize u 36 = u36
  generalize u 37 = u37
  generalize u 38 = u38
  generalize u 39 = u39
  generalize u 40 = u40
  generalize u 41 = u41
  generalize u 42 = u42
  generalize u 43 = u43
  generalize u 44 = u44
  generalize u 45 = u45
  generalize u 46 = u46
  generalize u 47 = u47
  generalize u 48 = u48
  generalize u 50 = u50
  generalize u 51 = u51
  generalize u 52 = u52
  generalize u 53 = u53
  generalize u 54 = u54
  generalize u 55 = u55
  generalize u 56 = u56
  generalize u 57 = u57
  generalize u 58 = u58
  generalize u 59 = u59
  generalize u 60 = u60
  generalize u 61 = u61
  generalize u 62 = u62
  generalize u 63 = u63
  generalize u 64 = u64
  generalize u 65 = u65
  generalize u 67 = u67
  generalize u 68 = u68
  generalize u 69 = u69
  generalize u 70 = u70
  generalize u 71 = u71
  generalize u 72 = u72
  generalize u 73 = u73
  generalize u 74 = u74
  generalize u 75 = u75
  generalize u 76 = u76
  generalize u 77 = u77
  generalize u 78 = u78
  generalize u 79 = u79
  generalize u 80 = u80
  generalize u 81 = u81
  generalize u 82 = u82
  generalize u 84 = u84
  generalize u 85 = u85
  generalize u 86 = u86
  generalize u 87 = u87
  generalize u 88 = u88
  generalize u 89 = u89
  generalize u 90 = u90
  generalize u 91 = u91
  generalize u 92 = u92
  generalize u 93 = u93
  generalize u 94 = u94
  generalize u 95 = u95
  generalize u 96 = u96
  generalize u 97 = u97
  generalize u 98 = u98
  generalize u 99 = u99
  generalize u 100 = u100
  generalize u 101 = u101
  generalize u 102 = u102
  generalize u 103 = u103
  generalize u 104 = u104
  generalize u 105 = u105
  generalize u 106 = u106
  generalize u 107 = u107
  generalize u 108 = u108
  generalize u 109 = u109
  generalize u 110 = u110
  generalize u 111 = u111
  generalize u 112 = u112
  generalize u 113 = u113
  generalize u 114 = u114
  generalize u 115 = u115
  generalize u 116 = u116
  generalize u 117 = u117
  generalize u 118 = u118
  generalize u 119 = u119
  generalize u 120 = u120
  generalize u 121 = u121
  generalize u 122 = u122
  generalize u 123 = u123
  generalize u 124 = u124
  generalize u 126 = u126
  generalize u 127 = u127
  generalize u 128 = u128
  generalize u 129 = u129
  generalize u 130 = u130
  generalize u 131 = u131
  generalize u 132 = u132
  clear u
  have HC := hide hC
  clear hC
  go_wp2_with (go_at_call 33; refine (HC.out _ (Below.refl _ _)).mono ?_; rintro e w1 ⟨oo, oc, rfl, r1, b1⟩; have R1 := hide r1; have B1 := hide b1; clear r1 b1)
  exact HQ.out _ _ oo oc ⟨rfl, rfl, rfl, rfl, rfl, rfl, rfl, rfl, rfl, rfl, rfl, rfl, rfl, rfl, rfl, rfl, rfl, rfl, rfl⟩ R1.out B1.out
set_option maxHeartbeats 8000000 in
set_option maxRecDepth 100000 in
theorem rz_r5a {K : Act → World → Prop} {c : Code} (hc : regOf (Tryz.f12.body.getD .skip) 5 = some c) (a : Act) {v : Vrz} {wq : World} {f : Int} (hF : Frz a v) (h9v : v.v9 = .int .i64 f) (hf : f ≠ 0)
    (hQ : ∀ a', Frz a' { v with v49 := .bool true } → K a' wq) :
    Code.wp Tryz.prog c (Exit.then K fun _ _ _ => False) a wq := by
  have HQ := hide hQ
  clear hQ
  obtain ⟨t', d'⟩ := a
  obtain ⟨v0, v2, v3, v4, v5, v6, v7, v8, v9, v10, v11, v12, v20, v49, v66, v83, v125⟩ := v
  simp only at h9v HQ
  subst h9v
  obtain ⟨hs1, hd1, q0, q2, q3, q4, q5, q6, q7, q8, q9, q10, q11, q12, q20, q49, q66, q83, q125⟩ := hF
  obtain ⟨u, hu⟩ := frame_rz t' hs1
  simp only at hd1 q0 q2 q3 q4 q5 q6 q7 q8 q9 q10 q11 q12 q20 q49 q66 q83 q125
  subst hu hd1
  have e0 : u 0 = v0 := q0
  have e2 : u 2 = v2 := q2
  have e3 : u 3 = v3 := q3
  have e4 : u 4 = v4 := q4
  have e5 : u 5 = v5 := q5
  have e6 : u 6 = v6 := q6
  have e7 : u 7 = v7 := q7
  have e8 : u 8 = v8 := q8
  have e9 : u 9 = .int .i64 f := q9
  have e10 : u 10 = v10 := q10
  have e11 : u 11 = v11 := q11
  have e12 : u 12 = v12 := q12
  have e20 : u 20 = v20 := q20
  have e49 : u 49 = v49 := q49
  have e66 : u 66 = v66 := q66
  have e83 : u 83 = v83 := q83
  have e125 : u 125 = v125 := q125
  rw [e0, e2, e3, e4, e5, e6, e7, e8, e9, e10, e11, e12, e20, e49, e66, e83, e125]
  clear q0 e0 q2 e2 q3 e3 q4 e4 q5 e5 q6 e6 q7 e7 q8 e8 q9 e9 q10 e10 q11 e11 q12 e12 q20 e20 q49 e49 q66 e66 q83 e83 q125 e125 hs1
  simp only [Tryz.f12, Option.getD_some, regOf] at hc
  injection hc with hc
  subst hc
  generalize u 1 = u1
  generalize u 13 = u13
  generalize u 14 = u14
  generalize u 15 = u15
  generalize u 16 = u16
  generalize u 17 = u17
  generalize u 18 = u18
  generalize u 19 = u19
  generalize u 21 = u21
  generalize u 22 = u22
  generalize u 23 = u23
  generalize u 24 = u24
  generalize u 25 = u25
  generalize u 26 = u26
  generalize u 27 = u27
  generalize u 28 = u28
  generalize u 29 = u29
  generalize u 30 = u30
  generalize u 31 = u31
  generalize u 32 = u32
  generalize u 33 = u33
  generalize u 34 = u34
  generalize u 35 = u35
  generalize u 36 = u36
  generalize u 37 = u37
  generalize u 38 = u38
  generalize u 39 = u39
  generalize u 40 = u40
  generalize u 41 = u41
  generalize u 42 = u42
  generalize u 43 = u43
  generalize u 44 = u44
  generalize u 45 = u45
  generalize u 46 = u46
  generalize u 47 = u47
  generalize u 48 = u48
  generalize u 50 = u50
  generalize u 51 = u51
  generalize u 52 = u52
  generalize u 53 = u53
  generalize u 54 = u54
  generalize u 55 = u55
  generalize u 56 = u56
  generalize u 57 = u57
  generalize u 58 = u58
  generalize u 59 = u59
  generalize u 60 = u60
  generalize u 61 = u61
  generalize u 62 = u62
  generalize u 63 = u63
  generalize u 64 = u64
  generalize u 65 = u65
  generalize u 67 = u67
  generalize u 68 = u68
  generalize u 69 = u69
  generalize u 70 = u70
  generalize u 71 = u71
  generalize u 72 = u72
  generalize u 73 = u73
  generalize u 74 = u74
  generalize u 75 = u75
  generalize u 76 = u76
  generalize u 77 = u77
  generalize u 78 = u78
  generalize u 79 = u79
  generalize u 80 = u80
  generalize u 81 = u81
  generalize u 82 = u82
  generalize u 84 = u84
  generalize u 85 = u85
  generalize u 86 = u86
  generalize u 87 = u87
  generalize u 88 = u88
  generalize u 89 = u89
  generalize u 90 = u90
  generalize u 91 = u91
  generalize u 92 = u92
  generalize u 93 = u93
  generalize u 94 = u94
  generalize u 95 = u95
  generalize u 96 = u96
  generalize u 97 = u97
  generalize u 98 = u98
  generalize u 99 = u99
  generalize u 100 = u100
  generalize u 101 = u101
  generalize u 102 = u102
  generalize u 103 = u103
  generalize u 104 = u104
  generalize u 105 = u105
  generalize u 106 = u106
  generalize u 107 = u107
  generalize u 108 = u108
  generalize u 109 = u109
  generalize u 110 = u110
  generalize u 111 = u111
  generalize u 112 = u112
  generalize u 113 = u113
  generalize u 114 = u114
  generalize u 115 = u115
  generalize u 116 = u116
  generalize u 117 = u117
  generalize u 118 = u118
  generalize u 119 = u119
  generalize u 120 = u120
  generalize u 121 = u121
  generalize u 122 = u122
  generalize u 123 = u123
  generalize u 124 = u124
  generalize u 126 = u126
  generalize u 127 = u127
  generalize u 128 = u128
  generalize u 129 = u129
  generalize u 130 = u130
  generalize u 131 = u131
  generalize u 132 = u132
  clear u
  have g : ¬ f = 0 := hf
  have g2 : (f == 0) = false := by simpa using hf
  clear hf
  go_wp2
  exact HQ.out _ ⟨rfl, rfl, rfl, rfl, rfl, rfl, rfl, rfl, rfl, rfl, rfl, rfl, rfl, rfl, rfl, (by first | rfl | (simp; done) | (simp; assumption) | (simp; omega)), rfl, rfl, rfl⟩
set_option maxHeartbeats 8000000 in
set_option maxRecDepth 100000 in
theorem rz_r5b {K : Act → World → Prop} {c : Code} (hc : regOf (Tryz.f12.body.getD .skip) 5 = some c) (a : Act) {v : Vrz} {wq : World} {s : ByteArray} {m : Int} (hF : Frz a v) (h0v : v.v0 = .string s) (h6v : v.v6 = .int .i64 m) (h9v : v.v9 = .int .i64 0) (h63 : s.size ≤ 9223372036854775807) (hf : m ≠ (s.size : Int))
    (hQ : ∀ a', Frz a' { v with v49 := .bool true } → K a' wq) :
    Code.wp Tryz.prog c (Exit.then K fun _ _ _ => False) a wq := by
  have HQ := hide hQ
  clear hQ
  obtain ⟨t', d'⟩ := a
  obtain ⟨v0, v2, v3, v4, v5, v6, v7, v8, v9, v10, v11, v12, v20, v49, v66, v83, v125⟩ := v
  simp only at h0v h6v h9v HQ
  subst h0v h6v h9v
  obtain ⟨hs1, hd1, q0, q2, q3, q4, q5, q6, q7, q8, q9, q10, q11, q12, q20, q49, q66, q83, q125⟩ := hF
  obtain ⟨u, hu⟩ := frame_rz t' hs1
  simp only at hd1 q0 q2 q3 q4 q5 q6 q7 q8 q9 q10 q11 q12 q20 q49 q66 q83 q125
  subst hu hd1
  have e0 : u 0 = .string s := q0
  have e2 : u 2 = v2 := q2
  have e3 : u 3 = v3 := q3
  have e4 : u 4 = v4 := q4
  have e5 : u 5 = v5 := q5
  have e6 : u 6 = .int .i64 m := q6
  have e7 : u 7 = v7 := q7
  have e8 : u 8 = v8 := q8
  have e9 : u 9 = .int .i64 0 := q9
  have e10 : u 10 = v10 := q10
  have e11 : u 11 = v11 := q11
  have e12 : u 12 = v12 := q12
  have e20 : u 20 = v20 := q20
  have e49 : u 49 = v49 := q49
  have e66 : u 66 = v66 := q66
  have e83 : u 83 = v83 := q83
  have e125 : u 125 = v125 := q125
  rw [e0, e2, e3, e4, e5, e6, e7, e8, e9, e10, e11, e12, e20, e49, e66, e83, e125]
  clear q0 e0 q2 e2 q3 e3 q4 e4 q5 e5 q6 e6 q7 e7 q8 e8 q9 e9 q10 e10 q11 e11 q12 e12 q20 e20 q49 e49 q66 e66 q83 e83 q125 e125 hs1
  simp only [Tryz.f12, Option.getD_some, regOf] at hc
  injection hc with hc
  subst hc
  generalize u 1 = u1
  generalize u 13 = u13
  generalize u 14 = u14
  generalize u 15 = u15
  generalize u 16 = u16
  generalize u 17 = u17
  generalize u 18 = u18
  generalize u 19 = u19
  generalize u 21 = u21
  generalize u 22 = u22
  generalize u 23 = u23
  generalize u 24 = u24
  generalize u 25 = u25
  generalize u 26 = u26
  generalize u 27 = u27
  generalize u 28 = u28
  generalize u 29 = u29
  generalize u 30 = u30
  generalize u 31 = u31
  generalize u 32 = u32
  generalize u 33 = u33
  generalize u 34 = u34
  generalize u 35 = u35
  generalize u 36 = u36
  generalize u 37 = u37
  generalize u 38 = u38
  generalize u 39 = u39
  generalize u 40 = u40
  generalize u 41 = u41
  generalize u 42 = u42
  generalize u 43 = u43
  generalize u 44 = u44
  generalize u 45 = u45
  generalize u 46 = u46
  generalize u 47 = u47
  generalize u 48 = u48
  generalize u 50 = u50
  generalize u 51 = u51
  generalize u 52 = u52
  generalize u 53 = u53
  generalize u 54 = u54
  generalize u 55 = u55
  generalize u 56 = u56
  generalize u 57 = u57
  generalize u 58 = u58
  generalize u 59 = u59
  generalize u 60 = u60
  generalize u 61 = u61
  generalize u 62 = u62
  generalize u 63 = u63
  generalize u 64 = u64
  generalize u 65 = u65
  generalize u 67 = u67
  generalize u 68 = u68
  generalize u 69 = u69
  generalize u 70 = u70
  generalize u 71 = u71
  generalize u 72 = u72
  generalize u 73 = u73
  generalize u 74 = u74
  generalize u 75 = u75
  generalize u 76 = u76
  generalize u 77 = u77
  generalize u 78 = u78
  generalize u 79 = u79
  generalize u 80 = u80
  generalize u 81 = u81
  generalize u 82 = u82
  generalize u 84 = u84
  generalize u 85 = u85
  generalize u 86 = u86
  generalize u 87 = u87
  generalize u 88 = u88
  generalize u 89 = u89
  generalize u 90 = u90
  generalize u 91 = u91
  generalize u 92 = u92
  generalize u 93 = u93
  generalize u 94 = u94
  generalize u 95 = u95
  generalize u 96 = u96
  generalize u 97 = u97
  generalize u 98 = u98
  generalize u 99 = u99
  generalize u 100 = u100
  generalize u 101 = u101
  generalize u 102 = u102
  generalize u 103 = u103
  generalize u 104 = u104
  generalize u 105 = u105
  generalize u 106 = u106
  generalize u 107 = u107
  generalize u 108 = u108
  generalize u 109 = u109
  generalize u 110 = u110
  generalize u 111 = u111
  generalize u 112 = u112
  generalize u 113 = u113
  generalize u 114 = u114
  generalize u 115 = u115
  generalize u 116 = u116
  generalize u 117 = u117
  generalize u 118 = u118
  generalize u 119 = u119
  generalize u 120 = u120
  generalize u 121 = u121
  generalize u 122 = u122
  generalize u 123 = u123
  generalize u 124 = u124
  generalize u 126 = u126
  generalize u 127 = u127
  generalize u 128 = u128
  generalize u 129 = u129
  generalize u 130 = u130
  generalize u 131 = u131
  generalize u 132 = u132
  clear u
  have g : ¬ m = (s.size : Int) := hf
  have g2 : (m == (s.size : Int)) = false := by simpa using hf
  clear hf
  go_wp2
  exact HQ.out _ ⟨rfl, rfl, rfl, rfl, rfl, rfl, rfl, rfl, rfl, rfl, rfl, rfl, rfl, rfl, rfl, (by first | rfl | (simp; done) | (simp; assumption) | (simp; omega)), rfl, rfl, rfl⟩
set_option maxHeartbeats 8000000 in
set_option maxRecDepth 100000 in
theorem rz_r5c {K : Act → World → Prop} {c : Code} (hc : regOf (Tryz.f12.body.getD .skip) 5 = some c) (a : Act) {v : Vrz} {wq : World} {s : ByteArray} {g n cp : Nat} {x0 x2 : Int} {bb : Bool} (hF : Frz a v) (h0v : v.v0 = .string s) (h6v : v.v6 = .int .i64 (s.size : Int)) (h8v : v.v8 = .slice (some ⟨g, 0, none⟩) n cp) (h9v : v.v9 = .int .i64 0) (h63 : s.size ≤ 9223372036854775807) (hn : 3 ≤ n) (y0 : wq.cell? ⟨g, 1, none⟩ = some (.int .u64 x0)) (y2 : wq.cell? ⟨g, 7, none⟩ = some (.int .u64 x2)) (hbb : bb = (decide (x0 > 9007199254740991) || decide (x2 > 9007199254740992)))
    (hQ : ∀ a', Frz a' { v with v49 := .bool bb } → K a' wq) :
    Code.wp Tryz.prog c (Exit.then K fun _ _ _ => False) a wq := by
  have HQ := hide hQ
  clear hQ
  obtain ⟨t', d'⟩ := a
  obtain ⟨v0, v2, v3, v4, v5, v6, v7, v8, v9, v10, v11, v12, v20, v49, v66, v83, v125⟩ := v
  simp only at h0v h6v h8v h9v HQ
  subst h0v h6v h8v h9v
  obtain ⟨hs1, hd1, q0, q2, q3, q4, q5, q6, q7, q8, q9, q10, q11, q12, q20, q49, q66, q83, q125⟩ := hF
  obtain ⟨u, hu⟩ := frame_rz t' hs1
  simp only at hd1 q0 q2 q3 q4 q5 q6 q7 q8 q9 q10 q11 q12 q20 q49 q66 q83 q125
  subst hu hd1
  have e0 : u 0 = .string s := q0
  have e2 : u 2 = v2 := q2
  have e3 : u 3 = v3 := q3
  have e4 : u 4 = v4 := q4
  have e5 : u 5 = v5 := q5
  have e6 : u 6 = .int .i64 (s.size : Int) := q6
  have e7 : u 7 = v7 := q7
  have e8 : u 8 = .slice (some ⟨g, 0, none⟩) n cp := q8
  have e9 : u 9 = .int .i64 0 := q9
  have e10 : u 10 = v10 := q10
  have e11 : u 11 = v11 := q11
  have e12 : u 12 = v12 := q12
  have e20 : u 20 = v20 := q20
  have e49 : u 49 = v49 := q49
  have e66 : u 66 = v66 := q66
  have e83 : u 83 = v83 := q83
  have e125 : u 125 = v125 := q125
  rw [e0, e2, e3, e4, e5, e6, e7, e8, e9, e10, e11, e12, e20, e49, e66, e83, e125]
  clear q0 e0 q2 e2 q3 e3 q4 e4 q5 e5 q6 e6 q7 e7 q8 e8 q9 e9 q10 e10 q11 e11 q12 e12 q20 e20 q49 e49 q66 e66 q83 e83 q125 e125 hs1
  simp only [Tryz.f12, Option.getD_some, regOf] at hc
  injection hc with hc
  subst hc
  generalize u 1 = u1
  generalize u 13 = u13
  generalize u 14 = u14
  generalize u 15 = u15
  generalize u 16 = u16
  generalize u 17 = u17
  generalize u 18 = u18
  generalize u 19 = u19
  generalize u 21 = u21
  generalize u 22 = u22
  generalize u 23 = u23
  generalize u 24 = u24
  generalize u 25 = u25
  generalize u 26 = u26
  generalize u 27 = u27
  generalize u 28 = u28
  generalize u 29 = u29
  generalize u 30 = u30
  generalize u 31 = u31
  generalize u 32 = u32
  generalize u 33 = u33
  generalize u 34 = u34
  generalize u 35 = u35
  generalize u 36 = u36
  generalize u 37 = u37
  generalize u 38 = u38
  generalize u 39 = u39
  generalize u 40 = u40
  generalize u 41 = u41
  generalize u 42 = u42
  generalize u 43 = u43
  generalize u 44 = u44
  generalize u 45 = u45
  generalize u 46 = u46
  generalize u 47 = u47
  generalize u 48 = u48
  generalize u 50 = u50
  generalize u 51 = u51
  generalize u 52 = u52
  generalize u 53 = u53
  generalize u 54 = u54
  generalize u 55 = u55
  generalize u 56 = u56
  generalize u 57 = u57
  generalize u 58 = u58
  generalize u 59 = u59
  generalize u 60 = u60
  generalize u 61 = u61
  generalize u 62 = u62
  generalize u 63 = u63
  generalize u 64 = u64
  generalize u 65 = u65
  generalize u 67 = u67
  generalize u 68 = u68
  generalize u 69 = u69
  generalize u 70 = u70
  generalize u 71 = u71
  generalize u 72 = u72
  generalize u 73 = u73
  generalize u 74 = u74
  generalize u 75 = u75
  generalize u 76 = u76
  generalize u 77 = u77
  generalize u 78 = u78
  generalize u 79 = u79
  generalize u 80 = u80
  generalize u 81 = u81
  generalize u 82 = u82
  generalize u 84 = u84
  generalize u 85 = u85
  generalize u 86 = u86
  generalize u 87 = u87
  generalize u 88 = u88
  generalize u 89 = u89
  generalize u 90 = u90
  generalize u 91 = u91
  generalize u 92 = u92
  generalize u 93 = u93
  generalize u 94 = u94
  generalize u 95 = u95
  generalize u 96 = u96
  generalize u 97 = u97
  generalize u 98 = u98
  generalize u 99 = u99
  generalize u 100 = u100
  generalize u 101 = u101
  generalize u 102 = u102
  generalize u 103 = u103
  generalize u 104 = u104
  generalize u 105 = u105
  generalize u 106 = u106
  generalize u 107 = u107
  generalize u 108 = u108
  generalize u 109 = u109
  generalize u 110 = u110
  generalize u 111 = u111
  generalize u 112 = u112
  generalize u 113 = u113
  generalize u 114 = u114
  generalize u 115 = u115
  generalize u 116 = u116
  generalize u 117 = u117
  generalize u 118 = u118
  generalize u 119 = u119
  generalize u 120 = u120
  generalize u 121 = u121
  generalize u 122 = u122
  generalize u 123 = u123
  generalize u 124 = u124
  generalize u 126 = u126
  generalize u 127 = u127
  generalize u 128 = u128
  generalize u 129 = u129
  generalize u 130 = u130
  generalize u 131 = u131
  generalize u 132 = u132
  clear u
  have e0 : (0 : Int) < (n : Int) := by omega
  have e2 : (2 : Int) < (n : Int) := by omega
  have e3 : 2 < n := by omega
  have e4 : 0 < n := by omega
  by_cases h1 : x0 > 9007199254740991
  · obtain rfl : bb = true := by rw [hbb, decide_eq_true h1]; rfl
    clear hbb
    go_wp2
    exact HQ.out _ ⟨rfl, rfl, rfl, rfl, rfl, rfl, rfl, rfl, rfl, rfl, rfl, rfl, rfl, rfl, rfl, (by first | rfl | (simp; done) | (simp; assumption) | (simp; omega)), rfl, rfl, rfl⟩
  · by_cases h2 : x2 > 9007199254740992
    · obtain rfl : bb = true := by rw [hbb, decide_eq_true h2, Bool.or_true]
      clear hbb
      go_wp2
      exact HQ.out _ ⟨rfl, rfl, rfl, rfl, rfl, rfl, rfl, rfl, rfl, rfl, rfl, rfl, rfl, rfl, rfl, (by first | rfl | (simp; done) | (simp; assumption) | (simp; omega)), rfl, rfl, rfl⟩
    · obtain rfl : bb = false := by rw [hbb, decide_eq_false h1, decide_eq_false h2]; rfl
      clear hbb
      go_wp2
      exact HQ.out _ ⟨rfl, rfl, rfl, rfl, rfl, rfl, rfl, rfl, rfl, rfl, rfl, rfl, rfl, rfl, rfl, (by first | rfl | (simp; done) | (simp; assumption) | (simp; omega)), rfl, rfl, rfl⟩
set_option maxHeartbeats 8000000 in
set_option maxRecDepth 100000 in
theorem rz_r8 {K : Act → World → Prop} {c : Code} (hc : regOf (Tryz.f12.body.getD .skip) 8 = some c) (a : Act) {v : Vrz} {wq : World}  (hF : Frz a v) (hQ : ∀ a', Frz a' { v with v11 := .int .i64 ((3 : Nat) : Int) } → K a' wq) :
    Code.wp Tryz.prog c (Exit.then K fun _ _ _ => False) a wq := by
  have HQ := hide hQ
  clear hQ
  obtain ⟨t', d'⟩ := a
  obtain ⟨v0, v2, v3, v4, v5, v6, v7, v8, v9, v10, v11, v12, v20, v49, v66, v83, v125⟩ := v
  obtain ⟨hs1, hd1, q0, q2, q3, q4, q5, q6, q7, q8, q9, q10, q11, q12, q20, q49, q66, q83, q125⟩ := hF
  obtain ⟨u, hu⟩ := frame_rz t' hs1
  simp only at hd1 q0 q2 q3 q4 q5 q6 q7 q8 q9 q10 q11 q12 q20 q49 q66 q83 q125
  subst hu hd1
  have e0 : u 0 = v0 := q0
  have e2 : u 2 = v2 := q2
  have e3 : u 3 = v3 := q3
  have e4 : u 4 = v4 := q4
  have e5 : u 5 = v5 := q5
  have e6 : u 6 = v6 := q6
  have e7 : u 7 = v7 := q7
  have e8 : u 8 = v8 := q8
  have e9 : u 9 = v9 := q9
  have e10 : u 10 = v10 := q10
  have e11 : u 11 = v11 := q11
  have e12 : u 12 = v12 := q12
  have e20 : u 20 = v20 := q20
  have e49 : u 49 = v49 := q49
  have e66 : u 66 = v66 := q66
  have e83 : u 83 = v83 := q83
  have e125 : u 125 = v125 := q125
  rw [e0, e2, e3, e4, e5, e6, e7, e8, e9, e10, e11, e12, e20, e49, e66, e83, e125]
  clear q0 e0 q2 e2 q3 e3 q4 e4 q5 e5 q6 e6 q7 e7 q8 e8 q9 e9 q10 e10 q11 e11 q12 e12 q20 e20 q49 e49 q66 e66 q83 e83 q125 e125 hs1
  simp only [Tryz.f12, Option.getD_some, regOf] at hc
  injection hc with hc
  subst hc
  generalize u 1 = u1
  generalize u 13 = u13
  generalize u 14 = u14
  generalize u 15 = u15
  generalize u 16 = u16
  generalize u 17 = u17
  generalize u 18 = u18
  generalize u 19 = u19
  generalize u 21 = u21
  generalize u 22 = u22
  generalize u 23 = u23
  generalize u 24 = u24
  generalize u 25 = u25
  generalize u 26 = u26
  generalize u 27 = u27
  generalize u 28 = u28
  generalize u 29 = u29
  generalize u 30 = u30
  generalize u 31 = u31
  generalize u 32 = u32
  generalize u 33 = u33
  generalize u 34 = u34
  generalize u 35 = u35
  generalize u 36 = u36
  generalize u 37 = u37
  generalize u 38 = u38
  generalize u 39 = u39
  generalize u 40 = u40
  generalize u 41 = u41
  generalize u 42 = u42
  generalize u 43 = u43
  generalize u 44 = u44
  generalize u 45 = u45
  generalize u 46 = u46
  generalize u 47 = u47
  generalize u 48 = u48
  generalize u 50 = u50
  generalize u 51 = u51
  generalize u 52 = u52
  generalize u 53 = u53
  generalize u 54 = u54
  generalize u 55 = u55
  generalize u 56 = u56
  generalize u 57 = u57
  generalize u 58 = u58
  generalize u 59 = u59
  generalize u 60 = u60
  generalize u 61 = u61
  generalize u 62 = u62
  generalize u 63 = u63
  generalize u 64 = u64
  generalize u 65 = u65
  generalize u 67 = u67
  generalize u 68 = u68
  generalize u 69 = u69
  generalize u 70 = u70
  generalize u 71 = u71
  generalize u 72 = u72
  generalize u 73 = u73
  generalize u 74 = u74
  generalize u 75 = u75
  generalize u 76 = u76
  generalize u 77 = u77
  generalize u 78 = u78
  generalize u 79 = u79
  generalize u 80 = u80
  generalize u 81 = u81
  generalize u 82 = u82
  generalize u 84 = u84
  generalize u 85 = u85
  generalize u 86 = u86
  generalize u 87 = u87
  generalize u 88 = u88
  generalize u 89 = u89
  generalize u 90 = u90
  generalize u 91 = u91
  generalize u 92 = u92
  generalize u 93 = u93
  generalize u 94 = u94
  generalize u 95 = u95
  generalize u 96 = u96
  generalize u 97 = u97
  generalize u 98 = u98
  generalize u 99 = u99
  generalize u 100 = u100
  generalize u 101 = u101
  generalize u 102 = u102
  generalize u 103 = u103
  generalize u 104 = u104
  generalize u 105 = u105
  generalize u 106 = u106
  generalize u 107 = u107
  generalize u 108 = u108
  generalize u 109 = u109
  generalize u 110 = u110
  generalize u 111 = u111
  generalize u 112 = u112
  generalize u 113 = u113
  generalize u 114 = u114
  generalize u 115 = u115
  generalize u 116 = u116
  generalize u 117 = u117
  generalize u 118 = u118
  generalize u 119 = u119
  generalize u 120 = u120
  generalize u 121 = u121
  generalize u 122 = u122
  generalize u 123 = u123
  generalize u 124 = u124
  generalize u 126 = u126
  generalize u 127 = u127
  generalize u 128 = u128
  generalize u 129 = u129
  generalize u 130 = u130
  generalize u 131 = u131
  generalize u 132 = u132
  clear u
  go_wp2
  exact HQ.out _ ⟨rfl, rfl, rfl, rfl, rfl, rfl, rfl, rfl, rfl, rfl, rfl, rfl, rfl, rfl, rfl, rfl, rfl, rfl, rfl⟩
set_option maxHeartbeats 8000000 in
set_option maxRecDepth 100000 in
theorem rz_r9 {K : Act → World → Prop} {c : Code} (hc : regOf (Tryz.f12.body.getD .skip) 9 = some c) (a : Act) {v : Vrz} {wq : World} {oo : Option Addr} {n cp i : Nat} (hF : Frz a v) (h8v : v.v8 = .slice oo n cp) (h11v : v.v11 = .int .i64 (i : Int)) (hQ : ∀ a', Frz a' { v with v66 := .bool (decide (i < n)) } → K a' wq) :
    Code.wp Tryz.prog c (Exit.then K fun _ _ _ => False) a wq := by
  have HQ := hide hQ
  clear hQ
  obtain ⟨t', d'⟩ := a
  obtain ⟨v0, v2, v3, v4, v5, v6, v7, v8, v9, v10, v11, v12, v20, v49, v66, v83, v125⟩ := v
  simp only at h8v h11v HQ
  subst h8v h11v
  obtain ⟨hs1, hd1, q0, q2, q3, q4, q5, q6, q7, q8, q9, q10, q11, q12, q20, q49, q66, q83, q125⟩ := hF
  obtain ⟨u, hu⟩ := frame_rz t' hs1
  simp only at hd1 q0 q2 q3 q4 q5 q6 q7 q8 q9 q10 q11 q12 q20 q49 q66 q83 q125
  subst hu hd1
  have e0 : u 0 = v0 := q0
  have e2 : u 2 = v2 := q2
  have e3 : u 3 = v3 := q3
  have e4 : u 4 = v4 := q4
  have e5 : u 5 = v5 := q5
  have e6 : u 6 = v6 := q6
  have e7 : u 7 = v7 := q7
  have e8 : u 8 = .slice oo n cp := q8
  have e9 : u 9 = v9 := q9
  have e10 : u 10 = v10 := q10
  have e11 : u 11 = .int .i64 (i : Int) := q11
  have e12 : u 12 = v12 := q12
  have e20 : u 20 = v20 := q20
  have e49 : u 49 = v49 := q49
  have e66 : u 66 = v66 := q66
  have e83 : u 83 = v83 := q83
  have e125 : u 125 = v125 := q125
  rw [e0, e2, e3, e4, e5, e6, e7, e8, e9, e10, e11, e12, e20, e49, e66, e83, e125]
  clear q0 e0 q2 e2 q3 e3 q4 e4 q5 e5 q6 e6 q7 e7 q8 e8 q9 e9 q10 e10 q11 e11 q12 e12 q20 e20 q49 e49 q66 e66 q83 e83 q125 e125 hs1
  simp only [Tryz.f12, Option.getD_some, regOf] at hc
  injection hc with hc
  subst hc
  generalize u 1 = u1
  generalize u 13 = u13
  generalize u 14 = u14
  generalize u 15 = u15
  generalize u 16 = u16
  generalize u 17 = u17
  generalize u 18 = u18
  generalize u 19 = u19
  generalize u 21 = u21
  generalize u 22 = u22
  generalize u 23 = u23
  generalize u 24 = u24
  generalize u 25 = u25
  generalize u 26 = u26
  generalize u 27 = u27
  generalize u 28 = u28
  generalize u 29 = u29
  generalize u 30 = u30
  generalize u 31 = u31
  generalize u 32 = u32
  generalize u 33 = u33
  generalize u 34 = u34
  generalize u 35 = u35
  generalize u 36 = u36
  generalize u 37 = u37
  generalize u 38 = u38
  generalize u 39 = u39
  generalize u 40 = u40
  generalize u 41 = u41
  generalize u 42 = u42
  generalize u 43 = u43
  generalize u 44 = u44
  generalize u 45 = u45
  generalize u 46 = u46
  generalize u 47 = u47
  generalize u 48 = u48
  generalize u 50 = u50
  generalize u 51 = u51
  generalize u 52 = u52
  generalize u 53 = u53
  generalize u 54 = u54
  generalize u 55 = u55
  generalize u 56 = u56
  generalize u 57 = u57
  generalize u 58 = u58
  generalize u 59 = u59
  generalize u 60 = u60
  generalize u 61 = u61
  generalize u 62 = u62
  generalize u 63 = u63
  generalize u 64 = u64
  generalize u 65 = u65
  generalize u 67 = u67
  generalize u 68 = u68
  generalize u 69 = u69
  generalize u 70 = u70
  generalize u 71 = u71
  generalize u 72 = u72
  generalize u 73 = u73
  generalize u 74 = u74
  generalize u 75 = u75
  generalize u 76 = u76
  generalize u 77 = u77
  generalize u 78 = u78
  generalize u 79 = u79
  generalize u 80 = u80
  generalize u 81 = u81
  generalize u 82 = u82
  generalize u 84 = u84
  generalize u 85 = u85
  generalize u 86 = u86
  generalize u 87 = u87
  generalize u 88 = u88
  generalize u 89 = u89
  generalize u 90 = u90
  generalize u 91 = u91
  generalize u 92 = u92
  generalize u 93 = u93
  generalize u 94 = u94
  generalize u 95 = u95
  generalize u 96 = u96
  generalize u 97 = u97
  generalize u 98 = u98
  generalize u 99 = u99
  generalize u 100 = u100
  generalize u 101 = u101
  generalize u 102 = u102
  generalize u 103 = u103
  generalize u 104 = u104
  generalize u 105 = u105
  generalize u 106 = u106
  generalize u 107 = u107
  generalize u 108 = u108
  generalize u 109 = u109
  generalize u 110 = u110
  generalize u 111 = u111
  generalize u 112 = u112
  generalize u 113 = u113
  generalize u 114 = u114
  generalize u 115 = u115
  generalize u 116 = u116
  generalize u 117 = u117
  generalize u 118 = u118
  generalize u 119 = u119
  generalize u 120 = u120
  generalize u 121 = u121
  generalize u 122 = u122
  generalize u 123 = u123
  generalize u 124 = u124
  generalize u 126 = u126
  generalize u 127 = u127
  generalize u 128 = u128
  generalize u 129 = u129
  generalize u 130 = u130
  generalize u 131 = u131
  generalize u 132 = u132
  clear u
  by_cases h1 : i < n
  · rw [decide_eq_true h1] at HQ
    have g : (i : Int) < (n : Int) := by omega
    go_wp2
    exact HQ.out _ ⟨rfl, rfl, rfl, rfl, rfl, rfl, rfl, rfl, rfl, rfl, rfl, rfl, rfl, rfl, rfl, rfl, (by first | rfl | (simp; done) | (simp; omega)), rfl, rfl⟩
  · rw [decide_eq_false h1] at HQ
    have g : ¬ (i : Int) < (n : Int) := by omega
    go_wp2
    exact HQ.out _ ⟨rfl, rfl, rfl, rfl, rfl, rfl, rfl, rfl, rfl, rfl, rfl, rfl, rfl, rfl, rfl, rfl, (by first | rfl | (simp; done) | (simp; omega)), rfl, rfl⟩
set_option maxHeartbeats 8000000 in
set_option maxRecDepth 100000 in
theorem rz_r11 {K : Act → World → Prop} {c : Code} (hc : regOf (Tryz.f12.body.getD .skip) 11 = some c) (a : Act) {v : Vrz} {wq : World} {g n cp i : Nat} {y0 y2 : Int} {bb : Bool} (hF : Frz a v) (h8v : v.v8 = .slice (some ⟨g, 0, none⟩) n cp) (h11v : v.v11 = .int .i64 (i : Int)) (hi : i + 2 < n) (hn : n ≤ 100000) (c0 : wq.cell? ⟨g, i * 3 + 1, none⟩ = some (.int .u64 y0)) (c2 : wq.cell? ⟨g, (i + 2) * 3 + 1, none⟩ = some (.int .u64 y2)) (hbb : bb = (decide (y0 > 9007199254740991) || decide (y2 > 9007199254740991)))
    (hQ : ∀ a', Frz a' { v with v83 := .bool bb } → K a' wq) :
    Code.wp Tryz.prog c (Exit.then K fun _ _ _ => False) a wq := by
  have HQ := hide hQ
  clear hQ
  obtain ⟨t', d'⟩ := a
  obtain ⟨v0, v2, v3, v4, v5, v6, v7, v8, v9, v10, v11, v12, v20, v49, v66, v83, v125⟩ := v
  simp only at h8v h11v HQ
  subst h8v h11v
  obtain ⟨hs1, hd1, q0, q2, q3, q4, q5, q6, q7, q8, q9, q10, q11, q12, q20, q49, q66, q83, q125⟩ := hF
  obtain ⟨u, hu⟩ := frame_rz t' hs1
  simp only at hd1 q0 q2 q3 q4 q5 q6 q7 q8 q9 q10 q11 q12 q20 q49 q66 q83 q125
  subst hu hd1
  have e0 : u 0 = v0 := q0
  have e2 : u 2 = v2 := q2
  have e3 : u 3 = v3 := q3
  have e4 : u 4 = v4 := q4
  have e5 : u 5 = v5 := q5
  have e6 : u 6 = v6 := q6
  have e7 : u 7 = v7 := q7
  have e8 : u 8 = .slice (some ⟨g, 0, none⟩) n cp := q8
  have e9 : u 9 = v9 := q9
  have e10 : u 10 = v10 := q10
  have e11 : u 11 = .int .i64 (i : Int) := q11
  have e12 : u 12 = v12 := q12
  have e20 : u 20 = v20 := q20
  have e49 : u 49 = v49 := q49
  have e66 : u 66 = v66 := q66
  have e83 : u 83 = v83 := q83
  have e125 : u 125 = v125 := q125
  rw [e0, e2, e3, e4, e5, e6, e7, e8, e9, e10, e11, e12, e20, e49, e66, e83, e125]
  clear q0 e0 q2 e2 q3 e3 q4 e4 q5 e5 q6 e6 q7 e7 q8 e8 q9 e9 q10 e10 q11 e11 q12 e12 q20 e20 q49 e49 q66 e66 q83 e83 q125 e125 hs1
  simp only [Tryz.f12, Option.getD_some, regOf] at hc
  injection hc with hc
  subst hc
  generalize u 1 = u1
  generalize u 13 = u13
  generalize u 14 = u14
  generalize u 15 = u15
  generalize u 16 = u16
  generalize u 17 = u17
  generalize u 18 = u18
  generalize u 19 = u19
  generalize u 21 = u21
  generalize u 22 = u22
  generalize u 23 = u23
  generalize u 24 = u24
  generalize u 25 = u25
  generalize u 26 = u26
  generalize u 27 = u27
  generalize u 28 = u28
  generalize u 29 = u29
  generalize u 30 = u30
  generalize u 31 = u31
  generalize u 32 = u32
  generalize u 33 = u33
  generalize u 34 = u34
  generalize u 35 = u35
  generalize u 36 = u36
  generalize u 37 = u37
  generalize u 38 = u38
  generalize u 39 = u39
  generalize u 40 = u40
  generalize u 41 = u41
  generalize u 42 = u42
  generalize u 43 = u43
  generalize u 44 = u44
  generalize u 45 = u45
  generalize u 46 = u46
  generalize u 47 = u47
  generalize u 48 = u48
  generalize u 50 = u50
  generalize u 51 = u51
  generalize u 52 = u52
  generalize u 53 = u53
  generalize u 54 = u54
  generalize u 55 = u55
  generalize u 56 = u56
  generalize u 57 = u57
  generalize u 58 = u58
  generalize u 59 = u59
  generalize u 60 = u60
  generalize u 61 = u61
  generalize u 62 = u62
  generalize u 63 = u63
  generalize u 64 = u64
  generalize u 65 = u65
  generalize u 67 = u67
  generalize u 68 = u68
  generalize u 69 = u69
  generalize u 70 = u70
  generalize u 71 = u71
  generalize u 72 = u72
  generalize u 73 = u73
  generalize u 74 = u74
  generalize u 75 = u75
  generalize u 76 = u76
  generalize u 77 = u77
  generalize u 78 = u78
  generalize u 79 = u79
  generalize u 80 = u80
  generalize u 81 = u81
  generalize u 82 = u82
  generalize u 84 = u84
  generalize u 85 = u85
  generalize u 86 = u86
  generalize u 87 = u87
  generalize u 88 = u88
  generalize u 89 = u89
  generalize u 90 = u90
  generalize u 91 = u91
  generalize u 92 = u92
  generalize u 93 = u93
  generalize u 94 = u94
  generalize u 95 = u95
  generalize u 96 = u96
  generalize u 97 = u97
  generalize u 98 = u98
  generalize u 99 = u99
  generalize u 100 = u100
  generalize u 101 = u101
  generalize u 102 = u102
  generalize u 103 = u103
  generalize u 104 = u104
  generalize u 105 = u105
  generalize u 106 = u106
  generalize u 107 = u107
  generalize u 108 = u108
  generalize u 109 = u109
  generalize u 110 = u110
  generalize u 111 = u111
  generalize u 112 = u112
  generalize u 113 = u113
  generalize u 114 = u114
  generalize u 115 = u115
  generalize u 116 = u116
  generalize u 117 = u117
  generalize u 118 = u118
  generalize u 119 = u119
  generalize u 120 = u120
  generalize u 121 = u121
  generalize u 122 = u122
  generalize u 123 = u123
  generalize u 124 = u124
  generalize u 126 = u126
  generalize u 127 = u127
  generalize u 128 = u128
  generalize u 129 = u129
  generalize u 130 = u130
  generalize u 131 = u131
  generalize u 132 = u132
  clear u
  have e0 : (0 : Int) ≤ (i : Int) := by omega
  have e1 : (i : Int) < (n : Int) := by omega
  have e2 : (0 : Int) ≤ (i : Int) + 2 := by omega
  have e3 : (i : Int) + 2 < (n : Int) := by omega
  by_cases h1 : y0 > 9007199254740991
  · obtain rfl : bb = true := by rw [hbb, decide_eq_true h1]; rfl
    clear hbb
    go_wp2
    exact HQ.out _ ⟨rfl, rfl, rfl, rfl, rfl, rfl, rfl, rfl, rfl, rfl, rfl, rfl, rfl, rfl, rfl, rfl, rfl, (by first | rfl | (simp; done) | (simp; omega)), rfl⟩
  · by_cases h2 : y2 > 9007199254740991
    · obtain rfl : bb = true := by rw [hbb, decide_eq_true h2, Bool.or_true]
      clear hbb
      go_wp2
      exact HQ.out _ ⟨rfl, rfl, rfl, rfl, rfl, rfl, rfl, rfl, rfl, rfl, rfl, rfl, rfl, rfl, rfl, rfl, rfl, (by first | rfl | (simp; done) | (simp; omega)), rfl⟩
    · obtain rfl : bb = false := by rw [hbb, decide_eq_false h1, decide_eq_false h2]; rfl
      clear hbb
      go_wp2
      exact HQ.out _ ⟨rfl, rfl, rfl, rfl, rfl, rfl, rfl, rfl, rfl, rfl, rfl, rfl, rfl, rfl, rfl, rfl, rfl, (by first | rfl | (simp; done) | (simp; omega)), rfl⟩
set_option maxHeartbeats 8000000 in
set_option maxRecDepth 100000 in
theorem rz_r10 {K : Act → World → Prop} {c : Code} (hc : regOf (Tryz.f12.body.getD .skip) 10 = some c) (a : Act) {v : Vrz} {wq : World} {i : Nat} (hF : Frz a v) (h11v : v.v11 = .int .i64 (i : Int)) (hi : i ≤ 100000)
    (hQ : ∀ a', Frz a' { v with v11 := .int .i64 ((i + 5 : Nat) : Int) } → K a' wq) :
    Code.wp Tryz.prog c (Exit.then K fun _ _ _ => False) a wq := by
  have HQ := hide hQ
  clear hQ
  obtain ⟨t', d'⟩ := a
  obtain ⟨v0, v2, v3, v4, v5, v6, v7, v8, v9, v10, v11, v12, v20, v49, v66, v83, v125⟩ := v
  simp only at h11v HQ
  subst h11v
  obtain ⟨hs1, hd1, q0, q2, q3, q4, q5, q6, q7, q8, q9, q10, q11, q12, q20, q49, q66, q83, q125⟩ := hF
  obtain ⟨u, hu⟩ := frame_rz t' hs1
  simp only at hd1 q0 q2 q3 q4 q5 q6 q7 q8 q9 q10 q11 q12 q20 q49 q66 q83 q125
  subst hu hd1
  have e0 : u 0 = v0 := q0
  have e2 : u 2 = v2 := q2
  have e3 : u 3 = v3 := q3
  have e4 : u 4 = v4 := q4
  have e5 : u 5 = v5 := q5
  have e6 : u 6 = v6 := q6
  have e7 : u 7 = v7 := q7
  have e8 : u 8 = v8 := q8
  have e9 : u 9 = v9 := q9
  have e10 : u 10 = v10 := q10
  have e11 : u 11 = .int .i64 (i : Int) := q11
  have e12 : u 12 = v12 := q12
  have e20 : u 20 = v20 := q20
  have e49 : u 49 = v49 := q49
  have e66 : u 66 = v66 := q66
  have e83 : u 83 = v83 := q83
  have e125 : u 125 = v125 := q125
  rw [e0, e2, e3, e4, e5, e6, e7, e8, e9, e10, e11, e12, e20, e49, e66, e83, e125]
  clear q0 e0 q2 e2 q3 e3 q4 e4 q5 e5 q6 e6 q7 e7 q8 e8 q9 e9 q10 e10 q11 e11 q12 e12 q20 e20 q49 e49 q66 e66 q83 e83 q125 e125 hs1
  simp only [Tryz.f12, Option.getD_some, regOf] at hc
  injection hc with hc
  subst hc
  generalize u 1 = u1
  generalize u 13 = u13
  generalize u 14 = u14
  generalize u 15 = u15
  generalize u 16 = u16
  generalize u 17 = u17
  generalize u 18 = u18
  generalize u 19 = u19
  generalize u 21 = u21
  generalize u 22 = u22
  generalize u 23 = u23
  generalize u 24 = u24
  generalize u 25 = u25
  generalize u 26 = u26
  generalize u 27 = u27
  generalize u 28 = u28
  generalize u 29 = u29
  generalize u 30 = u30
  generalize u 31 = u31
  generalize u 32 = u32
  generalize u 33 = u33
  generalize u 34 = u34
  generalize u 35 = u35
  generalize u 36 = u36
  generalize u 37 = u37
  generalize u 38 = u38
  generalize u 39 = u39
  generalize u 40 = u40
  generalize u 41 = u41
  generalize u 42 = u42
  generalize u 43 = u43
  generalize u 44 = u44
  generalize u 45 = u45
  generalize u 46 = u46
  generalize u 47 = u47
  generalize u 48 = u48
  generalize u 50 = u50
  generalize u 51 = u51
  generalize u 52 = u52
  generalize u 53 = u53
  generalize u 54 = u54
  generalize u 55 = u55
  generalize u 56 = u56
  generalize u 57 = u57
  generalize u 58 = u58
  generalize u 59 = u59
  generalize u 60 = u60
  generalize u 61 = u61
  generalize u 62 = u62
  generalize u 63 = u63
  generalize u 64 = u64
  generalize u 65 = u65
  generalize u 67 = u67
  generalize u 68 = u68
  generalize u 69 = u69
  generalize u 70 = u70
  generalize u 71 = u71
  generalize u 72 = u72
  generalize u 73 = u73
  generalize u 74 = u74
  generalize u 75 = u75
  generalize u 76 = u76
  generalize u 77 = u77
  generalize u 78 = u78
  generalize u 79 = u79
  generalize u 80 = u80
  generalize u 81 = u81
  generalize u 82 = u82
  generalize u 84 = u84
  generalize u 85 = u85
  generalize u 86 = u86
  generalize u 87 = u87
  generalize u 88 = u88
  generalize u 89 = u89
  generalize u 90 = u90
  generalize u 91 = u91
  generalize u 92 = u92
  generalize u 93 = u93
  generalize u 94 = u94
  generalize u 95 = u95
  generalize u 96 = u96
  generalize u 97 = u97
  generalize u 98 = u98
  generalize u 99 = u99
  generalize u 100 = u100
  generalize u 101 = u101
  generalize u 102 = u102
  generalize u 103 = u103
  generalize u 104 = u104
  generalize u 105 = u105
  generalize u 106 = u106
  generalize u 107 = u107
  generalize u 108 = u108
  generalize u 109 = u109
  generalize u 110 = u110
  generalize u 111 = u111
  generalize u 112 = u112
  generalize u 113 = u113
  generalize u 114 = u114
  generalize u 115 = u115
  generalize u 116 = u116
  generalize u 117 = u117
  generalize u 118 = u118
  generalize u 119 = u119
  generalize u 120 = u120
  generalize u 121 = u121
  generalize u 122 = u122
  generalize u 123 = u123
  generalize u 124 = u124
  generalize u 126 = u126
  generalize u 127 = u127
  generalize u 128 = u128
  generalize u 129 = u129
  generalize u 130 = u130
  generalize u 131 = u131
  generalize u 132 = u132
  clear u
  have e1 : ((i + 5 : Nat) : Int) = (i : Int) + 5 := by omega
  rw [e1] at HQ
  go_wp2
  exact HQ.out _ ⟨rfl, rfl, rfl, rfl, rfl, rfl, rfl, rfl, rfl, rfl, rfl, rfl, rfl, rfl, rfl, rfl, rfl, rfl, rfl⟩
set_option maxHeartbeats 8000000 in
set_option maxRecDepth 100000 in
theorem rz_r14 {K : Act → World → Prop} {c : Code} (hc : regOf (Tryz.f12.body.getD .skip) 14 = some c) (a : Act) {v : Vrz} {wq : World} {b : Nat} {p : Bool} {c1 c2 : Int} {ro : Option Addr} {k rc : Nat} (hF : Frz a v) (h10v : v.v10 = .pointer (some ⟨b, 0, none⟩)) (hB : wq.heap[b]? = some (.cells #[.int .i64 c1, .int .i64 c2, .slice ro k rc] 37 (0, 0))) (hC : ∀ W, Below wq.heap.size wq W → Calls Tryz.prog 28 #[.agg #[.int .i64 c1, .int .i64 c2, .slice ro k rc]] W fun e w' => e = .returned (.bool p) ∧ Below W.heap.size W w')
    (hQ : ∀ a' w', Frz a' { v with v12 := .bool p } → Below wq.heap.size wq w' → K a' w') :
    Code.wp Tryz.prog c (Exit.then K fun _ _ _ => False) a wq := by
  have HQ := hide hQ
  clear hQ
  obtain ⟨t', d'⟩ := a
  obtain ⟨v0, v2, v3, v4, v5, v6, v7, v8, v9, v10, v11, v12, v20, v49, v66, v83, v125⟩ := v
  simp only at h10v HQ
  subst h10v
  obtain ⟨hs1, hd1, q0, q2, q3, q4, q5, q6, q7, q8, q9, q10, q11, q12, q20, q49, q66, q83, q125⟩ := hF
  obtain ⟨u, hu⟩ := frame_rz t' hs1
  simp only at hd1 q0 q2 q3 q4 q5 q6 q7 q8 q9 q10 q11 q12 q20 q49 q66 q83 q125
  subst hu hd1
  have e0 : u 0 = v0 := q0
  have e2 : u 2 = v2 := q2
  have e3 : u 3 = v3 := q3
  have e4 : u 4 = v4 := q4
  have e5 : u 5 = v5 := q5
  have e6 : u 6 = v6 := q6
  have e7 : u 7 = v7 := q7
  have e8 : u 8 = v8 := q8
  have e9 : u 9 = v9 := q9
  have e10 : u 10 = .pointer (some ⟨b, 0, none⟩) := q10
  have e11 : u 11 = v11 := q11
  have e12 : u 12 = v12 := q12
  have e20 : u 20 = v20 := q20
  have e49 : u 49 = v49 := q49
  have e66 : u 66 = v66 := q66
  have e83 : u 83 = v83 := q83
  have e125 : u 125 = v125 := q125
  rw [e0, e2, e3, e4, e5, e6, e7, e8, e9, e10, e11, e12, e20, e49, e66, e83, e125]
  clear q0 e0 q2 e2 q3 e3 q4 e4 q5 e5 q6 e6 q7 e7 q8 e8 q9 e9 q10 e10 q11 e11 q12 e12 q20 e20 q49 e49 q66 e66 q83 e83 q125 e125 hs1
  simp only [Tryz.f12, Option.getD_some, regOf] at hc
  injection hc with hc
  subst hc
  generalize u 1 = u1
  generalize u 13 = u13
  generalize u 14 = u14
  generalize u 15 = u15
  generalize u 16 = u16
  generalize u 17 = u17
  generalize u 18 = u18
  generalize u 19 = u19
  generalize u 21 = u21
  generalize u 22 = u22
  generalize u 23 = u23
  generalize u 24 = u24
  generalize u 25 = u25
  generalize u 26 = u26
  generalize u 27 = u27
  generalize u 28 = u28
  generalize u 29 = u29
  generalize u 30 = u30
  generalize u 31 = u31
  generalize u 32 = u32
  generalize u 33 = u33
  generalize u 34 = u34
  generalize u 35 = u35
  generalize u 36 = u36
  generalize u 37 = u37
  generalize u 38 = u38
  generalize u 39 = u39
  generalize u 40 = u40
  generalize u 41 = u41
  generalize u 42 = u42
  generalize u 43 = u43
  generalize u 44 = u44
  generalize u 45 = u45
  generalize u 46 = u46
  generalize u 47 = u47
  generalize u 48 = u48
  generalize u 50 = u50
  generalize u 51 = u51
  generalize u 52 = u52
  generalize u 53 = u53
  generalize u 54 = u54
  generalize u 55 = u55
  generalize u 56 = u56
  generalize u 57 = u57
  generalize u 58 = u58
  generalize u 59 = u59
  generalize u 60 = u60
  generalize u 61 = u61
  generalize u 62 = u62
  generalize u 63 = u63
  generalize u 64 = u64
  generalize u 65 = u65
  generalize u 67 = u67
  generalize u 68 = u68
  generalize u 69 = u69
  generalize u 70 = u70
  generalize u 71 = u71
  generalize u 72 = u72
  generalize u 73 = u73
  generalize u 74 = u74
  generalize u 75 = u75
  generalize u 76 = u76
  generalize u 77 = u77
  generalize u 78 = u78
  generalize u 79 = u79
  generalize u 80 = u80
  generalize u 81 = u81
  generalize u 82 = u82
  generalize u 84 = u84
  generalize u 85 = u85
  generalize u 86 = u86
  generalize u 87 = u87
  generalize u 88 = u88
  generalize u 89 = u89
  generalize u 90 = u90
  generalize u 91 = u91
  generalize u 92 = u92
  generalize u 93 = u93
  generalize u 94 = u94
  generalize u 95 = u95
  generalize u 96 = u96
  generalize u 97 = u97
  generalize u 98 = u98
  generalize u 99 = u99
  generalize u 100 = u100
  generalize u 101 = u101
  generalize u 102 = u102
  generalize u 103 = u103
  generalize u 104 = u104
  generalize u 105 = u105
  generalize u 106 = u106
  generalize u 107 = u107
  generalize u 108 = u108
  generalize u 109 = u109
  generalize u 110 = u110
  generalize u 111 = u111
  generalize u 112 = u112
  generalize u 113 = u113
  generalize u 114 = u114
  generalize u 115 = u115
  generalize u 116 = u116
  generalize u 117 = u117
  generalize u 118 = u118
  generalize u 119 = u119
  generalize u 120 = u120
  generalize u 121 = u121
  generalize u 122 = u122
  generalize u 123 = u123
  generalize u 124 = u124
  generalize u 126 = u126
  generalize u 127 = u127
  generalize u 128 = u128
  generalize u 129 = u129
  generalize u 130 = u130
  generalize u 131 = u131
  generalize u 132 = u132
  clear u
  have HC := hide hC
  have c0 := box_cell hB 0 rfl
  have c1 := box_cell hB 1 rfl
  have c2 := box_cell hB 2 rfl
  clear hC hB
  go_wp2_with (go_at_call 28; refine (HC.out _ (Below.refl _ _)).mono ?_; rintro e w1 ⟨rfl, b1⟩)
  exact HQ.out _ _ ⟨rfl, rfl, rfl, rfl, rfl, rfl, rfl, rfl, rfl, rfl, rfl, rfl, rfl, rfl, rfl, rfl, rfl, rfl, rfl⟩ b1
set_option maxHeartbeats 8000000 in
set_option maxRecDepth 100000 in
theorem rz_r15 {K : Act → World → Prop} {c : Code} (hc : regOf (Tryz.f12.body.getD .skip) 15 = some c) (a : Act) {v : Vrz} {wq : World} {p : Bool} (hF : Frz a v) (h12v : v.v12 = .bool p) (hQ : ∀ a', Frz a' { v with v125 := .bool (!p) } → K a' wq) :
    Code.wp Tryz.prog c (Exit.then K fun _ _ _ => False) a wq := by
  have HQ := hide hQ
  clear hQ
  obtain ⟨t', d'⟩ := a
  obtain ⟨v0, v2, v3, v4, v5, v6, v7, v8, v9, v10, v11, v12, v20, v49, v66, v83, v125⟩ := v
  simp only at h12v HQ
  subst h12v
  obtain ⟨hs1, hd1, q0, q2, q3, q4, q5, q6, q7, q8, q9, q10, q11, q12, q20, q49, q66, q83, q125⟩ := hF
  obtain ⟨u, hu⟩ := frame_rz t' hs1
  simp only at hd1 q0 q2 q3 q4 q5 q6 q7 q8 q9 q10 q11 q12 q20 q49 q66 q83 q125
  subst hu hd1
  have e0 : u 0 = v0 := q0
  have e2 : u 2 = v2 := q2
  have e3 : u 3 = v3 := q3
  have e4 : u 4 = v4 := q4
  have e5 : u 5 = v5 := q5
  have e6 : u 6 = v6 := q6
  have e7 : u 7 = v7 := q7
  have e8 : u 8 = v8 := q8
  have e9 : u 9 = v9 := q9
  have e10 : u 10 = v10 := q10
  have e11 : u 11 = v11 := q11
  have e12 : u 12 = .bool p := q12
  have e20 : u 20 = v20 := q20
  have e49 : u 49 = v49 := q49
  have e66 : u 66 = v66 := q66
  have e83 : u 83 = v83 := q83
  have e125 : u 125 = v125 := q125
  rw [e0, e2, e3, e4, e5, e6, e7, e8, e9, e10, e11, e12, e20, e49, e66, e83, e125]
  clear q0 e0 q2 e2 q3 e3 q4 e4 q5 e5 q6 e6 q7 e7 q8 e8 q9 e9 q10 e10 q11 e11 q12 e12 q20 e20 q49 e49 q66 e66 q83 e83 q125 e125 hs1
  simp only [Tryz.f12, Option.getD_some, regOf] at hc
  injection hc with hc
  subst hc
  generalize u 1 = u1
  generalize u 13 = u13
  generalize u 14 = u14
  generalize u 15 = u15
  generalize u 16 = u16
  generalize u 17 = u17
  generalize u 18 = u18
  generalize u 19 = u19
  generalize u 21 = u21
  generalize u 22 = u22
  generalize u 23 = u23
  generalize u 24 = u24
  generalize u 25 = u25
  generalize u 26 = u26
  generalize u 27 = u27
  generalize u 28 = u28
  generalize u 29 = u29
  generalize u 30 = u30
  generalize u 31 = u31
  generalize u 32 = u32
  generalize u 33 = u33
  generalize u 34 = u34
  generalize u 35 = u35
  generalize u 36 = u36
  generalize u 37 = u37
  generalize u 38 = u38
  generalize u 39 = u39
  generalize u 40 = u40
  generalize u 41 = u41
  generalize u 42 = u42
  generalize u 43 = u43
  generalize u 44 = u44
  generalize u 45 = u45
  generalize u 46 = u46
  generalize u 47 = u47
  generalize u 48 = u48
  generalize u 50 = u50
  generalize u 51 = u51
  generalize u 52 = u52
  generalize u 53 = u53
  generalize u 54 = u54
  generalize u 55 = u55
  generalize u 56 = u56
  generalize u 57 = u57
  generalize u 58 = u58
  generalize u 59 = u59
  generalize u 60 = u60
  generalize u 61 = u61
  generalize u 62 = u62
  generalize u 63 = u63
  generalize u 64 = u64
  generalize u 65 = u65
  generalize u 67 = u67
  generalize u 68 = u68
  generalize u 69 = u69
  generalize u 70 = u70
  generalize u 71 = u71
  generalize u 72 = u72
  generalize u 73 = u73
  generalize u 74 = u74
  generalize u 75 = u75
  generalize u 76 = u76
  generalize u 77 = u77
  generalize u 78 = u78
  generalize u 79 = u79
  generalize u 80 = u80
  generalize u 81 = u81
  generalize u 82 = u82
  generalize u 84 = u84
  generalize u 85 = u85
  generalize u 86 = u86
  generalize u 87 = u87
  generalize u 88 = u88
  generalize u 89 = u89
  generalize u 90 = u90
  generalize u 91 = u91
  generalize u 92 = u92
  generalize u 93 = u93
  generalize u 94 = u94
  generalize u 95 = u95
  generalize u 96 = u96
  generalize u 97 = u97
  generalize u 98 = u98
  generalize u 99 = u99
  generalize u 100 = u100
  generalize u 101 = u101
  generalize u 102 = u102
  generalize u 103 = u103
  generalize u 104 = u104
  generalize u 105 = u105
  generalize u 106 = u106
  generalize u 107 = u107
  generalize u 108 = u108
  generalize u 109 = u109
  generalize u 110 = u110
  generalize u 111 = u111
  generalize u 112 = u112
  generalize u 113 = u113
  generalize u 114 = u114
  generalize u 115 = u115
  generalize u 116 = u116
  generalize u 117 = u117
  generalize u 118 = u118
  generalize u 119 = u119
  generalize u 120 = u120
  generalize u 121 = u121
  generalize u 122 = u122
  generalize u 123 = u123
  generalize u 124 = u124
  generalize u 126 = u126
  generalize u 127 = u127
  generalize u 128 = u128
  generalize u 129 = u129
  generalize u 130 = u130
  generalize u 131 = u131
  generalize u 132 = u132
  clear u
  cases p
  · go_wp2
    exact HQ.out _ ⟨rfl, rfl, rfl, rfl, rfl, rfl, rfl, rfl, rfl, rfl, rfl, rfl, rfl, rfl, rfl, rfl, rfl, rfl, rfl⟩
  · go_wp2
    exact HQ.out _ ⟨rfl, rfl, rfl, rfl, rfl, rfl, rfl, rfl, rfl, rfl, rfl, rfl, rfl, rfl, rfl, rfl, rfl, rfl, rfl⟩
theorem rz_ret {W : World} {a : Act} {v : Vrz} {x er : Int} {b : Nat} {c1 c2 : Int} {ro : Option Addr} {k rc : Nat} {R : Ending → World → Prop} (hF : Frz a v) (h2 : v.v2 = .int .i64 x) (h3 : v.v3 = .pointer (some ⟨b, 0, none⟩)) (h4 : v.v4 = .int .i64 er) (hB : W.heap[b]? = some (.cells #[.int .i64 c1, .int .i64 c2, .slice ro k rc] 37 (0, 0))) (h : R (.returned (.tuple #[.int .i64 x, .agg #[.int .i64 c1, .int .i64 c2, .slice ro k rc], .int .i64 er])) W) :
    bodyPost Tryz.prog Tryz.f12 R .ret a W := by
  have g2 := slot_get (hF.s2.trans h2)
  have g3 := slot_get (hF.s3.trans h3)
  have g4 := slot_get (hF.s4.trans h4)
  have c0 := box_cell hB 0 rfl
  have c1' := box_cell hB 1 rfl
  have c2' := box_cell hB 2 rfl
  refine bodyPost_ret (v := .tuple #[.int .i64 x, .agg #[.int .i64 c1, .int .i64 c2, .slice ro k rc], .int .i64 er]) ?_ hF.defers h
  simp [results, Tryz.results12, go_sem, g2, g3, g4, c0, c1', c2']
end Go.Proofs.YtoolbbibnegdnaaGreatDoor
/-
  carillonref14's Answered: its seventh region (mkrq.py)
-/
namespace Go.Proofs.YtoolbbibnegdnaaGreatDoor
open Go.RowKit

attribute [local go_sem ↓] Go.wp_at_zero Go.wp_at_succ
set_option linter.unusedSimpArgs false
set_option linter.unusedVariables false
set_option maxHeartbeats 8000000 in
set_option maxRecDepth 100000 in
theorem rz_r7 {K : Act → World → Prop} {c : Code} (hc : regOf (Tryz.f12.body.getD .skip) 7 = some c) (a : Act) {v : Vrz} {wq : World} {g n cp : Nat} {x1 x2 : Int} (hF : Frz a v) (h8v : v.v8 = .slice (some ⟨g, 0, none⟩) n cp) (hn : 3 ≤ n) (hg : g < wq.heap.size) (y1 : wq.cell? ⟨g, 4, none⟩ = some (.int .u64 x1)) (y2 : wq.cell? ⟨g, 7, none⟩ = some (.int .u64 x2)) (l1 : 0 ≤ x1) (u1 : x1 ≤ 9007199254740992) (l2 : 0 ≤ x2) (u2 : x2 ≤ 9007199254740992)
    (hQ : ∀ a' w' b4, Frz a' { v with v10 := .pointer (some ⟨b4, 0, none⟩) } → wq.heap.size ≤ b4 → w'.heap[b4]? = some (.cells #[.int .i64 x1, .int .i64 (x2 - 1), .slice none 0 0] 37 (0, 0)) → Below wq.heap.size wq w' → K a' w') :
    Code.wp Tryz.prog c (Exit.then K fun _ _ _ => False) a wq := by
  have HQ := hide hQ
  clear hQ
  obtain ⟨t', d'⟩ := a
  obtain ⟨v0, v2, v3, v4, v5, v6, v7, v8, v9, v10, v11, v12, v20, v49, v66, v83, v125⟩ := v
  simp only at h8v HQ
  subst h8v
  obtain ⟨hs1, hd1, q0, q2, q3, q4, q5, q6, q7, q8, q9, q10, q11, q12, q20, q49, q66, q83, q125⟩ := hF
  obtain ⟨u, hu⟩ := frame_rz t' hs1
  simp only at hd1 q0 q2 q3 q4 q5 q6 q7 q8 q9 q10 q11 q12 q20 q49 q66 q83 q125
  subst hu hd1
  have e0 : u 0 = v0 := q0
  have e2 : u 2 = v2 := q2
  have e3 : u 3 = v3 := q3
  have e4 : u 4 = v4 := q4
  have e5 : u 5 = v5 := q5
  have e6 : u 6 = v6 := q6
  have e7 : u 7 = v7 := q7
  have e8 : u 8 = .slice (some ⟨g, 0, none⟩) n cp := q8
  have e9 : u 9 = v9 := q9
  have e10 : u 10 = v10 := q10
  have e11 : u 11 = v11 := q11
  have e12 : u 12 = v12 := q12
  have e20 : u 20 = v20 := q20
  have e49 : u 49 = v49 := q49
  have e66 : u 66 = v66 := q66
  have e83 : u 83 = v83 := q83
  have e125 : u 125 = v125 := q125
  rw [e0, e2, e3, e4, e5, e6, e7, e8, e9, e10, e11, e12, e20, e49, e66, e83, e125]
  clear q0 e0 q2 e2 q3 e3 q4 e4 q5 e5 q6 e6 q7 e7 q8 e8 q9 e9 q10 e10 q11 e11 q12 e12 q20 e20 q49 e49 q66 e66 q83 e83 q125 e125 hs1
  simp only [Tryz.f12, Option.getD_some, regOf] at hc
  injection hc with hc
  subst hc
  generalize u 1 = u1
  generalize u 13 = u13
  generalize u 14 = u14
  generalize u 15 = u15
  generalize u 16 = u16
  generalize u 17 = u17
  generalize u 18 = u18
  generalize u 19 = u19
  generalize u 21 = u21
  generalize u 22 = u22
  generalize u 23 = u23
  generalize u 24 = u24
  generalize u 25 = u25
  generalize u 26 = u26
  generalize u 27 = u27
  generalize u 28 = u28
  generalize u 29 = u29
  generalize u 30 = u30
  generalize u 31 = u31
  generalize u 32 = u32
  generalize u 33 = u33
  generalize u 34 = u34
  generalize u 35 = u35
  generalize u 36 = u36
  generalize u 37 = u37
  generalize u 38 = u38
  generalize u 39 = u39
  generalize u 40 = u40
  generalize u 41 = u41
  generalize u 42 = u42
  generalize u 43 = u43
  generalize u 44 = u44
  generalize u 45 = u45
  generalize u 46 = u46
  generalize u 47 = u47
  generalize u 48 = u48
  generalize u 50 = u50
  generalize u 51 = u51
  generalize u 52 = u52
  generalize u 53 = u53
  generalize u 54 = u54
  generalize u 55 = u55
  generalize u 56 = u56
  generalize u 57 = u57
  generalize u 58 = u58
  generalize u 59 = u59
  generalize u 60 = u60
  generalize u 61 = u61
  generalize u 62 = u62
  generalize u 63 = u63
  generalize u 64 = u64
  generalize u 65 = u65
  generalize u 67 = u67
  generalize u 68 = u68
  generalize u 69 = u69
  generalize u 70 = u70
  generalize u 71 = u71
  generalize u 72 = u72
  generalize u 73 = u73
  generalize u 74 = u74
  generalize u 75 = u75
  generalize u 76 = u76
  generalize u 77 = u77
  generalize u 78 = u78
  generalize u 79 = u79
  generalize u 80 = u80
  generalize u 81 = u81
  generalize u 82 = u82
  generalize u 84 = u84
  generalize u 85 = u85
  generalize u 86 = u86
  generalize u 87 = u87
  generalize u 88 = u88
  generalize u 89 = u89
  generalize u 90 = u90
  generalize u 91 = u91
  generalize u 92 = u92
  generalize u 93 = u93
  generalize u 94 = u94
  generalize u 95 = u95
  generalize u 96 = u96
  generalize u 97 = u97
  generalize u 98 = u98
  generalize u 99 = u99
  generalize u 100 = u100
  generalize u 101 = u101
  generalize u 102 = u102
  generalize u 103 = u103
  generalize u 104 = u104
  generalize u 105 = u105
  generalize u 106 = u106
  generalize u 107 = u107
  generalize u 108 = u108
  generalize u 109 = u109
  generalize u 110 = u110
  generalize u 111 = u111
  generalize u 112 = u112
  generalize u 113 = u113
  generalize u 114 = u114
  generalize u 115 = u115
  generalize u 116 = u116
  generalize u 117 = u117
  generalize u 118 = u118
  generalize u 119 = u119
  generalize u 120 = u120
  generalize u 121 = u121
  generalize u 122 = u122
  generalize u 123 = u123
  generalize u 124 = u124
  generalize u 126 = u126
  generalize u 127 = u127
  generalize u 128 = u128
  generalize u 129 = u129
  generalize u 130 = u130
  generalize u 131 = u131
  generalize u 132 = u132
  clear u
  have e1 : (1 : Int) < (n : Int) := by omega
  have e2 : (2 : Int) < (n : Int) := by omega
  have e3 : 1 < n := by omega
  have e4 : 2 < n := by omega
  have WK : Hid (IntKind.i64.wrap x1 = x1 ∧ IntKind.i64.wrap (IntKind.i64.wrap x2 - 1) = x2 - 1) := ⟨by rw [IntKind.wrap_i64]; omega, by rw [IntKind.wrap_i64, IntKind.wrap_i64]; omega⟩
  refine wp_region_last 13 rfl (by kernel_rfl) rfl rfl (by kernel_rfl) ?_
  intro ops' hops'
  simp only [idle, List.setIfInBounds_toArray, List.set_cons_succ, List.set_cons_zero] at hops'
  subst hops'
  refine wpAny_phi (ns := 133) (uses := (fun i => match i with | 0 => [51] | 1 => [52] | 2 => [53] | 3 => [54] | 4 => [55] | 5 => [56] | 6 => [57] | 7 => [58] | 8 => [59] | 9 => [60] | 10 => [61] | 11 => [62] | 12 => [10] | 13 => [] | _ => [])) (by kernel_rfl) (by kernel_rfl) (fun _ w w' => Below w.heap.size w w') (fun w => Below wq.heap.size wq w) (fun _ _ _ h r => h.trans (r.mono h.size)) ((Below.refl _ _).drew) (fun i => match i with | 0 => fun s w => s 51 = .slice (some ⟨g, 0, none⟩) n cp | 1 => fun s w => s 52 = .pointer (some ⟨g, 3, none⟩) | 2 => fun s w => s 53 = .pointer (some ⟨g, 4, none⟩) | 3 => fun s w => s 54 = .int .u64 x1 | 4 => fun s w => s 55 = .int .i64 (IntKind.i64.wrap x1) | 5 => fun s w => s 56 = .slice (some ⟨g, 0, none⟩) n cp | 6 => fun s w => s 57 = .pointer (some ⟨g, 6, none⟩) | 7 => fun s w => s 58 = .pointer (some ⟨g, 7, none⟩) | 8 => fun s w => s 59 = .int .u64 x2 | 9 => fun s w => s 60 = .int .i64 (IntKind.i64.wrap x2) | 10 => fun s w => s 61 = .int .i64 (IntKind.i64.wrap (IntKind.i64.wrap x2 - 1)) | 11 => fun s w => s 62 = .agg #[.int .i64 (IntKind.i64.wrap x1), .int .i64 (IntKind.i64.wrap (IntKind.i64.wrap x2 - 1)), .slice none 0 0] | 12 => fun s w => ∃ b4, s 10 = .pointer (some ⟨b4, 0, none⟩) ∧ wq.heap.size ≤ b4 ∧ w.heap[b4]? = some (.cells #[.int .i64 0, .int .i64 0, .slice none 0 0] 37 (0, 0)) | 13 => fun s w => True | _ => fun _ _ => True) ?phc ?phh ?pstep ?pdone
  case phc =>
    intro i s s' w hx h
    match i, hx, h with
    | 0, hx, h =>
      have e51 := hx 51 (by simp)
      first | exact (show _ from by simp only [← e51] at *; exact h) | (simp only [e51] at h; exact h)
    | 1, hx, h =>
      have e52 := hx 52 (by simp)
      first | exact (show _ from by simp only [← e52] at *; exact h) | (simp only [e52] at h; exact h)
    | 2, hx, h =>
      have e53 := hx 53 (by simp)
      first | exact (show _ from by simp only [← e53] at *; exact h) | (simp only [e53] at h; exact h)
    | 3, hx, h =>
      have e54 := hx 54 (by simp)
      first | exact (show _ from by simp only [← e54] at *; exact h) | (simp only [e54] at h; exact h)
    | 4, hx, h =>
      have e55 := hx 55 (by simp)
      first | exact (show _ from by simp only [← e55] at *; exact h) | (simp only [e55] at h; exact h)
    | 5, hx, h =>
      have e56 := hx 56 (by simp)
      first | exact (show _ from by simp only [← e56] at *; exact h) | (simp only [e56] at h; exact h)
    | 6, hx, h =>
      have e57 := hx 57 (by simp)
      first | exact (show _ from by simp only [← e57] at *; exact h) | (simp only [e57] at h; exact h)
    | 7, hx, h =>
      have e58 := hx 58 (by simp)
      first | exact (show _ from by simp only [← e58] at *; exact h) | (simp only [e58] at h; exact h)
    | 8, hx, h =>
      have e59 := hx 59 (by simp)
      first | exact (show _ from by simp only [← e59] at *; exact h) | (simp only [e59] at h; exact h)
    | 9, hx, h =>
      have e60 := hx 60 (by simp)
      first | exact (show _ from by simp only [← e60] at *; exact h) | (simp only [e60] at h; exact h)
    | 10, hx, h =>
      have e61 := hx 61 (by simp)
      first | exact (show _ from by simp only [← e61] at *; exact h) | (simp only [e61] at h; exact h)
    | 11, hx, h =>
      have e62 := hx 62 (by simp)
      first | exact (show _ from by simp only [← e62] at *; exact h) | (simp only [e62] at h; exact h)
    | 12, hx, h =>
      have e10 := hx 10 (by simp)
      first | exact (show _ from by simp only [← e10] at *; exact h) | (simp only [e10] at h; exact h)
    | 13, hx, h =>
      exact h
    | (n + 14), _, h => exact h
  case phh =>
    intro i j s w w' hij h hb r
    match i, hij, h with
    | 0, hij, h =>
      exact h
    | 1, hij, h =>
      exact h
    | 2, hij, h =>
      exact h
    | 3, hij, h =>
      exact h
    | 4, hij, h =>
      exact h
    | 5, hij, h =>
      exact h
    | 6, hij, h =>
      exact h
    | 7, hij, h =>
      exact h
    | 8, hij, h =>
      exact h
    | 9, hij, h =>
      exact h
    | 10, hij, h =>
      exact h
    | 11, hij, h =>
      exact h
    | 12, hij, h =>
      obtain ⟨b4, h1, h2, h3⟩ := h
      exact ⟨b4, h1, h2, (r.block _ (heap_lt h3)).trans h3⟩
    | 13, hij, h =>
      exact h
    | (n + 14), _, h => exact h
  case pstep =>
    intro i o ho a' w' hsa hb hd
    match i, ho with
    | 0, ho =>
      obtain rfl := Option.some.inj ho
      try dsimp only at hd
      have g8 : a'.tmps.getD 8 undef = .slice (some ⟨g, 0, none⟩) n cp := hsa.rest 8 (by rfl)
      refine wpOp_of rfl rfl ?_
      refine op_run (v := .slice (some ⟨g, 0, none⟩) n cp) (w' := w') ?_ ⟨_, rfl, ?_, ?_⟩
      · simp only [execOp, Act.eval, List.map_toArray, List.map_cons, List.map_nil, g8]; first | (go_simp; done) | rfl
      · try dsimp only
        exact (slots_put (ns := 133) (hsa.size.trans rfl) (by decide))
      · exact Below.refl _ _
    | 1, ho =>
      obtain rfl := Option.some.inj ho
      try dsimp only at hd
      have d0 : a'.tmps.getD 51 undef = .slice (some ⟨g, 0, none⟩) n cp := hd 0 (by rfl)
      refine wpOp_of rfl rfl ?_
      refine op_run (v := .pointer (some ⟨g, 3, none⟩)) (w' := w') ?_ ⟨_, rfl, ?_, ?_⟩
      · simp only [execOp, Act.eval, List.map_toArray, List.map_cons, List.map_nil, d0]; first | (go_simp; done) | rfl
      · try dsimp only
        exact (slots_put (ns := 133) (hsa.size.trans rfl) (by decide))
      · exact Below.refl _ _
    | 2, ho =>
      obtain rfl := Option.some.inj ho
      try dsimp only at hd
      have d1 : a'.tmps.getD 52 undef = .pointer (some ⟨g, 3, none⟩) := hd 1 (by rfl)
      refine wpOp_of rfl rfl ?_
      refine op_run (v := .pointer (some ⟨g, 4, none⟩)) (w' := w') ?_ ⟨_, rfl, ?_, ?_⟩
      · simp only [execOp, Act.eval, List.map_toArray, List.map_cons, List.map_nil, d1]; first | (go_simp; done) | rfl
      · try dsimp only
        exact (slots_put (ns := 133) (hsa.size.trans rfl) (by decide))
      · exact Below.refl _ _
    | 3, ho =>
      obtain rfl := Option.some.inj ho
      try dsimp only at hd
      have d2 : a'.tmps.getD 53 undef = .pointer (some ⟨g, 4, none⟩) := hd 2 (by rfl)
      have y1 : w'.cell? ⟨g, 4, none⟩ = some (.int .u64 x1) := (hb.cell (p := ⟨g, 4, none⟩) hg).trans y1
      refine wpOp_of rfl rfl ?_
      refine op_run (v := .int .u64 x1) (w' := w') ?_ ⟨_, rfl, ?_, ?_⟩
      · simp only [execOp, Act.eval, List.map_toArray, List.map_cons, List.map_nil, d2, y1]; first | (go_simp; done) | rfl
      · try dsimp only
        exact (slots_put (ns := 133) (hsa.size.trans rfl) (by decide))
      · exact Below.refl _ _
    | 4, ho =>
      obtain rfl := Option.some.inj ho
      try dsimp only at hd
      have d3 : a'.tmps.getD 54 undef = .int .u64 x1 := hd 3 (by rfl)
      refine wpOp_of rfl rfl ?_
      refine op_run (v := .int .i64 (IntKind.i64.wrap x1)) (w' := w') ?_ ⟨_, rfl, ?_, ?_⟩
      · simp only [execOp, Act.eval, List.map_toArray, List.map_cons, List.map_nil, d3]; first | (go_simp; done) | rfl
      · try dsimp only
        exact (slots_put (ns := 133) (hsa.size.trans rfl) (by decide))
      · exact Below.refl _ _
    | 5, ho =>
      obtain rfl := Option.some.inj ho
      try dsimp only at hd
      have g8 : a'.tmps.getD 8 undef = .slice (some ⟨g, 0, none⟩) n cp := hsa.rest 8 (by rfl)
      refine wpOp_of rfl rfl ?_
      refine op_run (v := .slice (some ⟨g, 0, none⟩) n cp) (w' := w') ?_ ⟨_, rfl, ?_, ?_⟩
      · simp only [execOp, Act.eval, List.map_toArray, List.map_cons, List.map_nil, g8]; first | (go_simp; done) | rfl
      · try dsimp only
        exact (slots_put (ns := 133) (hsa.size.trans rfl) (by decide))
      · exact Below.refl _ _
    | 6, ho =>
      obtain rfl := Option.some.inj ho
      try dsimp only at hd
      have d5 : a'.tmps.getD 56 undef = .slice (some ⟨g, 0, none⟩) n cp := hd 5 (by rfl)
      refine wpOp_of rfl rfl ?_
      refine op_run (v := .pointer (some ⟨g, 6, none⟩)) (w' := w') ?_ ⟨_, rfl, ?_, ?_⟩
      · simp only [execOp, Act.eval, List.map_toArray, List.map_cons, List.map_nil, d5]; first | (go_simp; done) | rfl
      · try dsimp only
        exact (slots_put (ns := 133) (hsa.size.trans rfl) (by decide))
      · exact Below.refl _ _
    | 7, ho =>
      obtain rfl := Option.some.inj ho
      try dsimp only at hd
      have d6 : a'.tmps.getD 57 undef = .pointer (some ⟨g, 6, none⟩) := hd 6 (by rfl)
      refine wpOp_of rfl rfl ?_
      refine op_run (v := .pointer (some ⟨g, 7, none⟩)) (w' := w') ?_ ⟨_, rfl, ?_, ?_⟩
      · simp only [execOp, Act.eval, List.map_toArray, List.map_cons, List.map_nil, d6]; first | (go_simp; done) | rfl
      · try dsimp only
        exact (slots_put (ns := 133) (hsa.size.trans rfl) (by decide))
      · exact Below.refl _ _
    | 8, ho =>
      obtain rfl := Option.some.inj ho
      try dsimp only at hd
      have d7 : a'.tmps.getD 58 undef = .pointer (some ⟨g, 7, none⟩) := hd 7 (by rfl)
      have y2 : w'.cell? ⟨g, 7, none⟩ = some (.int .u64 x2) := (hb.cell (p := ⟨g, 7, none⟩) hg).trans y2
      refine wpOp_of rfl rfl ?_
      refine op_run (v := .int .u64 x2) (w' := w') ?_ ⟨_, rfl, ?_, ?_⟩
      · simp only [execOp, Act.eval, List.map_toArray, List.map_cons, List.map_nil, d7, y2]; first | (go_simp; done) | rfl
      · try dsimp only
        exact (slots_put (ns := 133) (hsa.size.trans rfl) (by decide))
      · exact Below.refl _ _
    | 9, ho =>
      obtain rfl := Option.some.inj ho
      try dsimp only at hd
      have d8 : a'.tmps.getD 59 undef = .int .u64 x2 := hd 8 (by rfl)
      refine wpOp_of rfl rfl ?_
      refine op_run (v := .int .i64 (IntKind.i64.wrap x2)) (w' := w') ?_ ⟨_, rfl, ?_, ?_⟩
      · simp only [execOp, Act.eval, List.map_toArray, List.map_cons, List.map_nil, d8]; first | (go_simp; done) | rfl
      · try dsimp only
        exact (slots_put (ns := 133) (hsa.size.trans rfl) (by decide))
      · exact Below.refl _ _
    | 10, ho =>
      obtain rfl := Option.some.inj ho
      try dsimp only at hd
      have d9 : a'.tmps.getD 60 undef = .int .i64 (IntKind.i64.wrap x2) := hd 9 (by rfl)
      refine wpOp_of rfl rfl ?_
      refine op_run (v := .int .i64 (IntKind.i64.wrap (IntKind.i64.wrap x2 - 1))) (w' := w') ?_ ⟨_, rfl, ?_, ?_⟩
      · simp only [execOp, Act.eval, List.map_toArray, List.map_cons, List.map_nil, d9]; first | (go_simp; done) | rfl
      · try dsimp only
        exact (slots_put (ns := 133) (hsa.size.trans rfl) (by decide))
      · exact Below.refl _ _
    | 11, ho =>
      obtain rfl := Option.some.inj ho
      try dsimp only at hd
      have d4 : a'.tmps.getD 55 undef = .int .i64 (IntKind.i64.wrap x1) := hd 4 (by rfl)
      have d10 : a'.tmps.getD 61 undef = .int .i64 (IntKind.i64.wrap (IntKind.i64.wrap x2 - 1)) := hd 10 (by rfl)
      refine wpOp_of rfl rfl ?_
      refine op_run (v := .agg #[.int .i64 (IntKind.i64.wrap x1), .int .i64 (IntKind.i64.wrap (IntKind.i64.wrap x2 - 1)), .slice none 0 0]) (w' := w') ?_ ⟨_, rfl, ?_, ?_⟩
      · simp only [execOp, Act.eval, List.map_toArray, List.map_cons, List.map_nil, d4, d10]; first | (go_simp; done) | rfl
      · try dsimp only
        exact (slots_put (ns := 133) (hsa.size.trans rfl) (by decide))
      · exact Below.refl _ _
    | 12, ho =>
      obtain rfl := Option.some.inj ho
      try dsimp only at hd
      refine wpOp_of rfl rfl ?_
      refine op_run (v := Value.pointer (some ⟨w'.heap.size, 0, none⟩)) (w' := w'.alloc (.cells #[.int .i64 0, .int .i64 0, .slice none 0 0] 37)) ?_ ⟨_, rfl, ?_, ?_⟩
      · simp only [execOp, Act.eval, List.map_toArray, List.map_cons, List.map_nil]; first | (go_simp; done) | rfl
      · try dsimp only
        exact ⟨_, (slots_put (ns := 133) (hsa.size.trans rfl) (by decide)), hb.size, heap_alloc_new _ _⟩
      · exact (Below.refl _ _).alloc (Nat.le_refl _) _
    | 13, ho =>
      obtain rfl := Option.some.inj ho
      try dsimp only at hd
      refine wpOp_of rfl rfl ?_
      refine op_run (v := undef) (w' := w') ?_ ⟨_, rfl, ?_, ?_⟩
      · rfl
      · try dsimp only
        trivial
      · exact Below.refl _ _
    | (n + 14), ho => exact absurd ho (by simp)
  case pdone =>
    intro a' w' hsa hb hd
    have d0 : a'.tmps.getD 51 undef = .slice (some ⟨g, 0, none⟩) n cp := hd 0 (by decide)
    have d1 : a'.tmps.getD 52 undef = .pointer (some ⟨g, 3, none⟩) := hd 1 (by decide)
    have d2 : a'.tmps.getD 53 undef = .pointer (some ⟨g, 4, none⟩) := hd 2 (by decide)
    have d3 : a'.tmps.getD 54 undef = .int .u64 x1 := hd 3 (by decide)
    have d4 : a'.tmps.getD 55 undef = .int .i64 (IntKind.i64.wrap x1) := hd 4 (by decide)
    have d5 : a'.tmps.getD 56 undef = .slice (some ⟨g, 0, none⟩) n cp := hd 5 (by decide)
    have d6 : a'.tmps.getD 57 undef = .pointer (some ⟨g, 6, none⟩) := hd 6 (by decide)
    have d7 : a'.tmps.getD 58 undef = .pointer (some ⟨g, 7, none⟩) := hd 7 (by decide)
    have d8 : a'.tmps.getD 59 undef = .int .u64 x2 := hd 8 (by decide)
    have d9 : a'.tmps.getD 60 undef = .int .i64 (IntKind.i64.wrap x2) := hd 9 (by decide)
    have d10 : a'.tmps.getD 61 undef = .int .i64 (IntKind.i64.wrap (IntKind.i64.wrap x2 - 1)) := hd 10 (by decide)
    have d11 : a'.tmps.getD 62 undef = .agg #[.int .i64 (IntKind.i64.wrap x1), .int .i64 (IntKind.i64.wrap (IntKind.i64.wrap x2 - 1)), .slice none 0 0] := hd 11 (by decide)
    have d12 : ∃ b4, a'.tmps.getD 10 undef = .pointer (some ⟨b4, 0, none⟩) ∧ wq.heap.size ≤ b4 ∧ w'.heap[b4]? = some (.cells #[.int .i64 0, .int .i64 0, .slice none 0 0] 37 (0, 0)) := hd 12 (by decide)
    have d13 : True := hd 13 (by decide)
    obtain ⟨b4, d12, h2, h3⟩ := d12
    intro K2 hK2
    have q0 := box_cell h3 0 rfl
    have z0 := box_free h3 0
    have q1 := box_cell h3 1 rfl
    have z1 := box_free h3 1
    have q2 := box_cell h3 2 rfl
    have z2 := box_free h3 2
    refine op_skip (w' := ((w'.setCell ⟨b4, 0, none⟩ (.int .i64 (IntKind.i64.wrap x1))).setCell ⟨b4, 1, none⟩ (.int .i64 (IntKind.i64.wrap (IntKind.i64.wrap x2 - 1)))).setCell ⟨b4, 2, none⟩ (.slice none 0 0)) ?_ (hK2 _ _ ?_)
    · simp only [execOp, Act.eval, d11, d12]
      first | (go_simp; done) | (go_simp; rfl)
    obtain ⟨k1, k2⟩ := WK.out
    refine HQ.out _ _ b4 ⟨hsa.size.trans rfl, hsa.defers.trans rfl, hsa.rest 0 (by rfl), hsa.rest 2 (by rfl), hsa.rest 3 (by rfl), hsa.rest 4 (by rfl), hsa.rest 5 (by rfl), hsa.rest 6 (by rfl), hsa.rest 7 (by rfl), hsa.rest 8 (by rfl), hsa.rest 9 (by rfl), d12, hsa.rest 11 (by rfl), hsa.rest 12 (by rfl), hsa.rest 20 (by rfl), hsa.rest 49 (by rfl), hsa.rest 66 (by rfl), hsa.rest 83 (by rfl), hsa.rest 125 (by rfl)⟩ h2 ?_ ?_
    · have h9 := box_set (box_set (box_set (h3) 0 (.int .i64 (IntKind.i64.wrap x1))) 1 (.int .i64 (IntKind.i64.wrap (IntKind.i64.wrap x2 - 1)))) 2 (.slice none 0 0)
      simpa [k1, k2] using h9
    · exact (((hb).setCell (p := ⟨b4, 0, none⟩) h2 _).setCell (p := ⟨b4, 1, none⟩) h2 _).setCell (p := ⟨b4, 2, none⟩) h2 _
end Go.Proofs.YtoolbbibnegdnaaGreatDoor
/-
  carillonref14's Answered: its thirteenth region (mkrq.py)
-/
namespace Go.Proofs.YtoolbbibnegdnaaGreatDoor
open Go.RowKit

attribute [local go_sem ↓] Go.wp_at_zero Go.wp_at_succ
set_option linter.unusedSimpArgs false
set_option linter.unusedVariables false
set_option maxHeartbeats 8000000 in
set_option maxRecDepth 100000 in
theorem rz_r13 {K : Act → World → Prop} {c : Code} (hc : regOf (Tryz.f12.body.getD .skip) 13 = some c) (a : Act) {v : Vrz} {wq : World} {g n cp b iz k rc n0 : Nat} {ro : Option Addr} {xs0 : List Value} {c1 c2 z0 z2 : Int} {zp zk zv : ByteArray} (hF : Frz a v) (h8v : v.v8 = .slice (some ⟨g, 0, none⟩) n cp) (h10v : v.v10 = .pointer (some ⟨b, 0, none⟩)) (h11v : v.v11 = .int .i64 (iz : Int)) (hin : iz + 4 < n) (hn : n ≤ 100000) (hB : wq.heap[b]? = some (.cells #[.int .i64 c1, .int .i64 c2, .slice ro k rc] 37 (0, 0))) (hrow : wq.ownsRow n0 46 5 (.slice ro k rc) k xs0) (hn0 : n0 ≤ wq.heap.size) (hk : k ≤ 10000) (hng : ¬ (Value.slice ro k rc).ownBlock = some g) (y0 : wq.cell? ⟨g, iz * 3 + 1, none⟩ = some (.int .u64 z0)) (y1 : wq.cell? ⟨g, (iz + 1) * 3 + 2, none⟩ = some (.string zp)) (y2 : wq.cell? ⟨g, (iz + 2) * 3 + 1, none⟩ = some (.int .u64 z2)) (y3 : wq.cell? ⟨g, (iz + 3) * 3 + 2, none⟩ = some (.string zk)) (y4 : wq.cell? ⟨g, (iz + 4) * 3 + 2, none⟩ = some (.string zv)) (l0 : 0 ≤ z0) (u0 : z0 ≤ 9007199254740991) (l2 : 0 ≤ z2) (u2 : z2 ≤ 9007199254740991)
    (hQ : ∀ a' w' ro2 rc2, Frz a' v → w'.heap[b]? = some (.cells #[.int .i64 c1, .int .i64 c2, .slice ro2 (k + 1) rc2] 37 (0, 0)) → w'.ownsRow n0 46 5 (.slice ro2 (k + 1) rc2) (k + 1) (xs0 ++ [.int .i64 z0, .string zp, .int .i64 z2, .string zk, .string zv]) → Touch (fun j => j = b ∨ (Value.slice ro k rc).ownBlock = some j) wq w' → K a' w') :
    Code.wp Tryz.prog c (Exit.then K fun _ _ _ => False) a wq := by
  have HQ := hide hQ
  clear hQ
  obtain ⟨t', d'⟩ := a
  obtain ⟨v0, v2, v3, v4, v5, v6, v7, v8, v9, v10, v11, v12, v20, v49, v66, v83, v125⟩ := v
  simp only at h8v h10v h11v HQ
  subst h8v h10v h11v
  obtain ⟨hs1, hd1, q0, q2, q3, q4, q5, q6, q7, q8, q9, q10, q11, q12, q20, q49, q66, q83, q125⟩ := hF
  obtain ⟨u, hu⟩ := frame_rz t' hs1
  simp only at hd1 q0 q2 q3 q4 q5 q6 q7 q8 q9 q10 q11 q12 q20 q49 q66 q83 q125
  subst hu hd1
  have e0 : u 0 = v0 := q0
  have e2 : u 2 = v2 := q2
  have e3 : u 3 = v3 := q3
  have e4 : u 4 = v4 := q4
  have e5 : u 5 = v5 := q5
  have e6 : u 6 = v6 := q6
  have e7 : u 7 = v7 := q7
  have e8 : u 8 = .slice (some ⟨g, 0, none⟩) n cp := q8
  have e9 : u 9 = v9 := q9
  have e10 : u 10 = .pointer (some ⟨b, 0, none⟩) := q10
  have e11 : u 11 = .int .i64 (iz : Int) := q11
  have e12 : u 12 = v12 := q12
  have e20 : u 20 = v20 := q20
  have e49 : u 49 = v49 := q49
  have e66 : u 66 = v66 := q66
  have e83 : u 83 = v83 := q83
  have e125 : u 125 = v125 := q125
  rw [e0, e2, e3, e4, e5, e6, e7, e8, e9, e10, e11, e12, e20, e49, e66, e83, e125]
  clear q0 e0 q2 e2 q3 e3 q4 e4 q5 e5 q6 e6 q7 e7 q8 e8 q9 e9 q10 e10 q11 e11 q12 e12 q20 e20 q49 e49 q66 e66 q83 e83 q125 e125 hs1
  simp only [Tryz.f12, Option.getD_some, regOf] at hc
  injection hc with hc
  subst hc
  generalize u 1 = u1
  generalize u 13 = u13
  generalize u 14 = u14
  generalize u 15 = u15
  generalize u 16 = u16
  generalize u 17 = u17
  generalize u 18 = u18
  generalize u 19 = u19
  generalize u 21 = u21
  generalize u 22 = u22
  generalize u 23 = u23
  generalize u 24 = u24
  generalize u 25 = u25
  generalize u 26 = u26
  generalize u 27 = u27
  generalize u 28 = u28
  generalize u 29 = u29
  generalize u 30 = u30
  generalize u 31 = u31
  generalize u 32 = u32
  generalize u 33 = u33
  generalize u 34 = u34
  generalize u 35 = u35
  generalize u 36 = u36
  generalize u 37 = u37
  generalize u 38 = u38
  generalize u 39 = u39
  generalize u 40 = u40
  generalize u 41 = u41
  generalize u 42 = u42
  generalize u 43 = u43
  generalize u 44 = u44
  generalize u 45 = u45
  generalize u 46 = u46
  generalize u 47 = u47
  generalize u 48 = u48
  generalize u 50 = u50
  generalize u 51 = u51
  generalize u 52 = u52
  generalize u 53 = u53
  generalize u 54 = u54
  generalize u 55 = u55
  generalize u 56 = u56
  generalize u 57 = u57
  generalize u 58 = u58
  generalize u 59 = u59
  generalize u 60 = u60
  generalize u 61 = u61
  generalize u 62 = u62
  generalize u 63 = u63
  generalize u 64 = u64
  generalize u 65 = u65
  generalize u 67 = u67
  generalize u 68 = u68
  generalize u 69 = u69
  generalize u 70 = u70
  generalize u 71 = u71
  generalize u 72 = u72
  generalize u 73 = u73
  generalize u 74 = u74
  generalize u 75 = u75
  generalize u 76 = u76
  generalize u 77 = u77
  generalize u 78 = u78
  generalize u 79 = u79
  generalize u 80 = u80
  generalize u 81 = u81
  generalize u 82 = u82
  generalize u 84 = u84
  generalize u 85 = u85
  generalize u 86 = u86
  generalize u 87 = u87
  generalize u 88 = u88
  generalize u 89 = u89
  generalize u 90 = u90
  generalize u 91 = u91
  generalize u 92 = u92
  generalize u 93 = u93
  generalize u 94 = u94
  generalize u 95 = u95
  generalize u 96 = u96
  generalize u 97 = u97
  generalize u 98 = u98
  generalize u 99 = u99
  generalize u 100 = u100
  generalize u 101 = u101
  generalize u 102 = u102
  generalize u 103 = u103
  generalize u 104 = u104
  generalize u 105 = u105
  generalize u 106 = u106
  generalize u 107 = u107
  generalize u 108 = u108
  generalize u 109 = u109
  generalize u 110 = u110
  generalize u 111 = u111
  generalize u 112 = u112
  generalize u 113 = u113
  generalize u 114 = u114
  generalize u 115 = u115
  generalize u 116 = u116
  generalize u 117 = u117
  generalize u 118 = u118
  generalize u 119 = u119
  generalize u 120 = u120
  generalize u 121 = u121
  generalize u 122 = u122
  generalize u 123 = u123
  generalize u 124 = u124
  generalize u 126 = u126
  generalize u 127 = u127
  generalize u 128 = u128
  generalize u 129 = u129
  generalize u 130 = u130
  generalize u 131 = u131
  generalize u 132 = u132
  clear u
  obtain ⟨i0, hi, hz0, hz1, hz2⟩ := info_parts infoRc
  have WK : Hid (IntKind.i64.wrap z0 = z0 ∧ IntKind.i64.wrap z2 = z2) := ⟨by rw [IntKind.wrap_i64]; omega, by rw [IntKind.wrap_i64]; omega⟩
  have hnb : ¬ (Value.slice ro k rc).ownBlock = some b := fun e => row_type hrow e hB (by decide)
  have hrl : ∀ j, (Value.slice ro k rc).ownBlock = some j → j < wq.heap.size := fun j e => row_lt hrow e
  have hi0 : (0 : Int) ≤ (iz : Int) := by omega
  have hi1 : (iz : Int) < (n : Int) := by omega
  have hi2 : (0 : Int) ≤ (iz : Int) + 1 := by omega
  have hi3 : (iz : Int) + 1 < (n : Int) := by omega
  have hi4 : (0 : Int) ≤ (iz : Int) + 2 := by omega
  have hi5 : (iz : Int) + 2 < (n : Int) := by omega
  have hi6 : (0 : Int) ≤ (iz : Int) + 3 := by omega
  have hi7 : (iz : Int) + 3 < (n : Int) := by omega
  have hi8 : (0 : Int) ≤ (iz : Int) + 4 := by omega
  have hi9 : (iz : Int) + 4 < (n : Int) := by omega
  refine wp_region_last 37 rfl (by kernel_rfl) rfl rfl (by kernel_rfl) ?_
  intro ops' hops'
  simp only [idle, List.setIfInBounds_toArray, List.set_cons_succ, List.set_cons_zero] at hops'
  subst hops'
  refine wpAny_pivot (ns := 133) (uses := (fun i => match i with | 0 => [85] | 1 => [86] | 2 => [87] | 3 => [88] | 4 => [89] | 5 => [90] | 6 => [91] | 7 => [92] | 8 => [93] | 9 => [94] | 10 => [95] | 11 => [96] | 12 => [97] | 13 => [98] | 14 => [99] | 15 => [100] | 16 => [101] | 17 => [102] | 18 => [103] | 19 => [104] | 20 => [105] | 21 => [106] | 22 => [107] | 23 => [108] | 24 => [109] | 25 => [110] | 26 => [111] | 27 => [112] | 28 => [113] | 29 => [114] | 30 => [115] | 31 => [116] | 32 => [117] | 33 => [118] | 34 => [119] | 35 => [120] | 36 => [121] | 37 => [] | _ => [])) (by kernel_rfl) (by kernel_rfl) (fun j w w' => (j ≠ 35 → Below w.heap.size w w') ∧ (j = 35 → w.grownBy w' (Value.slice ro k rc).ownBlock)) 35 (by decide) (fun bb w => (bb = false → Below wq.heap.size wq w) ∧ Touch (fun i => (Value.slice ro k rc).ownBlock = some i) wq w) (fun j b w w' hj h r => ⟨fun e => (h.1 e).trans ((r.1 hj).mono (h.1 e).size), h.2.below (r.1 hj)⟩) (fun w w' h r => ⟨fun e => (by cases e), h.2.grown (r.2 rfl) (fun i e _ => e)⟩) ⟨fun _ => (Below.refl _ _).drew, (Touch.refl _ _).drew⟩ (fun i => match i with | 0 => fun s w => s 85 = .pointer (some ⟨b, 2, none⟩) | 1 => fun s w => s 86 = .slice ro k rc | 2 => fun s w => s 87 = .slice (some ⟨g, 0, none⟩) n cp | 3 => fun s w => s 88 = .int .i64 (iz : Int) | 4 => fun s w => s 89 = .pointer (some ⟨g, iz * 3, none⟩) | 5 => fun s w => s 90 = .pointer (some ⟨g, iz * 3 + 1, none⟩) | 6 => fun s w => s 91 = .int .u64 z0 | 7 => fun s w => s 92 = .int .i64 (IntKind.i64.wrap z0) | 8 => fun s w => s 93 = .slice (some ⟨g, 0, none⟩) n cp | 9 => fun s w => s 94 = .int .i64 (iz : Int) | 10 => fun s w => s 95 = .int .i64 ((iz : Int) + 1) | 11 => fun s w => s 96 = .pointer (some ⟨g, (iz + 1) * 3, none⟩) | 12 => fun s w => s 97 = .pointer (some ⟨g, (iz + 1) * 3 + 2, none⟩) | 13 => fun s w => s 98 = .string zp | 14 => fun s w => s 99 = .slice (some ⟨g, 0, none⟩) n cp | 15 => fun s w => s 100 = .int .i64 (iz : Int) | 16 => fun s w => s 101 = .int .i64 ((iz : Int) + 2) | 17 => fun s w => s 102 = .pointer (some ⟨g, (iz + 2) * 3, none⟩) | 18 => fun s w => s 103 = .pointer (some ⟨g, (iz + 2) * 3 + 1, none⟩) | 19 => fun s w => s 104 = .int .u64 z2 | 20 => fun s w => s 105 = .int .i64 (IntKind.i64.wrap z2) | 21 => fun s w => s 106 = .slice (some ⟨g, 0, none⟩) n cp | 22 => fun s w => s 107 = .int .i64 (iz : Int) | 23 => fun s w => s 108 = .int .i64 ((iz : Int) + 3) | 24 => fun s w => s 109 = .pointer (some ⟨g, (iz + 3) * 3, none⟩) | 25 => fun s w => s 110 = .pointer (some ⟨g, (iz + 3) * 3 + 2, none⟩) | 26 => fun s w => s 111 = .string zk | 27 => fun s w => s 112 = .slice (some ⟨g, 0, none⟩) n cp | 28 => fun s w => s 113 = .int .i64 (iz : Int) | 29 => fun s w => s 114 = .int .i64 ((iz : Int) + 4) | 30 => fun s w => s 115 = .pointer (some ⟨g, (iz + 4) * 3, none⟩) | 31 => fun s w => s 116 = .pointer (some ⟨g, (iz + 4) * 3 + 2, none⟩) | 32 => fun s w => s 117 = .string zv | 33 => fun s w => s 118 = .agg #[.int .i64 (IntKind.i64.wrap z0), .string zp, .int .i64 (IntKind.i64.wrap z2), .string zk, .string zv] | 34 => fun s w => ∃ gb, s 119 = .slice (some ⟨gb, 0, none⟩) 1 1 ∧ wq.heap.size ≤ gb ∧ w.heap[gb]? = some (.cells #[.int .i64 (IntKind.i64.wrap z0), .string zp, .int .i64 (IntKind.i64.wrap z2), .string zk, .string zv] 46 (0, 0)) | 35 => fun s w => ∃ ro2 rc2, s 120 = .slice ro2 (k + 1) rc2 ∧ w.ownsRow n0 46 5 (.slice ro2 (k + 1) rc2) (k + 1) (xs0 ++ [.int .i64 (IntKind.i64.wrap z0), .string zp, .int .i64 (IntKind.i64.wrap z2), .string zk, .string zv]) | 36 => fun s w => s 121 = .pointer (some ⟨b, 2, none⟩) | 37 => fun s w => True | _ => fun _ _ => True) ?phc ?phh ?pstep ?pdone
  case phc =>
    intro i s s' w hx h
    match i, hx, h with
    | 0, hx, h =>
      have e85 := hx 85 (by simp)
      first | exact (show _ from by simp only [← e85] at *; exact h) | (simp only [e85] at h; exact h)
    | 1, hx, h =>
      have e86 := hx 86 (by simp)
      first | exact (show _ from by simp only [← e86] at *; exact h) | (simp only [e86] at h; exact h)
    | 2, hx, h =>
      have e87 := hx 87 (by simp)
      first | exact (show _ from by simp only [← e87] at *; exact h) | (simp only [e87] at h; exact h)
    | 3, hx, h =>
      have e88 := hx 88 (by simp)
      first | exact (show _ from by simp only [← e88] at *; exact h) | (simp only [e88] at h; exact h)
    | 4, hx, h =>
      have e89 := hx 89 (by simp)
      first | exact (show _ from by simp only [← e89] at *; exact h) | (simp only [e89] at h; exact h)
    | 5, hx, h =>
      have e90 := hx 90 (by simp)
      first | exact (show _ from by simp only [← e90] at *; exact h) | (simp only [e90] at h; exact h)
    | 6, hx, h =>
      have e91 := hx 91 (by simp)
      first | exact (show _ from by simp only [← e91] at *; exact h) | (simp only [e91] at h; exact h)
    | 7, hx, h =>
      have e92 := hx 92 (by simp)
      first | exact (show _ from by simp only [← e92] at *; exact h) | (simp only [e92] at h; exact h)
    | 8, hx, h =>
      have e93 := hx 93 (by simp)
      first | exact (show _ from by simp only [← e93] at *; exact h) | (simp only [e93] at h; exact h)
    | 9, hx, h =>
      have e94 := hx 94 (by simp)
      first | exact (show _ from by simp only [← e94] at *; exact h) | (simp only [e94] at h; exact h)
    | 10, hx, h =>
      have e95 := hx 95 (by simp)
      first | exact (show _ from by simp only [← e95] at *; exact h) | (simp only [e95] at h; exact h)
    | 11, hx, h =>
      have e96 := hx 96 (by simp)
      first | exact (show _ from by simp only [← e96] at *; exact h) | (simp only [e96] at h; exact h)
    | 12, hx, h =>
      have e97 := hx 97 (by simp)
      first | exact (show _ from by simp only [← e97] at *; exact h) | (simp only [e97] at h; exact h)
    | 13, hx, h =>
      have e98 := hx 98 (by simp)
      first | exact (show _ from by simp only [← e98] at *; exact h) | (simp only [e98] at h; exact h)
    | 14, hx, h =>
      have e99 := hx 99 (by simp)
      first | exact (show _ from by simp only [← e99] at *; exact h) | (simp only [e99] at h; exact h)
    | 15, hx, h =>
      have e100 := hx 100 (by simp)
      first | exact (show _ from by simp only [← e100] at *; exact h) | (simp only [e100] at h; exact h)
    | 16, hx, h =>
      have e101 := hx 101 (by simp)
      first | exact (show _ from by simp only [← e101] at *; exact h) | (simp only [e101] at h; exact h)
    | 17, hx, h =>
      have e102 := hx 102 (by simp)
      first | exact (show _ from by simp only [← e102] at *; exact h) | (simp only [e102] at h; exact h)
    | 18, hx, h =>
      have e103 := hx 103 (by simp)
      first | exact (show _ from by simp only [← e103] at *; exact h) | (simp only [e103] at h; exact h)
    | 19, hx, h =>
      have e104 := hx 104 (by simp)
      first | exact (show _ from by simp only [← e104] at *; exact h) | (simp only [e104] at h; exact h)
    | 20, hx, h =>
      have e105 := hx 105 (by simp)
      first | exact (show _ from by simp only [← e105] at *; exact h) | (simp only [e105] at h; exact h)
    | 21, hx, h =>
      have e106 := hx 106 (by simp)
      first | exact (show _ from by simp only [← e106] at *; exact h) | (simp only [e106] at h; exact h)
    | 22, hx, h =>
      have e107 := hx 107 (by simp)
      first | exact (show _ from by simp only [← e107] at *; exact h) | (simp only [e107] at h; exact h)
    | 23, hx, h =>
      have e108 := hx 108 (by simp)
      first | exact (show _ from by simp only [← e108] at *; exact h) | (simp only [e108] at h; exact h)
    | 24, hx, h =>
      have e109 := hx 109 (by simp)
      first | exact (show _ from by simp only [← e109] at *; exact h) | (simp only [e109] at h; exact h)
    | 25, hx, h =>
      have e110 := hx 110 (by simp)
      first | exact (show _ from by simp only [← e110] at *; exact h) | (simp only [e110] at h; exact h)
    | 26, hx, h =>
      have e111 := hx 111 (by simp)
      first | exact (show _ from by simp only [← e111] at *; exact h) | (simp only [e111] at h; exact h)
    | 27, hx, h =>
      have e112 := hx 112 (by simp)
      first | exact (show _ from by simp only [← e112] at *; exact h) | (simp only [e112] at h; exact h)
    | 28, hx, h =>
      have e113 := hx 113 (by simp)
      first | exact (show _ from by simp only [← e113] at *; exact h) | (simp only [e113] at h; exact h)
    | 29, hx, h =>
      have e114 := hx 114 (by simp)
      first | exact (show _ from by simp only [← e114] at *; exact h) | (simp only [e114] at h; exact h)
    | 30, hx, h =>
      have e115 := hx 115 (by simp)
      first | exact (show _ from by simp only [← e115] at *; exact h) | (simp only [e115] at h; exact h)
    | 31, hx, h =>
      have e116 := hx 116 (by simp)
      first | exact (show _ from by simp only [← e116] at *; exact h) | (simp only [e116] at h; exact h)
    | 32, hx, h =>
      have e117 := hx 117 (by simp)
      first | exact (show _ from by simp only [← e117] at *; exact h) | (simp only [e117] at h; exact h)
    | 33, hx, h =>
      have e118 := hx 118 (by simp)
      first | exact (show _ from by simp only [← e118] at *; exact h) | (simp only [e118] at h; exact h)
    | 34, hx, h =>
      have e119 := hx 119 (by simp)
      first | exact (show _ from by simp only [← e119] at *; exact h) | (simp only [e119] at h; exact h)
    | 35, hx, h =>
      have e120 := hx 120 (by simp)
      first | exact (show _ from by simp only [← e120] at *; exact h) | (simp only [e120] at h; exact h)
    | 36, hx, h =>
      have e121 := hx 121 (by simp)
      first | exact (show _ from by simp only [← e121] at *; exact h) | (simp only [e121] at h; exact h)
    | 37, hx, h =>
      exact h
    | (n + 38), _, h => exact h
  case phh =>
    intro i j s w w' hij h r
    match i, hij, h with
    | 0, hij, h =>
      exact h
    | 1, hij, h =>
      exact h
    | 2, hij, h =>
      exact h
    | 3, hij, h =>
      exact h
    | 4, hij, h =>
      exact h
    | 5, hij, h =>
      exact h
    | 6, hij, h =>
      exact h
    | 7, hij, h =>
      exact h
    | 8, hij, h =>
      exact h
    | 9, hij, h =>
      exact h
    | 10, hij, h =>
      exact h
    | 11, hij, h =>
      exact h
    | 12, hij, h =>
      exact h
    | 13, hij, h =>
      exact h
    | 14, hij, h =>
      exact h
    | 15, hij, h =>
      exact h
    | 16, hij, h =>
      exact h
    | 17, hij, h =>
      exact h
    | 18, hij, h =>
      exact h
    | 19, hij, h =>
      exact h
    | 20, hij, h =>
      exact h
    | 21, hij, h =>
      exact h
    | 22, hij, h =>
      exact h
    | 23, hij, h =>
      exact h
    | 24, hij, h =>
      exact h
    | 25, hij, h =>
      exact h
    | 26, hij, h =>
      exact h
    | 27, hij, h =>
      exact h
    | 28, hij, h =>
      exact h
    | 29, hij, h =>
      exact h
    | 30, hij, h =>
      exact h
    | 31, hij, h =>
      exact h
    | 32, hij, h =>
      exact h
    | 33, hij, h =>
      exact h
    | 34, hij, h =>
      obtain ⟨gb, h1, h2, h3⟩ := h
      by_cases e : j = 35
      · exact ⟨gb, h1, h2, ((r.2 e).block gb (heap_lt h3) (fun e2 => by have := hrl gb e2.symm; omega)).trans h3⟩
      · exact ⟨gb, h1, h2, ((r.1 e).block _ (heap_lt h3)).trans h3⟩
    | 35, hij, h =>
      obtain ⟨ro2, rc2, h1, h2⟩ := h
      exact ⟨ro2, rc2, h1, below_row (r.1 (fun e => hij e.symm)) h2⟩
    | 36, hij, h =>
      exact h
    | 37, hij, h =>
      exact h
    | (n + 38), _, h => exact h
  case pstep =>
    intro i o ho a' w' bb hbb hsa hb hd
    match i, ho with
    | 0, ho =>
      obtain rfl := Option.some.inj ho
      try dsimp only at hd
      have g10 : a'.tmps.getD 10 undef = .pointer (some ⟨b, 0, none⟩) := hsa.rest 10 (by rfl)
      refine wpOp_of rfl rfl ?_
      refine op_run (v := .pointer (some ⟨b, 2, none⟩)) (w' := w') ?_ ⟨_, rfl, ?_, ?_⟩
      · simp only [execOp, Act.eval, List.map_toArray, List.map_cons, List.map_nil, g10]; first | (go_simp; done) | rfl
      · try dsimp only
        exact (slots_put (ns := 133) (hsa.size.trans rfl) (by decide))
      · exact ⟨fun _ => Below.refl _ _, fun e => by cases e⟩
    | 1, ho =>
      obtain rfl := Option.some.inj ho
      try dsimp only at hd
      have d0 : a'.tmps.getD 85 undef = .pointer (some ⟨b, 2, none⟩) := hd 0 (by rfl)
      have y := box_cell (hb.2.at hB hnb) 2 rfl
      refine wpOp_of rfl rfl ?_
      refine op_run (v := .slice ro k rc) (w' := w') ?_ ⟨_, rfl, ?_, ?_⟩
      · simp only [execOp, Act.eval, List.map_toArray, List.map_cons, List.map_nil, d0, y]; first | (go_simp; done) | rfl
      · try dsimp only
        exact (slots_put (ns := 133) (hsa.size.trans rfl) (by decide))
      · exact ⟨fun _ => Below.refl _ _, fun e => by cases e⟩
    | 2, ho =>
      obtain rfl := Option.some.inj ho
      try dsimp only at hd
      have g8 : a'.tmps.getD 8 undef = .slice (some ⟨g, 0, none⟩) n cp := hsa.rest 8 (by rfl)
      refine wpOp_of rfl rfl ?_
      refine op_run (v := .slice (some ⟨g, 0, none⟩) n cp) (w' := w') ?_ ⟨_, rfl, ?_, ?_⟩
      · simp only [execOp, Act.eval, List.map_toArray, List.map_cons, List.map_nil, g8]; first | (go_simp; done) | rfl
      · try dsimp only
        exact (slots_put (ns := 133) (hsa.size.trans rfl) (by decide))
      · exact ⟨fun _ => Below.refl _ _, fun e => by cases e⟩
    | 3, ho =>
      obtain rfl := Option.some.inj ho
      try dsimp only at hd
      have g11 : a'.tmps.getD 11 undef = .int .i64 (iz : Int) := hsa.rest 11 (by rfl)
      refine wpOp_of rfl rfl ?_
      refine op_run (v := .int .i64 (iz : Int)) (w' := w') ?_ ⟨_, rfl, ?_, ?_⟩
      · simp only [execOp, Act.eval, List.map_toArray, List.map_cons, List.map_nil, g11]; first | (go_simp; done) | rfl
      · try dsimp only
        exact (slots_put (ns := 133) (hsa.size.trans rfl) (by decide))
      · exact ⟨fun _ => Below.refl _ _, fun e => by cases e⟩
    | 4, ho =>
      obtain rfl := Option.some.inj ho
      try dsimp only at hd
      have d2 : a'.tmps.getD 87 undef = .slice (some ⟨g, 0, none⟩) n cp := hd 2 (by rfl)
      have d3 : a'.tmps.getD 88 undef = .int .i64 (iz : Int) := hd 3 (by rfl)
      refine wpOp_of rfl rfl ?_
      refine op_run (v := .pointer (some ⟨g, iz * 3, none⟩)) (w' := w') ?_ ⟨_, rfl, ?_, ?_⟩
      · simp only [execOp, Act.eval, List.map_toArray, List.map_cons, List.map_nil, d2, d3]; first | (go_simp; done) | rfl
      · try dsimp only
        exact (slots_put (ns := 133) (hsa.size.trans rfl) (by decide))
      · exact ⟨fun _ => Below.refl _ _, fun e => by cases e⟩
    | 5, ho =>
      obtain rfl := Option.some.inj ho
      try dsimp only at hd
      have d4 : a'.tmps.getD 89 undef = .pointer (some ⟨g, iz * 3, none⟩) := hd 4 (by rfl)
      refine wpOp_of rfl rfl ?_
      refine op_run (v := .pointer (some ⟨g, iz * 3 + 1, none⟩)) (w' := w') ?_ ⟨_, rfl, ?_, ?_⟩
      · simp only [execOp, Act.eval, List.map_toArray, List.map_cons, List.map_nil, d4]; first | (go_simp; done) | rfl
      · try dsimp only
        exact (slots_put (ns := 133) (hsa.size.trans rfl) (by decide))
      · exact ⟨fun _ => Below.refl _ _, fun e => by cases e⟩
    | 6, ho =>
      obtain rfl := Option.some.inj ho
      try dsimp only at hd
      have d5 : a'.tmps.getD 90 undef = .pointer (some ⟨g, iz * 3 + 1, none⟩) := hd 5 (by rfl)
      have y := hb.2.cell _ y0 hng
      refine wpOp_of rfl rfl ?_
      refine op_run (v := .int .u64 z0) (w' := w') ?_ ⟨_, rfl, ?_, ?_⟩
      · simp only [execOp, Act.eval, List.map_toArray, List.map_cons, List.map_nil, d5, y]; first | (go_simp; done) | rfl
      · try dsimp only
        exact (slots_put (ns := 133) (hsa.size.trans rfl) (by decide))
      · exact ⟨fun _ => Below.refl _ _, fun e => by cases e⟩
    | 7, ho =>
      obtain rfl := Option.some.inj ho
      try dsimp only at hd
      have d6 : a'.tmps.getD 91 undef = .int .u64 z0 := hd 6 (by rfl)
      refine wpOp_of rfl rfl ?_
      refine op_run (v := .int .i64 (IntKind.i64.wrap z0)) (w' := w') ?_ ⟨_, rfl, ?_, ?_⟩
      · simp only [execOp, Act.eval, List.map_toArray, List.map_cons, List.map_nil, d6]; first | (go_simp; done) | rfl
      · try dsimp only
        exact (slots_put (ns := 133) (hsa.size.trans rfl) (by decide))
      · exact ⟨fun _ => Below.refl _ _, fun e => by cases e⟩
    | 8, ho =>
      obtain rfl := Option.some.inj ho
      try dsimp only at hd
      have g8 : a'.tmps.getD 8 undef = .slice (some ⟨g, 0, none⟩) n cp := hsa.rest 8 (by rfl)
      refine wpOp_of rfl rfl ?_
      refine op_run (v := .slice (some ⟨g, 0, none⟩) n cp) (w' := w') ?_ ⟨_, rfl, ?_, ?_⟩
      · simp only [execOp, Act.eval, List.map_toArray, List.map_cons, List.map_nil, g8]; first | (go_simp; done) | rfl
      · try dsimp only
        exact (slots_put (ns := 133) (hsa.size.trans rfl) (by decide))
      · exact ⟨fun _ => Below.refl _ _, fun e => by cases e⟩
    | 9, ho =>
      obtain rfl := Option.some.inj ho
      try dsimp only at hd
      have g11 : a'.tmps.getD 11 undef = .int .i64 (iz : Int) := hsa.rest 11 (by rfl)
      refine wpOp_of rfl rfl ?_
      refine op_run (v := .int .i64 (iz : Int)) (w' := w') ?_ ⟨_, rfl, ?_, ?_⟩
      · simp only [execOp, Act.eval, List.map_toArray, List.map_cons, List.map_nil, g11]; first | (go_simp; done) | rfl
      · try dsimp only
        exact (slots_put (ns := 133) (hsa.size.trans rfl) (by decide))
      · exact ⟨fun _ => Below.refl _ _, fun e => by cases e⟩
    | 10, ho =>
      obtain rfl := Option.some.inj ho
      try dsimp only at hd
      have d9 : a'.tmps.getD 94 undef = .int .i64 (iz : Int) := hd 9 (by rfl)
      refine wpOp_of rfl rfl ?_
      refine op_run (v := .int .i64 ((iz : Int) + 1)) (w' := w') ?_ ⟨_, rfl, ?_, ?_⟩
      · have e : IntKind.i64.wrap ((iz : Int) + 1) = (iz : Int) + 1 := (by rw [IntKind.wrap_i64]; omega); rw [← e]; clear e; simp only [execOp, Act.eval, List.map_toArray, List.map_cons, List.map_nil, d9]; first | (go_simp; done) | rfl
      · try dsimp only
        exact (slots_put (ns := 133) (hsa.size.trans rfl) (by decide))
      · exact ⟨fun _ => Below.refl _ _, fun e => by cases e⟩
    | 11, ho =>
      obtain rfl := Option.some.inj ho
      try dsimp only at hd
      have d8 : a'.tmps.getD 93 undef = .slice (some ⟨g, 0, none⟩) n cp := hd 8 (by rfl)
      have d10 : a'.tmps.getD 95 undef = .int .i64 ((iz : Int) + 1) := hd 10 (by rfl)
      refine wpOp_of rfl rfl ?_
      refine op_run (v := .pointer (some ⟨g, (iz + 1) * 3, none⟩)) (w' := w') ?_ ⟨_, rfl, ?_, ?_⟩
      · simp only [execOp, Act.eval, List.map_toArray, List.map_cons, List.map_nil, d8, d10]; first | (go_simp; done) | rfl
      · try dsimp only
        exact (slots_put (ns := 133) (hsa.size.trans rfl) (by decide))
      · exact ⟨fun _ => Below.refl _ _, fun e => by cases e⟩
    | 12, ho =>
      obtain rfl := Option.some.inj ho
      try dsimp only at hd
      have d11 : a'.tmps.getD 96 undef = .pointer (some ⟨g, (iz + 1) * 3, none⟩) := hd 11 (by rfl)
      refine wpOp_of rfl rfl ?_
      refine op_run (v := .pointer (some ⟨g, (iz + 1) * 3 + 2, none⟩)) (w' := w') ?_ ⟨_, rfl, ?_, ?_⟩
      · simp only [execOp, Act.eval, List.map_toArray, List.map_cons, List.map_nil, d11]; first | (go_simp; done) | rfl
      · try dsimp only
        exact (slots_put (ns := 133) (hsa.size.trans rfl) (by decide))
      · exact ⟨fun _ => Below.refl _ _, fun e => by cases e⟩
    | 13, ho =>
      obtain rfl := Option.some.inj ho
      try dsimp only at hd
      have d12 : a'.tmps.getD 97 undef = .pointer (some ⟨g, (iz + 1) * 3 + 2, none⟩) := hd 12 (by rfl)
      have y := hb.2.cell _ y1 hng
      refine wpOp_of rfl rfl ?_
      refine op_run (v := .string zp) (w' := w') ?_ ⟨_, rfl, ?_, ?_⟩
      · simp only [execOp, Act.eval, List.map_toArray, List.map_cons, List.map_nil, d12, y]; first | (go_simp; done) | rfl
      · try dsimp only
        exact (slots_put (ns := 133) (hsa.size.trans rfl) (by decide))
      · exact ⟨fun _ => Below.refl _ _, fun e => by cases e⟩
    | 14, ho =>
      obtain rfl := Option.some.inj ho
      try dsimp only at hd
      have g8 : a'.tmps.getD 8 undef = .slice (some ⟨g, 0, none⟩) n cp := hsa.rest 8 (by rfl)
      refine wpOp_of rfl rfl ?_
      refine op_run (v := .slice (some ⟨g, 0, none⟩) n cp) (w' := w') ?_ ⟨_, rfl, ?_, ?_⟩
      · simp only [execOp, Act.eval, List.map_toArray, List.map_cons, List.map_nil, g8]; first | (go_simp; done) | rfl
      · try dsimp only
        exact (slots_put (ns := 133) (hsa.size.trans rfl) (by decide))
      · exact ⟨fun _ => Below.refl _ _, fun e => by cases e⟩
    | 15, ho =>
      obtain rfl := Option.some.inj ho
      try dsimp only at hd
      have g11 : a'.tmps.getD 11 undef = .int .i64 (iz : Int) := hsa.rest 11 (by rfl)
      refine wpOp_of rfl rfl ?_
      refine op_run (v := .int .i64 (iz : Int)) (w' := w') ?_ ⟨_, rfl, ?_, ?_⟩
      · simp only [execOp, Act.eval, List.map_toArray, List.map_cons, List.map_nil, g11]; first | (go_simp; done) | rfl
      · try dsimp only
        exact (slots_put (ns := 133) (hsa.size.trans rfl) (by decide))
      · exact ⟨fun _ => Below.refl _ _, fun e => by cases e⟩
    | 16, ho =>
      obtain rfl := Option.some.inj ho
      try dsimp only at hd
      have d15 : a'.tmps.getD 100 undef = .int .i64 (iz : Int) := hd 15 (by rfl)
      refine wpOp_of rfl rfl ?_
      refine op_run (v := .int .i64 ((iz : Int) + 2)) (w' := w') ?_ ⟨_, rfl, ?_, ?_⟩
      · have e : IntKind.i64.wrap ((iz : Int) + 2) = (iz : Int) + 2 := (by rw [IntKind.wrap_i64]; omega); rw [← e]; clear e; simp only [execOp, Act.eval, List.map_toArray, List.map_cons, List.map_nil, d15]; first | (go_simp; done) | rfl
      · try dsimp only
        exact (slots_put (ns := 133) (hsa.size.trans rfl) (by decide))
      · exact ⟨fun _ => Below.refl _ _, fun e => by cases e⟩
    | 17, ho =>
      obtain rfl := Option.some.inj ho
      try dsimp only at hd
      have d14 : a'.tmps.getD 99 undef = .slice (some ⟨g, 0, none⟩) n cp := hd 14 (by rfl)
      have d16 : a'.tmps.getD 101 undef = .int .i64 ((iz : Int) + 2) := hd 16 (by rfl)
      refine wpOp_of rfl rfl ?_
      refine op_run (v := .pointer (some ⟨g, (iz + 2) * 3, none⟩)) (w' := w') ?_ ⟨_, rfl, ?_, ?_⟩
      · simp only [execOp, Act.eval, List.map_toArray, List.map_cons, List.map_nil, d14, d16]; first | (go_simp; done) | rfl
      · try dsimp only
        exact (slots_put (ns := 133) (hsa.size.trans rfl) (by decide))
      · exact ⟨fun _ => Below.refl _ _, fun e => by cases e⟩
    | 18, ho =>
      obtain rfl := Option.some.inj ho
      try dsimp only at hd
      have d17 : a'.tmps.getD 102 undef = .pointer (some ⟨g, (iz + 2) * 3, none⟩) := hd 17 (by rfl)
      refine wpOp_of rfl rfl ?_
      refine op_run (v := .pointer (some ⟨g, (iz + 2) * 3 + 1, none⟩)) (w' := w') ?_ ⟨_, rfl, ?_, ?_⟩
      · simp only [execOp, Act.eval, List.map_toArray, List.map_cons, List.map_nil, d17]; first | (go_simp; done) | rfl
      · try dsimp only
        exact (slots_put (ns := 133) (hsa.size.trans rfl) (by decide))
      · exact ⟨fun _ => Below.refl _ _, fun e => by cases e⟩
    | 19, ho =>
      obtain rfl := Option.some.inj ho
      try dsimp only at hd
      have d18 : a'.tmps.getD 103 undef = .pointer (some ⟨g, (iz + 2) * 3 + 1, none⟩) := hd 18 (by rfl)
      have y := hb.2.cell _ y2 hng
      refine wpOp_of rfl rfl ?_
      refine op_run (v := .int .u64 z2) (w' := w') ?_ ⟨_, rfl, ?_, ?_⟩
      · simp only [execOp, Act.eval, List.map_toArray, List.map_cons, List.map_nil, d18, y]; first | (go_simp; done) | rfl
      · try dsimp only
        exact (slots_put (ns := 133) (hsa.size.trans rfl) (by decide))
      · exact ⟨fun _ => Below.refl _ _, fun e => by cases e⟩
    | 20, ho =>
      obtain rfl := Option.some.inj ho
      try dsimp only at hd
      have d19 : a'.tmps.getD 104 undef = .int .u64 z2 := hd 19 (by rfl)
      refine wpOp_of rfl rfl ?_
      refine op_run (v := .int .i64 (IntKind.i64.wrap z2)) (w' := w') ?_ ⟨_, rfl, ?_, ?_⟩
      · simp only [execOp, Act.eval, List.map_toArray, List.map_cons, List.map_nil, d19]; first | (go_simp; done) | rfl
      · try dsimp only
        exact (slots_put (ns := 133) (hsa.size.trans rfl) (by decide))
      · exact ⟨fun _ => Below.refl _ _, fun e => by cases e⟩
    | 21, ho =>
      obtain rfl := Option.some.inj ho
      try dsimp only at hd
      have g8 : a'.tmps.getD 8 undef = .slice (some ⟨g, 0, none⟩) n cp := hsa.rest 8 (by rfl)
      refine wpOp_of rfl rfl ?_
      refine op_run (v := .slice (some ⟨g, 0, none⟩) n cp) (w' := w') ?_ ⟨_, rfl, ?_, ?_⟩
      · simp only [execOp, Act.eval, List.map_toArray, List.map_cons, List.map_nil, g8]; first | (go_simp; done) | rfl
      · try dsimp only
        exact (slots_put (ns := 133) (hsa.size.trans rfl) (by decide))
      · exact ⟨fun _ => Below.refl _ _, fun e => by cases e⟩
    | 22, ho =>
      obtain rfl := Option.some.inj ho
      try dsimp only at hd
      have g11 : a'.tmps.getD 11 undef = .int .i64 (iz : Int) := hsa.rest 11 (by rfl)
      refine wpOp_of rfl rfl ?_
      refine op_run (v := .int .i64 (iz : Int)) (w' := w') ?_ ⟨_, rfl, ?_, ?_⟩
      · simp only [execOp, Act.eval, List.map_toArray, List.map_cons, List.map_nil, g11]; first | (go_simp; done) | rfl
      · try dsimp only
        exact (slots_put (ns := 133) (hsa.size.trans rfl) (by decide))
      · exact ⟨fun _ => Below.refl _ _, fun e => by cases e⟩
    | 23, ho =>
      obtain rfl := Option.some.inj ho
      try dsimp only at hd
      have d22 : a'.tmps.getD 107 undef = .int .i64 (iz : Int) := hd 22 (by rfl)
      refine wpOp_of rfl rfl ?_
      refine op_run (v := .int .i64 ((iz : Int) + 3)) (w' := w') ?_ ⟨_, rfl, ?_, ?_⟩
      · have e : IntKind.i64.wrap ((iz : Int) + 3) = (iz : Int) + 3 := (by rw [IntKind.wrap_i64]; omega); rw [← e]; clear e; simp only [execOp, Act.eval, List.map_toArray, List.map_cons, List.map_nil, d22]; first | (go_simp; done) | rfl
      · try dsimp only
        exact (slots_put (ns := 133) (hsa.size.trans rfl) (by decide))
      · exact ⟨fun _ => Below.refl _ _, fun e => by cases e⟩
    | 24, ho =>
      obtain rfl := Option.some.inj ho
      try dsimp only at hd
      have d21 : a'.tmps.getD 106 undef = .slice (some ⟨g, 0, none⟩) n cp := hd 21 (by rfl)
      have d23 : a'.tmps.getD 108 undef = .int .i64 ((iz : Int) + 3) := hd 23 (by rfl)
      refine wpOp_of rfl rfl ?_
      refine op_run (v := .pointer (some ⟨g, (iz + 3) * 3, none⟩)) (w' := w') ?_ ⟨_, rfl, ?_, ?_⟩
      · simp only [execOp, Act.eval, List.map_toArray, List.map_cons, List.map_nil, d21, d23]; first | (go_simp; done) | rfl
      · try dsimp only
        exact (slots_put (ns := 133) (hsa.size.trans rfl) (by decide))
      · exact ⟨fun _ => Below.refl _ _, fun e => by cases e⟩
    | 25, ho =>
      obtain rfl := Option.some.inj ho
      try dsimp only at hd
      have d24 : a'.tmps.getD 109 undef = .pointer (some ⟨g, (iz + 3) * 3, none⟩) := hd 24 (by rfl)
      refine wpOp_of rfl rfl ?_
      refine op_run (v := .pointer (some ⟨g, (iz + 3) * 3 + 2, none⟩)) (w' := w') ?_ ⟨_, rfl, ?_, ?_⟩
      · simp only [execOp, Act.eval, List.map_toArray, List.map_cons, List.map_nil, d24]; first | (go_simp; done) | rfl
      · try dsimp only
        exact (slots_put (ns := 133) (hsa.size.trans rfl) (by decide))
      · exact ⟨fun _ => Below.refl _ _, fun e => by cases e⟩
    | 26, ho =>
      obtain rfl := Option.some.inj ho
      try dsimp only at hd
      have d25 : a'.tmps.getD 110 undef = .pointer (some ⟨g, (iz + 3) * 3 + 2, none⟩) := hd 25 (by rfl)
      have y := hb.2.cell _ y3 hng
      refine wpOp_of rfl rfl ?_
      refine op_run (v := .string zk) (w' := w') ?_ ⟨_, rfl, ?_, ?_⟩
      · simp only [execOp, Act.eval, List.map_toArray, List.map_cons, List.map_nil, d25, y]; first | (go_simp; done) | rfl
      · try dsimp only
        exact (slots_put (ns := 133) (hsa.size.trans rfl) (by decide))
      · exact ⟨fun _ => Below.refl _ _, fun e => by cases e⟩
    | 27, ho =>
      obtain rfl := Option.some.inj ho
      try dsimp only at hd
      have g8 : a'.tmps.getD 8 undef = .slice (some ⟨g, 0, none⟩) n cp := hsa.rest 8 (by rfl)
      refine wpOp_of rfl rfl ?_
      refine op_run (v := .slice (some ⟨g, 0, none⟩) n cp) (w' := w') ?_ ⟨_, rfl, ?_, ?_⟩
      · simp only [execOp, Act.eval, List.map_toArray, List.map_cons, List.map_nil, g8]; first | (go_simp; done) | rfl
      · try dsimp only
        exact (slots_put (ns := 133) (hsa.size.trans rfl) (by decide))
      · exact ⟨fun _ => Below.refl _ _, fun e => by cases e⟩
    | 28, ho =>
      obtain rfl := Option.some.inj ho
      try dsimp only at hd
      have g11 : a'.tmps.getD 11 undef = .int .i64 (iz : Int) := hsa.rest 11 (by rfl)
      refine wpOp_of rfl rfl ?_
      refine op_run (v := .int .i64 (iz : Int)) (w' := w') ?_ ⟨_, rfl, ?_, ?_⟩
      · simp only [execOp, Act.eval, List.map_toArray, List.map_cons, List.map_nil, g11]; first | (go_simp; done) | rfl
      · try dsimp only
        exact (slots_put (ns := 133) (hsa.size.trans rfl) (by decide))
      · exact ⟨fun _ => Below.refl _ _, fun e => by cases e⟩
    | 29, ho =>
      obtain rfl := Option.some.inj ho
      try dsimp only at hd
      have d28 : a'.tmps.getD 113 undef = .int .i64 (iz : Int) := hd 28 (by rfl)
      refine wpOp_of rfl rfl ?_
      refine op_run (v := .int .i64 ((iz : Int) + 4)) (w' := w') ?_ ⟨_, rfl, ?_, ?_⟩
      · have e : IntKind.i64.wrap ((iz : Int) + 4) = (iz : Int) + 4 := (by rw [IntKind.wrap_i64]; omega); rw [← e]; clear e; simp only [execOp, Act.eval, List.map_toArray, List.map_cons, List.map_nil, d28]; first | (go_simp; done) | rfl
      · try dsimp only
        exact (slots_put (ns := 133) (hsa.size.trans rfl) (by decide))
      · exact ⟨fun _ => Below.refl _ _, fun e => by cases e⟩
    | 30, ho =>
      obtain rfl := Option.some.inj ho
      try dsimp only at hd
      have d27 : a'.tmps.getD 112 undef = .slice (some ⟨g, 0, none⟩) n cp := hd 27 (by rfl)
      have d29 : a'.tmps.getD 114 undef = .int .i64 ((iz : Int) + 4) := hd 29 (by rfl)
      refine wpOp_of rfl rfl ?_
      refine op_run (v := .pointer (some ⟨g, (iz + 4) * 3, none⟩)) (w' := w') ?_ ⟨_, rfl, ?_, ?_⟩
      · simp only [execOp, Act.eval, List.map_toArray, List.map_cons, List.map_nil, d27, d29]; first | (go_simp; done) | rfl
      · try dsimp only
        exact (slots_put (ns := 133) (hsa.size.trans rfl) (by decide))
      · exact ⟨fun _ => Below.refl _ _, fun e => by cases e⟩
    | 31, ho =>
      obtain rfl := Option.some.inj ho
      try dsimp only at hd
      have d30 : a'.tmps.getD 115 undef = .pointer (some ⟨g, (iz + 4) * 3, none⟩) := hd 30 (by rfl)
      refine wpOp_of rfl rfl ?_
      refine op_run (v := .pointer (some ⟨g, (iz + 4) * 3 + 2, none⟩)) (w' := w') ?_ ⟨_, rfl, ?_, ?_⟩
      · simp only [execOp, Act.eval, List.map_toArray, List.map_cons, List.map_nil, d30]; first | (go_simp; done) | rfl
      · try dsimp only
        exact (slots_put (ns := 133) (hsa.size.trans rfl) (by decide))
      · exact ⟨fun _ => Below.refl _ _, fun e => by cases e⟩
    | 32, ho =>
      obtain rfl := Option.some.inj ho
      try dsimp only at hd
      have d31 : a'.tmps.getD 116 undef = .pointer (some ⟨g, (iz + 4) * 3 + 2, none⟩) := hd 31 (by rfl)
      have y := hb.2.cell _ y4 hng
      refine wpOp_of rfl rfl ?_
      refine op_run (v := .string zv) (w' := w') ?_ ⟨_, rfl, ?_, ?_⟩
      · simp only [execOp, Act.eval, List.map_toArray, List.map_cons, List.map_nil, d31, y]; first | (go_simp; done) | rfl
      · try dsimp only
        exact (slots_put (ns := 133) (hsa.size.trans rfl) (by decide))
      · exact ⟨fun _ => Below.refl _ _, fun e => by cases e⟩
    | 33, ho =>
      obtain rfl := Option.some.inj ho
      try dsimp only at hd
      have d7 : a'.tmps.getD 92 undef = .int .i64 (IntKind.i64.wrap z0) := hd 7 (by rfl)
      have d13 : a'.tmps.getD 98 undef = .string zp := hd 13 (by rfl)
      have d20 : a'.tmps.getD 105 undef = .int .i64 (IntKind.i64.wrap z2) := hd 20 (by rfl)
      have d26 : a'.tmps.getD 111 undef = .string zk := hd 26 (by rfl)
      have d32 : a'.tmps.getD 117 undef = .string zv := hd 32 (by rfl)
      refine wpOp_of rfl rfl ?_
      refine op_run (v := .agg #[.int .i64 (IntKind.i64.wrap z0), .string zp, .int .i64 (IntKind.i64.wrap z2), .string zk, .string zv]) (w' := w') ?_ ⟨_, rfl, ?_, ?_⟩
      · simp only [execOp, Act.eval, List.map_toArray, List.map_cons, List.map_nil, d7, d13, d20, d26, d32]; first | (go_simp; done) | rfl
      · try dsimp only
        exact (slots_put (ns := 133) (hsa.size.trans rfl) (by decide))
      · exact ⟨fun _ => Below.refl _ _, fun e => by cases e⟩
    | 34, ho =>
      obtain rfl := Option.some.inj ho
      try dsimp only at hd
      have d33 : a'.tmps.getD 118 undef = .agg #[.int .i64 (IntKind.i64.wrap z0), .string zp, .int .i64 (IntKind.i64.wrap z2), .string zk, .string zv] := hd 33 (by rfl)
      refine wpOp_of rfl rfl ?_
      refine op_run (v := Value.slice (some ⟨w'.heap.size, 0, none⟩) 1 1) (w' := w'.alloc (.cells #[.int .i64 (IntKind.i64.wrap z0), .string zp, .int .i64 (IntKind.i64.wrap z2), .string zk, .string zv] 46)) ?_ ⟨_, rfl, ?_, ?_⟩
      · simp only [execOp, Act.eval, List.map_toArray, List.map_cons, List.map_nil, d33]; first | (go_simp; done) | rfl
      · try dsimp only
        exact ⟨_, (slots_put (ns := 133) (hsa.size.trans rfl) (by decide)), hb.2.size, heap_alloc_new _ _⟩
      · exact ⟨fun _ => (Below.refl _ _).alloc (Nat.le_refl _) _, fun e => by cases e⟩
    | 35, ho =>
      obtain rfl := Option.some.inj ho
      try dsimp only at hd
      have d1 : a'.tmps.getD 86 undef = .slice ro k rc := hd 1 (by rfl)
      have d34 : ∃ gb, a'.tmps.getD 119 undef = .slice (some ⟨gb, 0, none⟩) 1 1 ∧ wq.heap.size ≤ gb ∧ w'.heap[gb]? = some (.cells #[.int .i64 (IntKind.i64.wrap z0), .string zp, .int .i64 (IntKind.i64.wrap z2), .string zk, .string zv] 46 (0, 0)) := hd 34 (by rfl)
      refine wpOp_of rfl rfl ?_
      obtain ⟨gb, d34, _, h6⟩ := d34
      have hbl := hb.1 (hbb rfl)
      refine wp_append_own w' _ _ 35 rfl n0 46 i0 (.agg #[.int .i64 0, .string ⟨#[]⟩, .int .i64 0, .string ⟨#[]⟩, .string ⟨#[]⟩]) 5 64 Tryz.underlying35 hi hz0 hz1 hz2 rfl (by decide) (Value.slice ro k rc) k xs0 (by simp only [Act.eval, d1]) (below_row hbl hrow) ⟨gb, 0, none⟩ 1 1 [.int .i64 (IntKind.i64.wrap z0), .string zp, .int .i64 (IntKind.i64.wrap z2), .string zk, .string zv] (by simp only [Act.eval, d34]) rfl (fun j u hj => by
        rw [Addr.add_lit]
        simp only [Nat.zero_add]
        exact box_cell h6 j (by simpa using hj)) (by simp [Value.oneCell']) (by have : maxLen = 9223372036854775807 := rfl; omega) (by omega) (Nat.le_trans hn0 hbl.size) ?_
      intro v' w'' h7 h8 _
      obtain ⟨ro2, rc2, rfl⟩ := row_slice h7
      refine ⟨_, rfl, ⟨ro2, rc2, (slots_put (ns := 133) (hsa.size.trans rfl) (by decide)), h7⟩, fun e => absurd rfl e, fun _ => h8⟩
    | 36, ho =>
      obtain rfl := Option.some.inj ho
      try dsimp only at hd
      have g10 : a'.tmps.getD 10 undef = .pointer (some ⟨b, 0, none⟩) := hsa.rest 10 (by rfl)
      refine wpOp_of rfl rfl ?_
      refine op_run (v := .pointer (some ⟨b, 2, none⟩)) (w' := w') ?_ ⟨_, rfl, ?_, ?_⟩
      · simp only [execOp, Act.eval, List.map_toArray, List.map_cons, List.map_nil, g10]; first | (go_simp; done) | rfl
      · try dsimp only
        exact (slots_put (ns := 133) (hsa.size.trans rfl) (by decide))
      · exact ⟨fun _ => Below.refl _ _, fun e => by cases e⟩
    | 37, ho =>
      obtain rfl := Option.some.inj ho
      try dsimp only at hd
      refine wpOp_of rfl rfl ?_
      refine op_run (v := undef) (w' := w') ?_ ⟨_, rfl, ?_, ?_⟩
      · rfl
      · try dsimp only
        trivial
      · exact ⟨fun _ => Below.refl _ _, fun e => by cases e⟩
    | (n + 38), ho => exact absurd ho (by simp)
  case pdone =>
    intro a' w' hsa hb hd
    have d0 : a'.tmps.getD 85 undef = .pointer (some ⟨b, 2, none⟩) := hd 0 (by decide)
    have d1 : a'.tmps.getD 86 undef = .slice ro k rc := hd 1 (by decide)
    have d2 : a'.tmps.getD 87 undef = .slice (some ⟨g, 0, none⟩) n cp := hd 2 (by decide)
    have d3 : a'.tmps.getD 88 undef = .int .i64 (iz : Int) := hd 3 (by decide)
    have d4 : a'.tmps.getD 89 undef = .pointer (some ⟨g, iz * 3, none⟩) := hd 4 (by decide)
    have d5 : a'.tmps.getD 90 undef = .pointer (some ⟨g, iz * 3 + 1, none⟩) := hd 5 (by decide)
    have d6 : a'.tmps.getD 91 undef = .int .u64 z0 := hd 6 (by decide)
    have d7 : a'.tmps.getD 92 undef = .int .i64 (IntKind.i64.wrap z0) := hd 7 (by decide)
    have d8 : a'.tmps.getD 93 undef = .slice (some ⟨g, 0, none⟩) n cp := hd 8 (by decide)
    have d9 : a'.tmps.getD 94 undef = .int .i64 (iz : Int) := hd 9 (by decide)
    have d10 : a'.tmps.getD 95 undef = .int .i64 ((iz : Int) + 1) := hd 10 (by decide)
    have d11 : a'.tmps.getD 96 undef = .pointer (some ⟨g, (iz + 1) * 3, none⟩) := hd 11 (by decide)
    have d12 : a'.tmps.getD 97 undef = .pointer (some ⟨g, (iz + 1) * 3 + 2, none⟩) := hd 12 (by decide)
    have d13 : a'.tmps.getD 98 undef = .string zp := hd 13 (by decide)
    have d14 : a'.tmps.getD 99 undef = .slice (some ⟨g, 0, none⟩) n cp := hd 14 (by decide)
    have d15 : a'.tmps.getD 100 undef = .int .i64 (iz : Int) := hd 15 (by decide)
    have d16 : a'.tmps.getD 101 undef = .int .i64 ((iz : Int) + 2) := hd 16 (by decide)
    have d17 : a'.tmps.getD 102 undef = .pointer (some ⟨g, (iz + 2) * 3, none⟩) := hd 17 (by decide)
    have d18 : a'.tmps.getD 103 undef = .pointer (some ⟨g, (iz + 2) * 3 + 1, none⟩) := hd 18 (by decide)
    have d19 : a'.tmps.getD 104 undef = .int .u64 z2 := hd 19 (by decide)
    have d20 : a'.tmps.getD 105 undef = .int .i64 (IntKind.i64.wrap z2) := hd 20 (by decide)
    have d21 : a'.tmps.getD 106 undef = .slice (some ⟨g, 0, none⟩) n cp := hd 21 (by decide)
    have d22 : a'.tmps.getD 107 undef = .int .i64 (iz : Int) := hd 22 (by decide)
    have d23 : a'.tmps.getD 108 undef = .int .i64 ((iz : Int) + 3) := hd 23 (by decide)
    have d24 : a'.tmps.getD 109 undef = .pointer (some ⟨g, (iz + 3) * 3, none⟩) := hd 24 (by decide)
    have d25 : a'.tmps.getD 110 undef = .pointer (some ⟨g, (iz + 3) * 3 + 2, none⟩) := hd 25 (by decide)
    have d26 : a'.tmps.getD 111 undef = .string zk := hd 26 (by decide)
    have d27 : a'.tmps.getD 112 undef = .slice (some ⟨g, 0, none⟩) n cp := hd 27 (by decide)
    have d28 : a'.tmps.getD 113 undef = .int .i64 (iz : Int) := hd 28 (by decide)
    have d29 : a'.tmps.getD 114 undef = .int .i64 ((iz : Int) + 4) := hd 29 (by decide)
    have d30 : a'.tmps.getD 115 undef = .pointer (some ⟨g, (iz + 4) * 3, none⟩) := hd 30 (by decide)
    have d31 : a'.tmps.getD 116 undef = .pointer (some ⟨g, (iz + 4) * 3 + 2, none⟩) := hd 31 (by decide)
    have d32 : a'.tmps.getD 117 undef = .string zv := hd 32 (by decide)
    have d33 : a'.tmps.getD 118 undef = .agg #[.int .i64 (IntKind.i64.wrap z0), .string zp, .int .i64 (IntKind.i64.wrap z2), .string zk, .string zv] := hd 33 (by decide)
    have d34 : ∃ gb, a'.tmps.getD 119 undef = .slice (some ⟨gb, 0, none⟩) 1 1 ∧ wq.heap.size ≤ gb ∧ w'.heap[gb]? = some (.cells #[.int .i64 (IntKind.i64.wrap z0), .string zp, .int .i64 (IntKind.i64.wrap z2), .string zk, .string zv] 46 (0, 0)) := hd 34 (by decide)
    have d35 : ∃ ro2 rc2, a'.tmps.getD 120 undef = .slice ro2 (k + 1) rc2 ∧ w'.ownsRow n0 46 5 (.slice ro2 (k + 1) rc2) (k + 1) (xs0 ++ [.int .i64 (IntKind.i64.wrap z0), .string zp, .int .i64 (IntKind.i64.wrap z2), .string zk, .string zv]) := hd 35 (by decide)
    have d36 : a'.tmps.getD 121 undef = .pointer (some ⟨b, 2, none⟩) := hd 36 (by decide)
    have d37 : True := hd 37 (by decide)
    obtain ⟨ro2, rc2, d35, h7⟩ := d35
    intro K2 hK2
    have h3 := hb.2.at hB hnb
    have q2 := box_cell h3 2 rfl
    have z2' := box_free h3 2
    refine op_skip (w' := w'.setCell ⟨b, 2, none⟩ (.slice ro2 (k + 1) rc2)) ?_ (hK2 _ _ ?_)
    · simp only [execOp, Act.eval, d35, d36]
      first | (go_simp; done) | (go_simp; rfl)
    obtain ⟨k1, k2⟩ := WK.out
    have h9 : (w'.setCell ⟨b, 2, none⟩ (.slice ro2 (k + 1) rc2)).heap[b]? = some (.cells #[.int .i64 c1, .int .i64 c2, .slice ro2 (k + 1) rc2] 37 (0, 0)) := by simpa using box_set h3 2 (.slice ro2 (k + 1) rc2)
    have h10 : (w'.setCell ⟨b, 2, none⟩ (.slice ro2 (k + 1) rc2)).ownsRow n0 46 5 (.slice ro2 (k + 1) rc2) (k + 1) (xs0 ++ [.int .i64 z0, .string zp, .int .i64 z2, .string zk, .string zv]) := by
      have := set_row h7 b 2 (.slice ro2 (k + 1) rc2) (fun e => row_type h7 e h3 (by decide))
      rw [k1, k2] at this
      exact this
    exact HQ.out _ _ ro2 rc2 ⟨hsa.size.trans rfl, hsa.defers.trans rfl, hsa.rest 0 (by rfl), hsa.rest 2 (by rfl), hsa.rest 3 (by rfl), hsa.rest 4 (by rfl), hsa.rest 5 (by rfl), hsa.rest 6 (by rfl), hsa.rest 7 (by rfl), hsa.rest 8 (by rfl), hsa.rest 9 (by rfl), hsa.rest 10 (by rfl), hsa.rest 11 (by rfl), hsa.rest 12 (by rfl), hsa.rest 20 (by rfl), hsa.rest 49 (by rfl), hsa.rest 66 (by rfl), hsa.rest 83 (by rfl), hsa.rest 125 (by rfl)⟩ h9 h10 ((hb.2.mono (own' := fun j => j = b ∨ (Value.slice ro k rc).ownBlock = some j) (fun j _ e => .inr e)).setCell ⟨b, 2, none⟩ _ (fun _ => .inl rfl))
end Go.Proofs.YtoolbbibnegdnaaGreatDoor
/-
  carillonref14's Answered: its seventeenth region (mkrq.py)
-/
namespace Go.Proofs.YtoolbbibnegdnaaGreatDoor
open Go.RowKit

attribute [local go_sem ↓] Go.wp_at_zero Go.wp_at_succ
set_option linter.unusedSimpArgs false
set_option linter.unusedVariables false
set_option maxHeartbeats 8000000 in
set_option maxRecDepth 100000 in
theorem rz_r17 {K : Act → World → Prop} {c : Code} (hc : regOf (Tryz.f12.body.getD .skip) 17 = some c) (a : Act) {v : Vrz} {wq : World} {g n cp b b3 : Nat} {ro : Option Addr} {k rc B : Nat} {x0 c1 c2 : Int} (hF : Frz a v) (h3v : v.v3 = .pointer (some ⟨b3, 0, none⟩)) (h8v : v.v8 = .slice (some ⟨g, 0, none⟩) n cp) (h10v : v.v10 = .pointer (some ⟨b, 0, none⟩)) (hn : 3 ≤ n) (hB : wq.heap[b]? = some (.cells #[.int .i64 c1, .int .i64 c2, .slice ro k rc] 37 (0, 0))) (hZ : wq.heap[b3]? = some (.cells #[.int .i64 0, .int .i64 0, .slice none 0 0] 37 (0, 0))) (hbB : B ≤ b3) (hne : b3 ≠ b) (y0 : wq.cell? ⟨g, 1, none⟩ = some (.int .u64 x0)) (l0 : 0 ≤ x0) (u0 : x0 ≤ 9007199254740991)
    (hQ : ∀ a' w', Frz a' { v with v2 := .int .i64 x0, v4 := .int .i64 0 } → w'.heap[b3]? = some (.cells #[.int .i64 c1, .int .i64 c2, .slice ro k rc] 37 (0, 0)) → Below B wq w' → (∀ j, j ≠ b3 → w'.heap[j]? = wq.heap[j]?) → K a' w') :
    Code.wp Tryz.prog c (Exit.then K fun _ _ _ => False) a wq := by
  have HQ := hide hQ
  clear hQ
  obtain ⟨t', d'⟩ := a
  obtain ⟨v0, v2, v3, v4, v5, v6, v7, v8, v9, v10, v11, v12, v20, v49, v66, v83, v125⟩ := v
  simp only at h3v h8v h10v HQ
  subst h3v h8v h10v
  obtain ⟨hs1, hd1, q0, q2, q3, q4, q5, q6, q7, q8, q9, q10, q11, q12, q20, q49, q66, q83, q125⟩ := hF
  obtain ⟨u, hu⟩ := frame_rz t' hs1
  simp only at hd1 q0 q2 q3 q4 q5 q6 q7 q8 q9 q10 q11 q12 q20 q49 q66 q83 q125
  subst hu hd1
  have e0 : u 0 = v0 := q0
  have e2 : u 2 = v2 := q2
  have e3 : u 3 = .pointer (some ⟨b3, 0, none⟩) := q3
  have e4 : u 4 = v4 := q4
  have e5 : u 5 = v5 := q5
  have e6 : u 6 = v6 := q6
  have e7 : u 7 = v7 := q7
  have e8 : u 8 = .slice (some ⟨g, 0, none⟩) n cp := q8
  have e9 : u 9 = v9 := q9
  have e10 : u 10 = .pointer (some ⟨b, 0, none⟩) := q10
  have e11 : u 11 = v11 := q11
  have e12 : u 12 = v12 := q12
  have e20 : u 20 = v20 := q20
  have e49 : u 49 = v49 := q49
  have e66 : u 66 = v66 := q66
  have e83 : u 83 = v83 := q83
  have e125 : u 125 = v125 := q125
  rw [e0, e2, e3, e4, e5, e6, e7, e8, e9, e10, e11, e12, e20, e49, e66, e83, e125]
  clear q0 e0 q2 e2 q3 e3 q4 e4 q5 e5 q6 e6 q7 e7 q8 e8 q9 e9 q10 e10 q11 e11 q12 e12 q20 e20 q49 e49 q66 e66 q83 e83 q125 e125 hs1
  simp only [Tryz.f12, Option.getD_some, regOf] at hc
  injection hc with hc
  subst hc
  generalize u 1 = u1
  generalize u 13 = u13
  generalize u 14 = u14
  generalize u 15 = u15
  generalize u 16 = u16
  generalize u 17 = u17
  generalize u 18 = u18
  generalize u 19 = u19
  generalize u 21 = u21
  generalize u 22 = u22
  generalize u 23 = u23
  generalize u 24 = u24
  generalize u 25 = u25
  generalize u 26 = u26
  generalize u 27 = u27
  generalize u 28 = u28
  generalize u 29 = u29
  generalize u 30 = u30
  generalize u 31 = u31
  generalize u 32 = u32
  generalize u 33 = u33
  generalize u 34 = u34
  generalize u 35 = u35
  generalize u 36 = u36
  generalize u 37 = u37
  generalize u 38 = u38
  generalize u 39 = u39
  generalize u 40 = u40
  generalize u 41 = u41
  generalize u 42 = u42
  generalize u 43 = u43
  generalize u 44 = u44
  generalize u 45 = u45
  generalize u 46 = u46
  generalize u 47 = u47
  generalize u 48 = u48
  generalize u 50 = u50
  generalize u 51 = u51
  generalize u 52 = u52
  generalize u 53 = u53
  generalize u 54 = u54
  generalize u 55 = u55
  generalize u 56 = u56
  generalize u 57 = u57
  generalize u 58 = u58
  generalize u 59 = u59
  generalize u 60 = u60
  generalize u 61 = u61
  generalize u 62 = u62
  generalize u 63 = u63
  generalize u 64 = u64
  generalize u 65 = u65
  generalize u 67 = u67
  generalize u 68 = u68
  generalize u 69 = u69
  generalize u 70 = u70
  generalize u 71 = u71
  generalize u 72 = u72
  generalize u 73 = u73
  generalize u 74 = u74
  generalize u 75 = u75
  generalize u 76 = u76
  generalize u 77 = u77
  generalize u 78 = u78
  generalize u 79 = u79
  generalize u 80 = u80
  generalize u 81 = u81
  generalize u 82 = u82
  generalize u 84 = u84
  generalize u 85 = u85
  generalize u 86 = u86
  generalize u 87 = u87
  generalize u 88 = u88
  generalize u 89 = u89
  generalize u 90 = u90
  generalize u 91 = u91
  generalize u 92 = u92
  generalize u 93 = u93
  generalize u 94 = u94
  generalize u 95 = u95
  generalize u 96 = u96
  generalize u 97 = u97
  generalize u 98 = u98
  generalize u 99 = u99
  generalize u 100 = u100
  generalize u 101 = u101
  generalize u 102 = u102
  generalize u 103 = u103
  generalize u 104 = u104
  generalize u 105 = u105
  generalize u 106 = u106
  generalize u 107 = u107
  generalize u 108 = u108
  generalize u 109 = u109
  generalize u 110 = u110
  generalize u 111 = u111
  generalize u 112 = u112
  generalize u 113 = u113
  generalize u 114 = u114
  generalize u 115 = u115
  generalize u 116 = u116
  generalize u 117 = u117
  generalize u 118 = u118
  generalize u 119 = u119
  generalize u 120 = u120
  generalize u 121 = u121
  generalize u 122 = u122
  generalize u 123 = u123
  generalize u 124 = u124
  generalize u 126 = u126
  generalize u 127 = u127
  generalize u 128 = u128
  generalize u 129 = u129
  generalize u 130 = u130
  generalize u 131 = u131
  generalize u 132 = u132
  clear u
  have e0 : (0 : Int) < (n : Int) := by omega
  have e4 : 0 < n := by omega
  have s0 := box_cell hB 0 rfl
  have s1 := box_cell hB 1 rfl
  have s2 := box_cell hB 2 rfl
  have d0 := box_cell hZ 0 rfl
  have d1 := box_cell hZ 1 rfl
  have d2 := box_cell hZ 2 rfl
  have f0 := box_free hZ 0
  have f1 := box_free hZ 1
  have f2 := box_free hZ 2
  have X := hide (box_set (box_set (box_set hZ 0 (.int .i64 c1)) 1 (.int .i64 c2)) 2 (.slice ro k rc))
  have Y := hide ((((Below.refl B wq).setCell (p := ⟨b3, 0, none⟩) hbB (.int .i64 c1)).setCell (p := ⟨b3, 1, none⟩) hbB (.int .i64 c2)).setCell (p := ⟨b3, 2, none⟩) hbB (.slice ro k rc))
  have WK : IntKind.i64.wrap x0 = x0 := by rw [IntKind.wrap_i64]; omega
  clear hB hZ
  go_region
  all_goals exact HQ.out _ _ ⟨rfl, rfl, rfl, rfl, rfl, rfl, rfl, rfl, rfl, rfl, rfl, rfl, rfl, rfl, rfl, rfl, rfl, rfl, rfl⟩ X.out Y.out.drew (fun j hj => (Below.heap_setCell _ _ _ _ hj).trans ((Below.heap_setCell _ _ _ _ hj).trans (Below.heap_setCell _ _ _ _ hj)))
end Go.Proofs.YtoolbbibnegdnaaGreatDoor
