/-
  SubsSeeks' regions (mkse.py).
-/
import Derived.Test.YtoafjgioknkeiaaAllW
namespace Go.Proofs.Ytoafjgioknkeiaa.Y
open Go.RowKit

attribute [local go_sem ↓] Go.wp_at_zero Go.wp_at_succ
set_option linter.unusedSimpArgs false
set_option linter.unusedVariables false
set_option maxRecDepth 100000 in
theorem frame_se (t : Array Value) (h : t.size = 160) : ∃ u : Nat → Value, t = List.toArray (u 0 :: u 1 :: u 2 :: u 3 :: u 4 :: u 5 :: u 6 :: u 7 :: u 8 :: u 9 :: u 10 :: u 11 :: u 12 :: u 13 :: u 14 :: u 15 :: u 16 :: u 17 :: u 18 :: u 19 :: u 20 :: u 21 :: u 22 :: u 23 :: u 24 :: u 25 :: u 26 :: u 27 :: u 28 :: u 29 :: u 30 :: u 31 :: u 32 :: u 33 :: u 34 :: u 35 :: u 36 :: u 37 :: u 38 :: u 39 :: u 40 :: u 41 :: u 42 :: u 43 :: u 44 :: u 45 :: u 46 :: u 47 :: u 48 :: u 49 :: u 50 :: u 51 :: u 52 :: u 53 :: u 54 :: u 55 :: u 56 :: u 57 :: u 58 :: u 59 :: u 60 :: u 61 :: u 62 :: u 63 :: u 64 :: u 65 :: u 66 :: u 67 :: u 68 :: u 69 :: u 70 :: u 71 :: u 72 :: u 73 :: u 74 :: u 75 :: u 76 :: u 77 :: u 78 :: u 79 :: u 80 :: u 81 :: u 82 :: u 83 :: u 84 :: u 85 :: u 86 :: u 87 :: u 88 :: u 89 :: u 90 :: u 91 :: u 92 :: u 93 :: u 94 :: u 95 :: u 96 :: u 97 :: u 98 :: u 99 :: u 100 :: u 101 :: u 102 :: u 103 :: u 104 :: u 105 :: u 106 :: u 107 :: u 108 :: u 109 :: u 110 :: u 111 :: u 112 :: u 113 :: u 114 :: u 115 :: u 116 :: u 117 :: u 118 :: u 119 :: u 120 :: u 121 :: u 122 :: u 123 :: u 124 :: u 125 :: u 126 :: u 127 :: u 128 :: u 129 :: u 130 :: u 131 :: u 132 :: u 133 :: u 134 :: u 135 :: u 136 :: u 137 :: u 138 :: u 139 :: u 140 :: u 141 :: u 142 :: u 143 :: u 144 :: u 145 :: u 146 :: u 147 :: u 148 :: u 149 :: u 150 :: u 151 :: u 152 :: u 153 :: u 154 :: u 155 :: u 156 :: u 157 :: u 158 :: u 159 :: []) := by
  refine ⟨fun i => t.getD i undef, ?_⟩
  have e : (List.toArray ((fun i => t.getD i undef) 0 :: (fun i => t.getD i undef) 1 :: (fun i => t.getD i undef) 2 :: (fun i => t.getD i undef) 3 :: (fun i => t.getD i undef) 4 :: (fun i => t.getD i undef) 5 :: (fun i => t.getD i undef) 6 :: (fun i => t.getD i undef) 7 :: (fun i => t.getD i undef) 8 :: (fun i => t.getD i undef) 9 :: (fun i => t.getD i undef) 10 :: (fun i => t.getD i undef) 11 :: (fun i => t.getD i undef) 12 :: (fun i => t.getD i undef) 13 :: (fun i => t.getD i undef) 14 :: (fun i => t.getD i undef) 15 :: (fun i => t.getD i undef) 16 :: (fun i => t.getD i undef) 17 :: (fun i => t.getD i undef) 18 :: (fun i => t.getD i undef) 19 :: (fun i => t.getD i undef) 20 :: (fun i => t.getD i undef) 21 :: (fun i => t.getD i undef) 22 :: (fun i => t.getD i undef) 23 :: (fun i => t.getD i undef) 24 :: (fun i => t.getD i undef) 25 :: (fun i => t.getD i undef) 26 :: (fun i => t.getD i undef) 27 :: (fun i => t.getD i undef) 28 :: (fun i => t.getD i undef) 29 :: (fun i => t.getD i undef) 30 :: (fun i => t.getD i undef) 31 :: (fun i => t.getD i undef) 32 :: (fun i => t.getD i undef) 33 :: (fun i => t.getD i undef) 34 :: (fun i => t.getD i undef) 35 :: (fun i => t.getD i undef) 36 :: (fun i => t.getD i undef) 37 :: (fun i => t.getD i undef) 38 :: (fun i => t.getD i undef) 39 :: (fun i => t.getD i undef) 40 :: (fun i => t.getD i undef) 41 :: (fun i => t.getD i undef) 42 :: (fun i => t.getD i undef) 43 :: (fun i => t.getD i undef) 44 :: (fun i => t.getD i undef) 45 :: (fun i => t.getD i undef) 46 :: (fun i => t.getD i undef) 47 :: (fun i => t.getD i undef) 48 :: (fun i => t.getD i undef) 49 :: (fun i => t.getD i undef) 50 :: (fun i => t.getD i undef) 51 :: (fun i => t.getD i undef) 52 :: (fun i => t.getD i undef) 53 :: (fun i => t.getD i undef) 54 :: (fun i => t.getD i undef) 55 :: (fun i => t.getD i undef) 56 :: (fun i => t.getD i undef) 57 :: (fun i => t.getD i undef) 58 :: (fun i => t.getD i undef) 59 :: (fun i => t.getD i undef) 60 :: (fun i => t.getD i undef) 61 :: (fun i => t.getD i undef) 62 :: (fun i => t.getD i undef) 63 :: (fun i => t.getD i undef) 64 :: (fun i => t.getD i undef) 65 :: (fun i => t.getD i undef) 66 :: (fun i => t.getD i undef) 67 :: (fun i => t.getD i undef) 68 :: (fun i => t.getD i undef) 69 :: (fun i => t.getD i undef) 70 :: (fun i => t.getD i undef) 71 :: (fun i => t.getD i undef) 72 :: (fun i => t.getD i undef) 73 :: (fun i => t.getD i undef) 74 :: (fun i => t.getD i undef) 75 :: (fun i => t.getD i undef) 76 :: (fun i => t.getD i undef) 77 :: (fun i => t.getD i undef) 78 :: (fun i => t.getD i undef) 79 :: (fun i => t.getD i undef) 80 :: (fun i => t.getD i undef) 81 :: (fun i => t.getD i undef) 82 :: (fun i => t.getD i undef) 83 :: (fun i => t.getD i undef) 84 :: (fun i => t.getD i undef) 85 :: (fun i => t.getD i undef) 86 :: (fun i => t.getD i undef) 87 :: (fun i => t.getD i undef) 88 :: (fun i => t.getD i undef) 89 :: (fun i => t.getD i undef) 90 :: (fun i => t.getD i undef) 91 :: (fun i => t.getD i undef) 92 :: (fun i => t.getD i undef) 93 :: (fun i => t.getD i undef) 94 :: (fun i => t.getD i undef) 95 :: (fun i => t.getD i undef) 96 :: (fun i => t.getD i undef) 97 :: (fun i => t.getD i undef) 98 :: (fun i => t.getD i undef) 99 :: (fun i => t.getD i undef) 100 :: (fun i => t.getD i undef) 101 :: (fun i => t.getD i undef) 102 :: (fun i => t.getD i undef) 103 :: (fun i => t.getD i undef) 104 :: (fun i => t.getD i undef) 105 :: (fun i => t.getD i undef) 106 :: (fun i => t.getD i undef) 107 :: (fun i => t.getD i undef) 108 :: (fun i => t.getD i undef) 109 :: (fun i => t.getD i undef) 110 :: (fun i => t.getD i undef) 111 :: (fun i => t.getD i undef) 112 :: (fun i => t.getD i undef) 113 :: (fun i => t.getD i undef) 114 :: (fun i => t.getD i undef) 115 :: (fun i => t.getD i undef) 116 :: (fun i => t.getD i undef) 117 :: (fun i => t.getD i undef) 118 :: (fun i => t.getD i undef) 119 :: (fun i => t.getD i undef) 120 :: (fun i => t.getD i undef) 121 :: (fun i => t.getD i undef) 122 :: (fun i => t.getD i undef) 123 :: (fun i => t.getD i undef) 124 :: (fun i => t.getD i undef) 125 :: (fun i => t.getD i undef) 126 :: (fun i => t.getD i undef) 127 :: (fun i => t.getD i undef) 128 :: (fun i => t.getD i undef) 129 :: (fun i => t.getD i undef) 130 :: (fun i => t.getD i undef) 131 :: (fun i => t.getD i undef) 132 :: (fun i => t.getD i undef) 133 :: (fun i => t.getD i undef) 134 :: (fun i => t.getD i undef) 135 :: (fun i => t.getD i undef) 136 :: (fun i => t.getD i undef) 137 :: (fun i => t.getD i undef) 138 :: (fun i => t.getD i undef) 139 :: (fun i => t.getD i undef) 140 :: (fun i => t.getD i undef) 141 :: (fun i => t.getD i undef) 142 :: (fun i => t.getD i undef) 143 :: (fun i => t.getD i undef) 144 :: (fun i => t.getD i undef) 145 :: (fun i => t.getD i undef) 146 :: (fun i => t.getD i undef) 147 :: (fun i => t.getD i undef) 148 :: (fun i => t.getD i undef) 149 :: (fun i => t.getD i undef) 150 :: (fun i => t.getD i undef) 151 :: (fun i => t.getD i undef) 152 :: (fun i => t.getD i undef) 153 :: (fun i => t.getD i undef) 154 :: (fun i => t.getD i undef) 155 :: (fun i => t.getD i undef) 156 :: (fun i => t.getD i undef) 157 :: (fun i => t.getD i undef) 158 :: (fun i => t.getD i undef) 159 :: []) : Array Value) = ((List.range 160).map fun i => t.getD i undef).toArray := rfl
  refine Eq.trans ?_ e.symm
  apply Array.ext
  · simp [h]
  · intro k h1 h2
    simp [Array.getD, h1]
/-- The slots that matter. -/
structure Vse where
  v0 : Value
  v1 : Value
  v2 : Value
  v3 : Value
  v8 : Value
  v9 : Value
  v10 : Value
  v12 : Value
  v13 : Value
  v14 : Value
  v16 : Value
  v17 : Value
  v18 : Value
  v19 : Value
  v20 : Value
  v58 : Value
structure Fse (a : Act) (v : Vse) : Prop where
  size : a.tmps.size = 160
  defers : a.defers = []
  s0 : a.tmps.getD 0 undef = v.v0
  s1 : a.tmps.getD 1 undef = v.v1
  s2 : a.tmps.getD 2 undef = v.v2
  s3 : a.tmps.getD 3 undef = v.v3
  s8 : a.tmps.getD 8 undef = v.v8
  s9 : a.tmps.getD 9 undef = v.v9
  s10 : a.tmps.getD 10 undef = v.v10
  s12 : a.tmps.getD 12 undef = v.v12
  s13 : a.tmps.getD 13 undef = v.v13
  s14 : a.tmps.getD 14 undef = v.v14
  s16 : a.tmps.getD 16 undef = v.v16
  s17 : a.tmps.getD 17 undef = v.v17
  s18 : a.tmps.getD 18 undef = v.v18
  s19 : a.tmps.getD 19 undef = v.v19
  s20 : a.tmps.getD 20 undef = v.v20
  s58 : a.tmps.getD 58 undef = v.v58
set_option maxHeartbeats 8000000 in
set_option maxRecDepth 100000 in
theorem se_r0 {K : Act → World → Prop} {c : Code} (hc : regOf (Try.f6.body.getD .skip) 0 = some c) (a : Act) {v : Vse} {wq : World}  (hF : Fse a v) (hQ : ∀ a', Fse a' { v with v8 := .bool false } → K a' wq) :
    Code.wp Try.prog c (Exit.then K fun _ _ _ => False) a wq := by
  have HQ := hide hQ
  clear hQ
  obtain ⟨t', d'⟩ := a
  obtain ⟨v0, v1, v2, v3, v8, v9, v10, v12, v13, v14, v16, v17, v18, v19, v20, v58⟩ := v
  obtain ⟨hs1, hd1, q0, q1, q2, q3, q8, q9, q10, q12, q13, q14, q16, q17, q18, q19, q20, q58⟩ := hF
  obtain ⟨u, hu⟩ := frame_se t' hs1
  simp only at hd1 q0 q1 q2 q3 q8 q9 q10 q12 q13 q14 q16 q17 q18 q19 q20 q58
  subst hu hd1
  have e0 : u 0 = v0 := q0
  have e1 : u 1 = v1 := q1
  have e2 : u 2 = v2 := q2
  have e3 : u 3 = v3 := q3
  have e8 : u 8 = v8 := q8
  have e9 : u 9 = v9 := q9
  have e10 : u 10 = v10 := q10
  have e12 : u 12 = v12 := q12
  have e13 : u 13 = v13 := q13
  have e14 : u 14 = v14 := q14
  have e16 : u 16 = v16 := q16
  have e17 : u 17 = v17 := q17
  have e18 : u 18 = v18 := q18
  have e19 : u 19 = v19 := q19
  have e20 : u 20 = v20 := q20
  have e58 : u 58 = v58 := q58
  rw [e0, e1, e2, e3, e8, e9, e10, e12, e13, e14, e16, e17, e18, e19, e20, e58]
  clear q0 e0 q1 e1 q2 e2 q3 e3 q8 e8 q9 e9 q10 e10 q12 e12 q13 e13 q14 e14 q16 e16 q17 e17 q18 e18 q19 e19 q20 e20 q58 e58 hs1
  simp only [Try.f6, Option.getD_some, regOf] at hc
  injection hc with hc
  subst hc
  generalize u 4 = u4
  generalize u 5 = u5
  generalize u 6 = u6
  generalize u 7 = u7
  generalize u 11 = u11
  generalize u 15 = u15
  generalize u 21 = u21
  generalize u 22 = u22
  generalize u 23 = u23
  generalize u 24 = u24
  generalize u 25 = u25
  generalize u 26 = u26
  generalize u 27 = u27
  generalize u 28 = u28
  generalize u 29 = u29
  generalize u 30 = u30
  generalize u 31 = u31
  generalize u 32 = u32
  generalize u 33 = u33
  generalize u 34 = u34
  generalize u 35 = u35
  generalize u 36 = u36
  generalize u 37 = u37
  generalize u 38 = u38
  generalize u 39 = u39
  generalize u 40 = u40
  generalize u 41 = u41
  generalize u 42 = u42
  generalize u 43 = u43
  generalize u 44 = u44
  generalize u 45 = u45
  generalize u 46 = u46
  generalize u 47 = u47
  generalize u 48 = u48
  generalize u 49 = u49
  generalize u 50 = u50
  generalize u 51 = u51
  generalize u 52 = u52
  generalize u 53 = u53
  generalize u 54 = u54
  generalize u 55 = u55
  generalize u 56 = u56
  generalize u 57 = u57
  generalize u 59 = u59
  generalize u 60 = u60
  generalize u 61 = u61
  generalize u 62 = u62
  generalize u 63 = u63
  generalize u 64 = u64
  generalize u 65 = u65
  generalize u 66 = u66
  generalize u 67 = u67
  generalize u 68 = u68
  generalize u 69 = u69
  generalize u 70 = u70
  generalize u 71 = u71
  generalize u 72 = u72
  generalize u 73 = u73
  generalize u 74 = u74
  generalize u 75 = u75
  generalize u 76 = u76
  generalize u 77 = u77
  generalize u 78 = u78
  generalize u 79 = u79
  generalize u 80 = u80
  generalize u 81 = u81
  generalize u 82 = u82
  generalize u 83 = u83
  generalize u 84 = u84
  generalize u 85 = u85
  generalize u 86 = u86
  generalize u 87 = u87
  generalize u 88 = u88
  generalize u 89 = u89
  generalize u 90 = u90
  generalize u 91 = u91
  generalize u 92 = u92
  generalize u 93 = u93
  generalize u 94 = u94
  generalize u 95 = u95
  generalize u 96 = u96
  generalize u 97 = u97
  generalize u 98 = u98
  generalize u 99 = u99
  generalize u 100 = u100
  generalize u 101 = u101
  generalize u 102 = u102
  generalize u 103 = u103
  generalize u 104 = u104
  generalize u 105 = u105
  generalize u 106 = u106
  generalize u 107 = u107
  generalize u 108 = u108
  generalize u 109 = u109
  generalize u 110 = u110
  generalize u 111 = u111
  generalize u 112 = u112
  generalize u 113 = u113
  generalize u 114 = u114
  generalize u 115 = u115
  generalize u 116 = u116
  generalize u 117 = u117
  generalize u 118 = u118
  generalize u 119 = u119
  generalize u 120 = u120
  generalize u 121 = u121
  generalize u 122 = u122
  generalize u 123 = u123
  generalize u 124 = u124
  generalize u 125 = u125
  generalize u 126 = u126
  generalize u 127 = u127
  generalize u 128 = u128
  generalize u 129 = u129
  generalize u 130 = u130
  generalize u 131 = u131
  generalize u 132 = u132
  generalize u 133 = u133
  generalize u 134 = u134
  generalize u 135 = u135
  generalize u 136 = u136
  generalize u 137 = u137
  generalize u 138 = u138
  generalize u 139 = u139
  generalize u 140 = u140
  generalize u 141 = u141
  generalize u 142 = u142
  generalize u 143 = u143
  generalize u 144 = u144
  generalize u 145 = u145
  generalize u 146 = u146
  generalize u 147 = u147
  generalize u 148 = u148
  generalize u 149 = u149
  generalize u 150 = u150
  generalize u 151 = u151
  generalize u 152 = u152
  generalize u 153 = u153
  generalize u 154 = u154
  generalize u 155 = u155
  generalize u 156 = u156
  generalize u 157 = u157
  generalize u 158 = u158
  generalize u 159 = u159
  clear u
  go_wp2
  exact HQ.out _ ⟨rfl, rfl, rfl, rfl, rfl, rfl, rfl, rfl, rfl, rfl, rfl, rfl, rfl, rfl, rfl, rfl, rfl, rfl⟩
set_option maxHeartbeats 8000000 in
set_option maxRecDepth 100000 in
theorem se_r1 {K : Act → World → Prop} {c : Code} (hc : regOf (Try.f6.body.getD .skip) 1 = some c) (a : Act) {v : Vse} {wq : World} {R : World → Prop} (hF : Fse a v) (hE : Calls Try.prog 7 #[] wq fun e w' => e = .returned (.bool true) ∧ R w')
    (hQ : ∀ a' w' , Fse a' { v with v9 := .bool true } → R w' → K a' w') :
    Code.wp Try.prog c (Exit.then K fun _ _ _ => False) a wq := by
  have HQ := hide hQ
  clear hQ
  obtain ⟨t', d'⟩ := a
  obtain ⟨v0, v1, v2, v3, v8, v9, v10, v12, v13, v14, v16, v17, v18, v19, v20, v58⟩ := v
  obtain ⟨hs1, hd1, q0, q1, q2, q3, q8, q9, q10, q12, q13, q14, q16, q17, q18, q19, q20, q58⟩ := hF
  obtain ⟨u, hu⟩ := frame_se t' hs1
  simp only at hd1 q0 q1 q2 q3 q8 q9 q10 q12 q13 q14 q16 q17 q18 q19 q20 q58
  subst hu hd1
  have e0 : u 0 = v0 := q0
  have e1 : u 1 = v1 := q1
  have e2 : u 2 = v2 := q2
  have e3 : u 3 = v3 := q3
  have e8 : u 8 = v8 := q8
  have e9 : u 9 = v9 := q9
  have e10 : u 10 = v10 := q10
  have e12 : u 12 = v12 := q12
  have e13 : u 13 = v13 := q13
  have e14 : u 14 = v14 := q14
  have e16 : u 16 = v16 := q16
  have e17 : u 17 = v17 := q17
  have e18 : u 18 = v18 := q18
  have e19 : u 19 = v19 := q19
  have e20 : u 20 = v20 := q20
  have e58 : u 58 = v58 := q58
  rw [e0, e1, e2, e3, e8, e9, e10, e12, e13, e14, e16, e17, e18, e19, e20, e58]
  clear q0 e0 q1 e1 q2 e2 q3 e3 q8 e8 q9 e9 q10 e10 q12 e12 q13 e13 q14 e14 q16 e16 q17 e17 q18 e18 q19 e19 q20 e20 q58 e58 hs1
  simp only [Try.f6, Option.getD_some, regOf] at hc
  injection hc with hc
  subst hc
  generalize u 4 = u4
  generalize u 5 = u5
  generalize u 6 = u6
  generalize u 7 = u7
  generalize u 11 = u11
  generalize u 15 = u15
  generalize u 21 = u21
  generalize u 22 = u22
  generalize u 23 = u23
  generalize u 24 = u24
  generalize u 25 = u25
  generalize u 26 = u26
  generalize u 27 = u27
  generalize u 28 = u28
  generalize u 29 = u29
  generalize u 30 = u30
  generalize u 31 = u31
  generalize u 32 = u32
  generalize u 33 = u33
  generalize u 34 = u34
  generalize u 35 = u35
  generalize u 36 = u36
  generalize u 37 = u37
  generalize u 38 = u38
  generalize u 39 = u39
  generalize u 40 = u40
  generalize u 41 = u41
  generalize u 42 = u42
  generalize u 43 = u43
  generalize u 44 = u44
  generalize u 45 = u45
  generalize u 46 = u46
  generalize u 47 = u47
  generalize u 48 = u48
  generalize u 49 = u49
  generalize u 50 = u50
  generalize u 51 = u51
  generalize u 52 = u52
  generalize u 53 = u53
  generalize u 54 = u54
  generalize u 55 = u55
  generalize u 56 = u56
  generalize u 57 = u57
  generalize u 59 = u59
  generalize u 60 = u60
  generalize u 61 = u61
  generalize u 62 = u62
  generalize u 63 = u63
  generalize u 64 = u64
  generalize u 65 = u65
  generalize u 66 = u66
  generalize u 67 = u67
  generalize u 68 = u68
  generalize u 69 = u69
  generalize u 70 = u70
  generalize u 71 = u71
  generalize u 72 = u72
  generalize u 73 = u73
  generalize u 74 = u74
  generalize u 75 = u75
  generalize u 76 = u76
  generalize u 77 = u77
  generalize u 78 = u78
  generalize u 79 = u79
  generalize u 80 = u80
  generalize u 81 = u81
  generalize u 82 = u82
  generalize u 83 = u83
  generalize u 84 = u84
  generalize u 85 = u85
  generalize u 86 = u86
  generalize u 87 = u87
  generalize u 88 = u88
  generalize u 89 = u89
  generalize u 90 = u90
  generalize u 91 = u91
  generalize u 92 = u92
  generalize u 93 = u93
  generalize u 94 = u94
  generalize u 95 = u95
  generalize u 96 = u96
  generalize u 97 = u97
  generalize u 98 = u98
  generalize u 99 = u99
  generalize u 100 = u100
  generalize u 101 = u101
  generalize u 102 = u102
  generalize u 103 = u103
  generalize u 104 = u104
  generalize u 105 = u105
  generalize u 106 = u106
  generalize u 107 = u107
  generalize u 108 = u108
  generalize u 109 = u109
  generalize u 110 = u110
  generalize u 111 = u111
  generalize u 112 = u112
  generalize u 113 = u113
  generalize u 114 = u114
  generalize u 115 = u115
  generalize u 116 = u116
  generalize u 117 = u117
  generalize u 118 = u118
  generalize u 119 = u119
  generalize u 120 = u120
  generalize u 121 = u121
  generalize u 122 = u122
  generalize u 123 = u123
  generalize u 124 = u124
  generalize u 125 = u125
  generalize u 126 = u126
  generalize u 127 = u127
  generalize u 128 = u128
  generalize u 129 = u129
  generalize u 130 = u130
  generalize u 131 = u131
  generalize u 132 = u132
  generalize u 133 = u133
  generalize u 134 = u134
  generalize u 135 = u135
  generalize u 136 = u136
  generalize u 137 = u137
  generalize u 138 = u138
  generalize u 139 = u139
  generalize u 140 = u140
  generalize u 141 = u141
  generalize u 142 = u142
  generalize u 143 = u143
  generalize u 144 = u144
  generalize u 145 = u145
  generalize u 146 = u146
  generalize u 147 = u147
  generalize u 148 = u148
  generalize u 149 = u149
  generalize u 150 = u150
  generalize u 151 = u151
  generalize u 152 = u152
  generalize u 153 = u153
  generalize u 154 = u154
  generalize u 155 = u155
  generalize u 156 = u156
  generalize u 157 = u157
  generalize u 158 = u158
  generalize u 159 = u159
  clear u
  have HE := hide hE
  clear hE
  go_wp2_with (go_at_call 7; refine HE.out.mono ?_; rintro e w1 ⟨rfl, r1⟩; have R1 := hide r1; clear r1)
  exact HQ.out _ _ ⟨rfl, rfl, rfl, rfl, rfl, rfl, rfl, rfl, rfl, rfl, rfl, rfl, rfl, rfl, rfl, rfl, rfl, rfl⟩ R1.out
set_option maxHeartbeats 8000000 in
set_option maxRecDepth 100000 in
theorem se_r2 {K : Act → World → Prop} {c : Code} (hc : regOf (Try.f6.body.getD .skip) 2 = some c) (a : Act) {v : Vse} {wq : World} {R : LOC → World → Prop} (hF : Fse a v) (hE : Calls Try.prog 8 #[.string ⟨#[116]⟩] wq fun e w' => ∃ L : LOC, e = .returned (.tuple #[.pointer (some ⟨L.b, 0, none⟩), .int .i64 0]) ∧ R L w')
    (hQ : ∀ a' w' (L : LOC), Fse a' { v with v10 := .pointer (some ⟨L.b, 0, none⟩) } → R L w' → K a' w') :
    Code.wp Try.prog c (Exit.then K fun _ _ _ => False) a wq := by
  have HQ := hide hQ
  clear hQ
  obtain ⟨t', d'⟩ := a
  obtain ⟨v0, v1, v2, v3, v8, v9, v10, v12, v13, v14, v16, v17, v18, v19, v20, v58⟩ := v
  obtain ⟨hs1, hd1, q0, q1, q2, q3, q8, q9, q10, q12, q13, q14, q16, q17, q18, q19, q20, q58⟩ := hF
  obtain ⟨u, hu⟩ := frame_se t' hs1
  simp only at hd1 q0 q1 q2 q3 q8 q9 q10 q12 q13 q14 q16 q17 q18 q19 q20 q58
  subst hu hd1
  have e0 : u 0 = v0 := q0
  have e1 : u 1 = v1 := q1
  have e2 : u 2 = v2 := q2
  have e3 : u 3 = v3 := q3
  have e8 : u 8 = v8 := q8
  have e9 : u 9 = v9 := q9
  have e10 : u 10 = v10 := q10
  have e12 : u 12 = v12 := q12
  have e13 : u 13 = v13 := q13
  have e14 : u 14 = v14 := q14
  have e16 : u 16 = v16 := q16
  have e17 : u 17 = v17 := q17
  have e18 : u 18 = v18 := q18
  have e19 : u 19 = v19 := q19
  have e20 : u 20 = v20 := q20
  have e58 : u 58 = v58 := q58
  rw [e0, e1, e2, e3, e8, e9, e10, e12, e13, e14, e16, e17, e18, e19, e20, e58]
  clear q0 e0 q1 e1 q2 e2 q3 e3 q8 e8 q9 e9 q10 e10 q12 e12 q13 e13 q14 e14 q16 e16 q17 e17 q18 e18 q19 e19 q20 e20 q58 e58 hs1
  simp only [Try.f6, Option.getD_some, regOf] at hc
  injection hc with hc
  subst hc
  generalize u 4 = u4
  generalize u 5 = u5
  generalize u 6 = u6
  generalize u 7 = u7
  generalize u 11 = u11
  generalize u 15 = u15
  generalize u 21 = u21
  generalize u 22 = u22
  generalize u 23 = u23
  generalize u 24 = u24
  generalize u 25 = u25
  generalize u 26 = u26
  generalize u 27 = u27
  generalize u 28 = u28
  generalize u 29 = u29
  generalize u 30 = u30
  generalize u 31 = u31
  generalize u 32 = u32
  generalize u 33 = u33
  generalize u 34 = u34
  generalize u 35 = u35
  generalize u 36 = u36
  generalize u 37 = u37
  generalize u 38 = u38
  generalize u 39 = u39
  generalize u 40 = u40
  generalize u 41 = u41
  generalize u 42 = u42
  generalize u 43 = u43
  generalize u 44 = u44
  generalize u 45 = u45
  generalize u 46 = u46
  generalize u 47 = u47
  generalize u 48 = u48
  generalize u 49 = u49
  generalize u 50 = u50
  generalize u 51 = u51
  generalize u 52 = u52
  generalize u 53 = u53
  generalize u 54 = u54
  generalize u 55 = u55
  generalize u 56 = u56
  generalize u 57 = u57
  generalize u 59 = u59
  generalize u 60 = u60
  generalize u 61 = u61
  generalize u 62 = u62
  generalize u 63 = u63
  generalize u 64 = u64
  generalize u 65 = u65
  generalize u 66 = u66
  generalize u 67 = u67
  generalize u 68 = u68
  generalize u 69 = u69
  generalize u 70 = u70
  generalize u 71 = u71
  generalize u 72 = u72
  generalize u 73 = u73
  generalize u 74 = u74
  generalize u 75 = u75
  generalize u 76 = u76
  generalize u 77 = u77
  generalize u 78 = u78
  generalize u 79 = u79
  generalize u 80 = u80
  generalize u 81 = u81
  generalize u 82 = u82
  generalize u 83 = u83
  generalize u 84 = u84
  generalize u 85 = u85
  generalize u 86 = u86
  generalize u 87 = u87
  generalize u 88 = u88
  generalize u 89 = u89
  generalize u 90 = u90
  generalize u 91 = u91
  generalize u 92 = u92
  generalize u 93 = u93
  generalize u 94 = u94
  generalize u 95 = u95
  generalize u 96 = u96
  generalize u 97 = u97
  generalize u 98 = u98
  generalize u 99 = u99
  generalize u 100 = u100
  generalize u 101 = u101
  generalize u 102 = u102
  generalize u 103 = u103
  generalize u 104 = u104
  generalize u 105 = u105
  generalize u 106 = u106
  generalize u 107 = u107
  generalize u 108 = u108
  generalize u 109 = u109
  generalize u 110 = u110
  generalize u 111 = u111
  generalize u 112 = u112
  generalize u 113 = u113
  generalize u 114 = u114
  generalize u 115 = u115
  generalize u 116 = u116
  generalize u 117 = u117
  generalize u 118 = u118
  generalize u 119 = u119
  generalize u 120 = u120
  generalize u 121 = u121
  generalize u 122 = u122
  generalize u 123 = u123
  generalize u 124 = u124
  generalize u 125 = u125
  generalize u 126 = u126
  generalize u 127 = u127
  generalize u 128 = u128
  generalize u 129 = u129
  generalize u 130 = u130
  generalize u 131 = u131
  generalize u 132 = u132
  generalize u 133 = u133
  generalize u 134 = u134
  generalize u 135 = u135
  generalize u 136 = u136
  generalize u 137 = u137
  generalize u 138 = u138
  generalize u 139 = u139
  generalize u 140 = u140
  generalize u 141 = u141
  generalize u 142 = u142
  generalize u 143 = u143
  generalize u 144 = u144
  generalize u 145 = u145
  generalize u 146 = u146
  generalize u 147 = u147
  generalize u 148 = u148
  generalize u 149 = u149
  generalize u 150 = u150
  generalize u 151 = u151
  generalize u 152 = u152
  generalize u 153 = u153
  generalize u 154 = u154
  generalize u 155 = u155
  generalize u 156 = u156
  generalize u 157 = u157
  generalize u 158 = u158
  generalize u 159 = u159
  clear u
  have HE := hide hE
  clear hE
  go_wp2_with (go_at_call 8; refine HE.out.mono ?_; rintro e w1 ⟨L, rfl, r1⟩; have R1 := hide r1; clear r1)
  exact HQ.out _ _ L ⟨rfl, rfl, rfl, rfl, rfl, rfl, rfl, rfl, rfl, rfl, rfl, rfl, rfl, rfl, rfl, rfl, rfl, rfl⟩ R1.out
set_option maxHeartbeats 8000000 in
set_option maxRecDepth 100000 in
theorem se_r3 {K : Act → World → Prop} {c : Code} (hc : regOf (Try.f6.body.getD .skip) 3 = some c) (a : Act) {v : Vse} {wq : World} {L : LOC} (hF : Fse a v) (h10v : v.v10 = .pointer (some ⟨L.b, 0, none⟩)) (hQ : ∀ a', Fse a' v → a'.tmps.getD 27 undef = .bool false → K a' wq) :
    Code.wp Try.prog c (Exit.then K fun _ _ _ => False) a wq := by
  have HQ := hide hQ
  clear hQ
  obtain ⟨t', d'⟩ := a
  obtain ⟨v0, v1, v2, v3, v8, v9, v10, v12, v13, v14, v16, v17, v18, v19, v20, v58⟩ := v
  simp only at h10v HQ
  subst h10v
  obtain ⟨hs1, hd1, q0, q1, q2, q3, q8, q9, q10, q12, q13, q14, q16, q17, q18, q19, q20, q58⟩ := hF
  obtain ⟨u, hu⟩ := frame_se t' hs1
  simp only at hd1 q0 q1 q2 q3 q8 q9 q10 q12 q13 q14 q16 q17 q18 q19 q20 q58
  subst hu hd1
  have e0 : u 0 = v0 := q0
  have e1 : u 1 = v1 := q1
  have e2 : u 2 = v2 := q2
  have e3 : u 3 = v3 := q3
  have e8 : u 8 = v8 := q8
  have e9 : u 9 = v9 := q9
  have e10 : u 10 = .pointer (some ⟨L.b, 0, none⟩) := q10
  have e12 : u 12 = v12 := q12
  have e13 : u 13 = v13 := q13
  have e14 : u 14 = v14 := q14
  have e16 : u 16 = v16 := q16
  have e17 : u 17 = v17 := q17
  have e18 : u 18 = v18 := q18
  have e19 : u 19 = v19 := q19
  have e20 : u 20 = v20 := q20
  have e58 : u 58 = v58 := q58
  rw [e0, e1, e2, e3, e8, e9, e10, e12, e13, e14, e16, e17, e18, e19, e20, e58]
  clear q0 e0 q1 e1 q2 e2 q3 e3 q8 e8 q9 e9 q10 e10 q12 e12 q13 e13 q14 e14 q16 e16 q17 e17 q18 e18 q19 e19 q20 e20 q58 e58 hs1
  simp only [Try.f6, Option.getD_some, regOf] at hc
  injection hc with hc
  subst hc
  generalize u 4 = u4
  generalize u 5 = u5
  generalize u 6 = u6
  generalize u 7 = u7
  generalize u 11 = u11
  generalize u 15 = u15
  generalize u 21 = u21
  generalize u 22 = u22
  generalize u 23 = u23
  generalize u 24 = u24
  generalize u 25 = u25
  generalize u 26 = u26
  generalize u 27 = u27
  generalize u 28 = u28
  generalize u 29 = u29
  generalize u 30 = u30
  generalize u 31 = u31
  generalize u 32 = u32
  generalize u 33 = u33
  generalize u 34 = u34
  generalize u 35 = u35
  generalize u 36 = u36
  generalize u 37 = u37
  generalize u 38 = u38
  generalize u 39 = u39
  generalize u 40 = u40
  generalize u 41 = u41
  generalize u 42 = u42
  generalize u 43 = u43
  generalize u 44 = u44
  generalize u 45 = u45
  generalize u 46 = u46
  generalize u 47 = u47
  generalize u 48 = u48
  generalize u 49 = u49
  generalize u 50 = u50
  generalize u 51 = u51
  generalize u 52 = u52
  generalize u 53 = u53
  generalize u 54 = u54
  generalize u 55 = u55
  generalize u 56 = u56
  generalize u 57 = u57
  generalize u 59 = u59
  generalize u 60 = u60
  generalize u 61 = u61
  generalize u 62 = u62
  generalize u 63 = u63
  generalize u 64 = u64
  generalize u 65 = u65
  generalize u 66 = u66
  generalize u 67 = u67
  generalize u 68 = u68
  generalize u 69 = u69
  generalize u 70 = u70
  generalize u 71 = u71
  generalize u 72 = u72
  generalize u 73 = u73
  generalize u 74 = u74
  generalize u 75 = u75
  generalize u 76 = u76
  generalize u 77 = u77
  generalize u 78 = u78
  generalize u 79 = u79
  generalize u 80 = u80
  generalize u 81 = u81
  generalize u 82 = u82
  generalize u 83 = u83
  generalize u 84 = u84
  generalize u 85 = u85
  generalize u 86 = u86
  generalize u 87 = u87
  generalize u 88 = u88
  generalize u 89 = u89
  generalize u 90 = u90
  generalize u 91 = u91
  generalize u 92 = u92
  generalize u 93 = u93
  generalize u 94 = u94
  generalize u 95 = u95
  generalize u 96 = u96
  generalize u 97 = u97
  generalize u 98 = u98
  generalize u 99 = u99
  generalize u 100 = u100
  generalize u 101 = u101
  generalize u 102 = u102
  generalize u 103 = u103
  generalize u 104 = u104
  generalize u 105 = u105
  generalize u 106 = u106
  generalize u 107 = u107
  generalize u 108 = u108
  generalize u 109 = u109
  generalize u 110 = u110
  generalize u 111 = u111
  generalize u 112 = u112
  generalize u 113 = u113
  generalize u 114 = u114
  generalize u 115 = u115
  generalize u 116 = u116
  generalize u 117 = u117
  generalize u 118 = u118
  generalize u 119 = u119
  generalize u 120 = u120
  generalize u 121 = u121
  generalize u 122 = u122
  generalize u 123 = u123
  generalize u 124 = u124
  generalize u 125 = u125
  generalize u 126 = u126
  generalize u 127 = u127
  generalize u 128 = u128
  generalize u 129 = u129
  generalize u 130 = u130
  generalize u 131 = u131
  generalize u 132 = u132
  generalize u 133 = u133
  generalize u 134 = u134
  generalize u 135 = u135
  generalize u 136 = u136
  generalize u 137 = u137
  generalize u 138 = u138
  generalize u 139 = u139
  generalize u 140 = u140
  generalize u 141 = u141
  generalize u 142 = u142
  generalize u 143 = u143
  generalize u 144 = u144
  generalize u 145 = u145
  generalize u 146 = u146
  generalize u 147 = u147
  generalize u 148 = u148
  generalize u 149 = u149
  generalize u 150 = u150
  generalize u 151 = u151
  generalize u 152 = u152
  generalize u 153 = u153
  generalize u 154 = u154
  generalize u 155 = u155
  generalize u 156 = u156
  generalize u 157 = u157
  generalize u 158 = u158
  generalize u 159 = u159
  clear u
  go_wp2
  exact HQ.out _ ⟨rfl, rfl, rfl, rfl, rfl, rfl, rfl, rfl, rfl, rfl, rfl, rfl, rfl, rfl, rfl, rfl, rfl, rfl⟩ (by first | rfl | (simp; done))
set_option maxHeartbeats 8000000 in
set_option maxRecDepth 100000 in
theorem se_r5 {K : Act → World → Prop} {c : Code} (hc : regOf (Try.f6.body.getD .skip) 5 = some c) (a : Act) {v : Vse} {wq : World} {m : Int} {n : Nat} (hF : Fse a v) (h0v : v.v0 = .int .i64 m) (hE : Calls Try.prog 9 #[.int .i64 m, .int .i64 201] wq fun e w' => e = .returned (.int .i64 (n : Int)) ∧ w' = wq)
    (hQ : ∀ a' w' , Fse a' { v with v12 := .int .i64 (n : Int) } → w' = wq → K a' w') :
    Code.wp Try.prog c (Exit.then K fun _ _ _ => False) a wq := by
  have HQ := hide hQ
  clear hQ
  obtain ⟨t', d'⟩ := a
  obtain ⟨v0, v1, v2, v3, v8, v9, v10, v12, v13, v14, v16, v17, v18, v19, v20, v58⟩ := v
  simp only at h0v HQ
  subst h0v
  obtain ⟨hs1, hd1, q0, q1, q2, q3, q8, q9, q10, q12, q13, q14, q16, q17, q18, q19, q20, q58⟩ := hF
  obtain ⟨u, hu⟩ := frame_se t' hs1
  simp only at hd1 q0 q1 q2 q3 q8 q9 q10 q12 q13 q14 q16 q17 q18 q19 q20 q58
  subst hu hd1
  have e0 : u 0 = .int .i64 m := q0
  have e1 : u 1 = v1 := q1
  have e2 : u 2 = v2 := q2
  have e3 : u 3 = v3 := q3
  have e8 : u 8 = v8 := q8
  have e9 : u 9 = v9 := q9
  have e10 : u 10 = v10 := q10
  have e12 : u 12 = v12 := q12
  have e13 : u 13 = v13 := q13
  have e14 : u 14 = v14 := q14
  have e16 : u 16 = v16 := q16
  have e17 : u 17 = v17 := q17
  have e18 : u 18 = v18 := q18
  have e19 : u 19 = v19 := q19
  have e20 : u 20 = v20 := q20
  have e58 : u 58 = v58 := q58
  rw [e0, e1, e2, e3, e8, e9, e10, e12, e13, e14, e16, e17, e18, e19, e20, e58]
  clear q0 e0 q1 e1 q2 e2 q3 e3 q8 e8 q9 e9 q10 e10 q12 e12 q13 e13 q14 e14 q16 e16 q17 e17 q18 e18 q19 e19 q20 e20 q58 e58 hs1
  simp only [Try.f6, Option.getD_some, regOf] at hc
  injection hc with hc
  subst hc
  generalize u 4 = u4
  generalize u 5 = u5
  generalize u 6 = u6
  generalize u 7 = u7
  generalize u 11 = u11
  generalize u 15 = u15
  generalize u 21 = u21
  generalize u 22 = u22
  generalize u 23 = u23
  generalize u 24 = u24
  generalize u 25 = u25
  generalize u 26 = u26
  generalize u 27 = u27
  generalize u 28 = u28
  generalize u 29 = u29
  generalize u 30 = u30
  generalize u 31 = u31
  generalize u 32 = u32
  generalize u 33 = u33
  generalize u 34 = u34
  generalize u 35 = u35
  generalize u 36 = u36
  generalize u 37 = u37
  generalize u 38 = u38
  generalize u 39 = u39
  generalize u 40 = u40
  generalize u 41 = u41
  generalize u 42 = u42
  generalize u 43 = u43
  generalize u 44 = u44
  generalize u 45 = u45
  generalize u 46 = u46
  generalize u 47 = u47
  generalize u 48 = u48
  generalize u 49 = u49
  generalize u 50 = u50
  generalize u 51 = u51
  generalize u 52 = u52
  generalize u 53 = u53
  generalize u 54 = u54
  generalize u 55 = u55
  generalize u 56 = u56
  generalize u 57 = u57
  generalize u 59 = u59
  generalize u 60 = u60
  generalize u 61 = u61
  generalize u 62 = u62
  generalize u 63 = u63
  generalize u 64 = u64
  generalize u 65 = u65
  generalize u 66 = u66
  generalize u 67 = u67
  generalize u 68 = u68
  generalize u 69 = u69
  generalize u 70 = u70
  generalize u 71 = u71
  generalize u 72 = u72
  generalize u 73 = u73
  generalize u 74 = u74
  generalize u 75 = u75
  generalize u 76 = u76
  generalize u 77 = u77
  generalize u 78 = u78
  generalize u 79 = u79
  generalize u 80 = u80
  generalize u 81 = u81
  generalize u 82 = u82
  generalize u 83 = u83
  generalize u 84 = u84
  generalize u 85 = u85
  generalize u 86 = u86
  generalize u 87 = u87
  generalize u 88 = u88
  generalize u 89 = u89
  generalize u 90 = u90
  generalize u 91 = u91
  generalize u 92 = u92
  generalize u 93 = u93
  generalize u 94 = u94
  generalize u 95 = u95
  generalize u 96 = u96
  generalize u 97 = u97
  generalize u 98 = u98
  generalize u 99 = u99
  generalize u 100 = u100
  generalize u 101 = u101
  generalize u 102 = u102
  generalize u 103 = u103
  generalize u 104 = u104
  generalize u 105 = u105
  generalize u 106 = u106
  generalize u 107 = u107
  generalize u 108 = u108
  generalize u 109 = u109
  generalize u 110 = u110
  generalize u 111 = u111
  generalize u 112 = u112
  generalize u 113 = u113
  generalize u 114 = u114
  generalize u 115 = u115
  generalize u 116 = u116
  generalize u 117 = u117
  generalize u 118 = u118
  generalize u 119 = u119
  generalize u 120 = u120
  generalize u 121 = u121
  generalize u 122 = u122
  generalize u 123 = u123
  generalize u 124 = u124
  generalize u 125 = u125
  generalize u 126 = u126
  generalize u 127 = u127
  generalize u 128 = u128
  generalize u 129 = u129
  generalize u 130 = u130
  generalize u 131 = u131
  generalize u 132 = u132
  generalize u 133 = u133
  generalize u 134 = u134
  generalize u 135 = u135
  generalize u 136 = u136
  generalize u 137 = u137
  generalize u 138 = u138
  generalize u 139 = u139
  generalize u 140 = u140
  generalize u 141 = u141
  generalize u 142 = u142
  generalize u 143 = u143
  generalize u 144 = u144
  generalize u 145 = u145
  generalize u 146 = u146
  generalize u 147 = u147
  generalize u 148 = u148
  generalize u 149 = u149
  generalize u 150 = u150
  generalize u 151 = u151
  generalize u 152 = u152
  generalize u 153 = u153
  generalize u 154 = u154
  generalize u 155 = u155
  generalize u 156 = u156
  generalize u 157 = u157
  generalize u 158 = u158
  generalize u 159 = u159
  clear u
  have HE := hide hE
  clear hE
  go_wp2_with (go_at_call 9; refine HE.out.mono ?_; rintro e w1 ⟨rfl, r1⟩; have R1 := hide r1; clear r1)
  exact HQ.out _ _ ⟨rfl, rfl, rfl, rfl, rfl, rfl, rfl, rfl, rfl, rfl, rfl, rfl, rfl, rfl, rfl, rfl, rfl, rfl⟩ R1.out
set_option maxHeartbeats 8000000 in
set_option maxRecDepth 100000 in
theorem se_r6 {K : Act → World → Prop} {c : Code} (hc : regOf (Try.f6.body.getD .skip) 6 = some c) (a : Act) {v : Vse} {wq : World}  (hF : Fse a v) (hQ : ∀ a', Fse a' { v with v13 := .int .i64 0 } → K a' wq) :
    Code.wp Try.prog c (Exit.then K fun _ _ _ => False) a wq := by
  have HQ := hide hQ
  clear hQ
  obtain ⟨t', d'⟩ := a
  obtain ⟨v0, v1, v2, v3, v8, v9, v10, v12, v13, v14, v16, v17, v18, v19, v20, v58⟩ := v
  obtain ⟨hs1, hd1, q0, q1, q2, q3, q8, q9, q10, q12, q13, q14, q16, q17, q18, q19, q20, q58⟩ := hF
  obtain ⟨u, hu⟩ := frame_se t' hs1
  simp only at hd1 q0 q1 q2 q3 q8 q9 q10 q12 q13 q14 q16 q17 q18 q19 q20 q58
  subst hu hd1
  have e0 : u 0 = v0 := q0
  have e1 : u 1 = v1 := q1
  have e2 : u 2 = v2 := q2
  have e3 : u 3 = v3 := q3
  have e8 : u 8 = v8 := q8
  have e9 : u 9 = v9 := q9
  have e10 : u 10 = v10 := q10
  have e12 : u 12 = v12 := q12
  have e13 : u 13 = v13 := q13
  have e14 : u 14 = v14 := q14
  have e16 : u 16 = v16 := q16
  have e17 : u 17 = v17 := q17
  have e18 : u 18 = v18 := q18
  have e19 : u 19 = v19 := q19
  have e20 : u 20 = v20 := q20
  have e58 : u 58 = v58 := q58
  rw [e0, e1, e2, e3, e8, e9, e10, e12, e13, e14, e16, e17, e18, e19, e20, e58]
  clear q0 e0 q1 e1 q2 e2 q3 e3 q8 e8 q9 e9 q10 e10 q12 e12 q13 e13 q14 e14 q16 e16 q17 e17 q18 e18 q19 e19 q20 e20 q58 e58 hs1
  simp only [Try.f6, Option.getD_some, regOf] at hc
  injection hc with hc
  subst hc
  generalize u 4 = u4
  generalize u 5 = u5
  generalize u 6 = u6
  generalize u 7 = u7
  generalize u 11 = u11
  generalize u 15 = u15
  generalize u 21 = u21
  generalize u 22 = u22
  generalize u 23 = u23
  generalize u 24 = u24
  generalize u 25 = u25
  generalize u 26 = u26
  generalize u 27 = u27
  generalize u 28 = u28
  generalize u 29 = u29
  generalize u 30 = u30
  generalize u 31 = u31
  generalize u 32 = u32
  generalize u 33 = u33
  generalize u 34 = u34
  generalize u 35 = u35
  generalize u 36 = u36
  generalize u 37 = u37
  generalize u 38 = u38
  generalize u 39 = u39
  generalize u 40 = u40
  generalize u 41 = u41
  generalize u 42 = u42
  generalize u 43 = u43
  generalize u 44 = u44
  generalize u 45 = u45
  generalize u 46 = u46
  generalize u 47 = u47
  generalize u 48 = u48
  generalize u 49 = u49
  generalize u 50 = u50
  generalize u 51 = u51
  generalize u 52 = u52
  generalize u 53 = u53
  generalize u 54 = u54
  generalize u 55 = u55
  generalize u 56 = u56
  generalize u 57 = u57
  generalize u 59 = u59
  generalize u 60 = u60
  generalize u 61 = u61
  generalize u 62 = u62
  generalize u 63 = u63
  generalize u 64 = u64
  generalize u 65 = u65
  generalize u 66 = u66
  generalize u 67 = u67
  generalize u 68 = u68
  generalize u 69 = u69
  generalize u 70 = u70
  generalize u 71 = u71
  generalize u 72 = u72
  generalize u 73 = u73
  generalize u 74 = u74
  generalize u 75 = u75
  generalize u 76 = u76
  generalize u 77 = u77
  generalize u 78 = u78
  generalize u 79 = u79
  generalize u 80 = u80
  generalize u 81 = u81
  generalize u 82 = u82
  generalize u 83 = u83
  generalize u 84 = u84
  generalize u 85 = u85
  generalize u 86 = u86
  generalize u 87 = u87
  generalize u 88 = u88
  generalize u 89 = u89
  generalize u 90 = u90
  generalize u 91 = u91
  generalize u 92 = u92
  generalize u 93 = u93
  generalize u 94 = u94
  generalize u 95 = u95
  generalize u 96 = u96
  generalize u 97 = u97
  generalize u 98 = u98
  generalize u 99 = u99
  generalize u 100 = u100
  generalize u 101 = u101
  generalize u 102 = u102
  generalize u 103 = u103
  generalize u 104 = u104
  generalize u 105 = u105
  generalize u 106 = u106
  generalize u 107 = u107
  generalize u 108 = u108
  generalize u 109 = u109
  generalize u 110 = u110
  generalize u 111 = u111
  generalize u 112 = u112
  generalize u 113 = u113
  generalize u 114 = u114
  generalize u 115 = u115
  generalize u 116 = u116
  generalize u 117 = u117
  generalize u 118 = u118
  generalize u 119 = u119
  generalize u 120 = u120
  generalize u 121 = u121
  generalize u 122 = u122
  generalize u 123 = u123
  generalize u 124 = u124
  generalize u 125 = u125
  generalize u 126 = u126
  generalize u 127 = u127
  generalize u 128 = u128
  generalize u 129 = u129
  generalize u 130 = u130
  generalize u 131 = u131
  generalize u 132 = u132
  generalize u 133 = u133
  generalize u 134 = u134
  generalize u 135 = u135
  generalize u 136 = u136
  generalize u 137 = u137
  generalize u 138 = u138
  generalize u 139 = u139
  generalize u 140 = u140
  generalize u 141 = u141
  generalize u 142 = u142
  generalize u 143 = u143
  generalize u 144 = u144
  generalize u 145 = u145
  generalize u 146 = u146
  generalize u 147 = u147
  generalize u 148 = u148
  generalize u 149 = u149
  generalize u 150 = u150
  generalize u 151 = u151
  generalize u 152 = u152
  generalize u 153 = u153
  generalize u 154 = u154
  generalize u 155 = u155
  generalize u 156 = u156
  generalize u 157 = u157
  generalize u 158 = u158
  generalize u 159 = u159
  clear u
  go_wp2
  exact HQ.out _ ⟨rfl, rfl, rfl, rfl, rfl, rfl, rfl, rfl, rfl, rfl, rfl, rfl, rfl, rfl, rfl, rfl, rfl, rfl⟩
set_option maxHeartbeats 8000000 in
set_option maxRecDepth 100000 in
theorem se_r7 {K : Act → World → Prop} {c : Code} (hc : regOf (Try.f6.body.getD .skip) 7 = some c) (a : Act) {v : Vse} {wq : World} {i n : Nat} (hF : Fse a v) (h13v : v.v13 = .int .i64 (i : Int)) (h12v : v.v12 = .int .i64 (n : Int)) (hQ : ∀ a', Fse a' v → a'.tmps.getD 32 undef = .bool (decide (i < n)) → K a' wq) :
    Code.wp Try.prog c (Exit.then K fun _ _ _ => False) a wq := by
  have HQ := hide hQ
  clear hQ
  obtain ⟨t', d'⟩ := a
  obtain ⟨v0, v1, v2, v3, v8, v9, v10, v12, v13, v14, v16, v17, v18, v19, v20, v58⟩ := v
  simp only at h13v h12v HQ
  subst h13v h12v
  obtain ⟨hs1, hd1, q0, q1, q2, q3, q8, q9, q10, q12, q13, q14, q16, q17, q18, q19, q20, q58⟩ := hF
  obtain ⟨u, hu⟩ := frame_se t' hs1
  simp only at hd1 q0 q1 q2 q3 q8 q9 q10 q12 q13 q14 q16 q17 q18 q19 q20 q58
  subst hu hd1
  have e0 : u 0 = v0 := q0
  have e1 : u 1 = v1 := q1
  have e2 : u 2 = v2 := q2
  have e3 : u 3 = v3 := q3
  have e8 : u 8 = v8 := q8
  have e9 : u 9 = v9 := q9
  have e10 : u 10 = v10 := q10
  have e12 : u 12 = .int .i64 (n : Int) := q12
  have e13 : u 13 = .int .i64 (i : Int) := q13
  have e14 : u 14 = v14 := q14
  have e16 : u 16 = v16 := q16
  have e17 : u 17 = v17 := q17
  have e18 : u 18 = v18 := q18
  have e19 : u 19 = v19 := q19
  have e20 : u 20 = v20 := q20
  have e58 : u 58 = v58 := q58
  rw [e0, e1, e2, e3, e8, e9, e10, e12, e13, e14, e16, e17, e18, e19, e20, e58]
  clear q0 e0 q1 e1 q2 e2 q3 e3 q8 e8 q9 e9 q10 e10 q12 e12 q13 e13 q14 e14 q16 e16 q17 e17 q18 e18 q19 e19 q20 e20 q58 e58 hs1
  simp only [Try.f6, Option.getD_some, regOf] at hc
  injection hc with hc
  subst hc
  generalize u 4 = u4
  generalize u 5 = u5
  generalize u 6 = u6
  generalize u 7 = u7
  generalize u 11 = u11
  generalize u 15 = u15
  generalize u 21 = u21
  generalize u 22 = u22
  generalize u 23 = u23
  generalize u 24 = u24
  generalize u 25 = u25
  generalize u 26 = u26
  generalize u 27 = u27
  generalize u 28 = u28
  generalize u 29 = u29
  generalize u 30 = u30
  generalize u 31 = u31
  generalize u 32 = u32
  generalize u 33 = u33
  generalize u 34 = u34
  generalize u 35 = u35
  generalize u 36 = u36
  generalize u 37 = u37
  generalize u 38 = u38
  generalize u 39 = u39
  generalize u 40 = u40
  generalize u 41 = u41
  generalize u 42 = u42
  generalize u 43 = u43
  generalize u 44 = u44
  generalize u 45 = u45
  generalize u 46 = u46
  generalize u 47 = u47
  generalize u 48 = u48
  generalize u 49 = u49
  generalize u 50 = u50
  generalize u 51 = u51
  generalize u 52 = u52
  generalize u 53 = u53
  generalize u 54 = u54
  generalize u 55 = u55
  generalize u 56 = u56
  generalize u 57 = u57
  generalize u 59 = u59
  generalize u 60 = u60
  generalize u 61 = u61
  generalize u 62 = u62
  generalize u 63 = u63
  generalize u 64 = u64
  generalize u 65 = u65
  generalize u 66 = u66
  generalize u 67 = u67
  generalize u 68 = u68
  generalize u 69 = u69
  generalize u 70 = u70
  generalize u 71 = u71
  generalize u 72 = u72
  generalize u 73 = u73
  generalize u 74 = u74
  generalize u 75 = u75
  generalize u 76 = u76
  generalize u 77 = u77
  generalize u 78 = u78
  generalize u 79 = u79
  generalize u 80 = u80
  generalize u 81 = u81
  generalize u 82 = u82
  generalize u 83 = u83
  generalize u 84 = u84
  generalize u 85 = u85
  generalize u 86 = u86
  generalize u 87 = u87
  generalize u 88 = u88
  generalize u 89 = u89
  generalize u 90 = u90
  generalize u 91 = u91
  generalize u 92 = u92
  generalize u 93 = u93
  generalize u 94 = u94
  generalize u 95 = u95
  generalize u 96 = u96
  generalize u 97 = u97
  generalize u 98 = u98
  generalize u 99 = u99
  generalize u 100 = u100
  generalize u 101 = u101
  generalize u 102 = u102
  generalize u 103 = u103
  generalize u 104 = u104
  generalize u 105 = u105
  generalize u 106 = u106
  generalize u 107 = u107
  generalize u 108 = u108
  generalize u 109 = u109
  generalize u 110 = u110
  generalize u 111 = u111
  generalize u 112 = u112
  generalize u 113 = u113
  generalize u 114 = u114
  generalize u 115 = u115
  generalize u 116 = u116
  generalize u 117 = u117
  generalize u 118 = u118
  generalize u 119 = u119
  generalize u 120 = u120
  generalize u 121 = u121
  generalize u 122 = u122
  generalize u 123 = u123
  generalize u 124 = u124
  generalize u 125 = u125
  generalize u 126 = u126
  generalize u 127 = u127
  generalize u 128 = u128
  generalize u 129 = u129
  generalize u 130 = u130
  generalize u 131 = u131
  generalize u 132 = u132
  generalize u 133 = u133
  generalize u 134 = u134
  generalize u 135 = u135
  generalize u 136 = u136
  generalize u 137 = u137
  generalize u 138 = u138
  generalize u 139 = u139
  generalize u 140 = u140
  generalize u 141 = u141
  generalize u 142 = u142
  generalize u 143 = u143
  generalize u 144 = u144
  generalize u 145 = u145
  generalize u 146 = u146
  generalize u 147 = u147
  generalize u 148 = u148
  generalize u 149 = u149
  generalize u 150 = u150
  generalize u 151 = u151
  generalize u 152 = u152
  generalize u 153 = u153
  generalize u 154 = u154
  generalize u 155 = u155
  generalize u 156 = u156
  generalize u 157 = u157
  generalize u 158 = u158
  generalize u 159 = u159
  clear u
  go_wp2
  exact HQ.out _ ⟨rfl, rfl, rfl, rfl, rfl, rfl, rfl, rfl, rfl, rfl, rfl, rfl, rfl, rfl, rfl, rfl, rfl, rfl⟩ (by first | rfl | (simp; done))
set_option maxHeartbeats 8000000 in
set_option maxRecDepth 100000 in
theorem se_r9 {K : Act → World → Prop} {c : Code} (hc : regOf (Try.f6.body.getD .skip) 9 = some c) (a : Act) {v : Vse} {wq : World} {L : LOC} {i : Int} {R : World → Prop} (hF : Fse a v) (h10v : v.v10 = .pointer (some ⟨L.b, 0, none⟩)) (h13v : v.v13 = .int .i64 i) (hE : Calls Try.prog 10 #[.pointer (some ⟨L.b, 0, none⟩), .string ⟨#[112]⟩, .int .i64 i, .string ⟨#[]⟩, .string ⟨#[]⟩] wq fun e w' => (∃ x y : Int, e = .returned (.tuple #[.int .i64 x, .int .i64 y])) ∧ R w')
    (hQ : ∀ a' w' , Fse a' v → R w' → K a' w') :
    Code.wp Try.prog c (Exit.then K fun _ _ _ => False) a wq := by
  have HQ := hide hQ
  clear hQ
  obtain ⟨t', d'⟩ := a
  obtain ⟨v0, v1, v2, v3, v8, v9, v10, v12, v13, v14, v16, v17, v18, v19, v20, v58⟩ := v
  simp only at h10v h13v HQ
  subst h10v h13v
  obtain ⟨hs1, hd1, q0, q1, q2, q3, q8, q9, q10, q12, q13, q14, q16, q17, q18, q19, q20, q58⟩ := hF
  obtain ⟨u, hu⟩ := frame_se t' hs1
  simp only at hd1 q0 q1 q2 q3 q8 q9 q10 q12 q13 q14 q16 q17 q18 q19 q20 q58
  subst hu hd1
  have e0 : u 0 = v0 := q0
  have e1 : u 1 = v1 := q1
  have e2 : u 2 = v2 := q2
  have e3 : u 3 = v3 := q3
  have e8 : u 8 = v8 := q8
  have e9 : u 9 = v9 := q9
  have e10 : u 10 = .pointer (some ⟨L.b, 0, none⟩) := q10
  have e12 : u 12 = v12 := q12
  have e13 : u 13 = .int .i64 i := q13
  have e14 : u 14 = v14 := q14
  have e16 : u 16 = v16 := q16
  have e17 : u 17 = v17 := q17
  have e18 : u 18 = v18 := q18
  have e19 : u 19 = v19 := q19
  have e20 : u 20 = v20 := q20
  have e58 : u 58 = v58 := q58
  rw [e0, e1, e2, e3, e8, e9, e10, e12, e13, e14, e16, e17, e18, e19, e20, e58]
  clear q0 e0 q1 e1 q2 e2 q3 e3 q8 e8 q9 e9 q10 e10 q12 e12 q13 e13 q14 e14 q16 e16 q17 e17 q18 e18 q19 e19 q20 e20 q58 e58 hs1
  simp only [Try.f6, Option.getD_some, regOf] at hc
  injection hc with hc
  subst hc
  generalize u 4 = u4
  generalize u 5 = u5
  generalize u 6 = u6
  generalize u 7 = u7
  generalize u 11 = u11
  generalize u 15 = u15
  generalize u 21 = u21
  generalize u 22 = u22
  generalize u 23 = u23
  generalize u 24 = u24
  generalize u 25 = u25
  generalize u 26 = u26
  generalize u 27 = u27
  generalize u 28 = u28
  generalize u 29 = u29
  generalize u 30 = u30
  generalize u 31 = u31
  generalize u 32 = u32
  generalize u 33 = u33
  generalize u 34 = u34
  generalize u 35 = u35
  generalize u 36 = u36
  generalize u 37 = u37
  generalize u 38 = u38
  generalize u 39 = u39
  generalize u 40 = u40
  generalize u 41 = u41
  generalize u 42 = u42
  generalize u 43 = u43
  generalize u 44 = u44
  generalize u 45 = u45
  generalize u 46 = u46
  generalize u 47 = u47
  generalize u 48 = u48
  generalize u 49 = u49
  generalize u 50 = u50
  generalize u 51 = u51
  generalize u 52 = u52
  generalize u 53 = u53
  generalize u 54 = u54
  generalize u 55 = u55
  generalize u 56 = u56
  generalize u 57 = u57
  generalize u 59 = u59
  generalize u 60 = u60
  generalize u 61 = u61
  generalize u 62 = u62
  generalize u 63 = u63
  generalize u 64 = u64
  generalize u 65 = u65
  generalize u 66 = u66
  generalize u 67 = u67
  generalize u 68 = u68
  generalize u 69 = u69
  generalize u 70 = u70
  generalize u 71 = u71
  generalize u 72 = u72
  generalize u 73 = u73
  generalize u 74 = u74
  generalize u 75 = u75
  generalize u 76 = u76
  generalize u 77 = u77
  generalize u 78 = u78
  generalize u 79 = u79
  generalize u 80 = u80
  generalize u 81 = u81
  generalize u 82 = u82
  generalize u 83 = u83
  generalize u 84 = u84
  generalize u 85 = u85
  generalize u 86 = u86
  generalize u 87 = u87
  generalize u 88 = u88
  generalize u 89 = u89
  generalize u 90 = u90
  generalize u 91 = u91
  generalize u 92 = u92
  generalize u 93 = u93
  generalize u 94 = u94
  generalize u 95 = u95
  generalize u 96 = u96
  generalize u 97 = u97
  generalize u 98 = u98
  generalize u 99 = u99
  generalize u 100 = u100
  generalize u 101 = u101
  generalize u 102 = u102
  generalize u 103 = u103
  generalize u 104 = u104
  generalize u 105 = u105
  generalize u 106 = u106
  generalize u 107 = u107
  generalize u 108 = u108
  generalize u 109 = u109
  generalize u 110 = u110
  generalize u 111 = u111
  generalize u 112 = u112
  generalize u 113 = u113
  generalize u 114 = u114
  generalize u 115 = u115
  generalize u 116 = u116
  generalize u 117 = u117
  generalize u 118 = u118
  generalize u 119 = u119
  generalize u 120 = u120
  generalize u 121 = u121
  generalize u 122 = u122
  generalize u 123 = u123
  generalize u 124 = u124
  generalize u 125 = u125
  generalize u 126 = u126
  generalize u 127 = u127
  generalize u 128 = u128
  generalize u 129 = u129
  generalize u 130 = u130
  generalize u 131 = u131
  generalize u 132 = u132
  generalize u 133 = u133
  generalize u 134 = u134
  generalize u 135 = u135
  generalize u 136 = u136
  generalize u 137 = u137
  generalize u 138 = u138
  generalize u 139 = u139
  generalize u 140 = u140
  generalize u 141 = u141
  generalize u 142 = u142
  generalize u 143 = u143
  generalize u 144 = u144
  generalize u 145 = u145
  generalize u 146 = u146
  generalize u 147 = u147
  generalize u 148 = u148
  generalize u 149 = u149
  generalize u 150 = u150
  generalize u 151 = u151
  generalize u 152 = u152
  generalize u 153 = u153
  generalize u 154 = u154
  generalize u 155 = u155
  generalize u 156 = u156
  generalize u 157 = u157
  generalize u 158 = u158
  generalize u 159 = u159
  clear u
  have HE := hide hE
  clear hE
  go_wp2_with (go_at_call 10; refine HE.out.mono ?_; rintro e w1 ⟨⟨x, y, rfl⟩, r1⟩; have R1 := hide r1; clear r1)
  exact HQ.out _ _ ⟨rfl, rfl, rfl, rfl, rfl, rfl, rfl, rfl, rfl, rfl, rfl, rfl, rfl, rfl, rfl, rfl, rfl, rfl⟩ R1.out
set_option maxHeartbeats 8000000 in
set_option maxRecDepth 100000 in
theorem se_r8 {K : Act → World → Prop} {c : Code} (hc : regOf (Try.f6.body.getD .skip) 8 = some c) (a : Act) {v : Vse} {wq : World} {i : Nat} (hF : Fse a v) (h13v : v.v13 = .int .i64 (i : Int)) (hi : i ≤ 1000000)
    (hQ : ∀ a', Fse a' { v with v13 := .int .i64 ((i + 1 : Nat) : Int) } → K a' wq) :
    Code.wp Try.prog c (Exit.then K fun _ _ _ => False) a wq := by
  have HQ := hide hQ
  clear hQ
  obtain ⟨t', d'⟩ := a
  obtain ⟨v0, v1, v2, v3, v8, v9, v10, v12, v13, v14, v16, v17, v18, v19, v20, v58⟩ := v
  simp only at h13v HQ
  subst h13v
  obtain ⟨hs1, hd1, q0, q1, q2, q3, q8, q9, q10, q12, q13, q14, q16, q17, q18, q19, q20, q58⟩ := hF
  obtain ⟨u, hu⟩ := frame_se t' hs1
  simp only at hd1 q0 q1 q2 q3 q8 q9 q10 q12 q13 q14 q16 q17 q18 q19 q20 q58
  subst hu hd1
  have e0 : u 0 = v0 := q0
  have e1 : u 1 = v1 := q1
  have e2 : u 2 = v2 := q2
  have e3 : u 3 = v3 := q3
  have e8 : u 8 = v8 := q8
  have e9 : u 9 = v9 := q9
  have e10 : u 10 = v10 := q10
  have e12 : u 12 = v12 := q12
  have e13 : u 13 = .int .i64 (i : Int) := q13
  have e14 : u 14 = v14 := q14
  have e16 : u 16 = v16 := q16
  have e17 : u 17 = v17 := q17
  have e18 : u 18 = v18 := q18
  have e19 : u 19 = v19 := q19
  have e20 : u 20 = v20 := q20
  have e58 : u 58 = v58 := q58
  rw [e0, e1, e2, e3, e8, e9, e10, e12, e13, e14, e16, e17, e18, e19, e20, e58]
  clear q0 e0 q1 e1 q2 e2 q3 e3 q8 e8 q9 e9 q10 e10 q12 e12 q13 e13 q14 e14 q16 e16 q17 e17 q18 e18 q19 e19 q20 e20 q58 e58 hs1
  simp only [Try.f6, Option.getD_some, regOf] at hc
  injection hc with hc
  subst hc
  generalize u 4 = u4
  generalize u 5 = u5
  generalize u 6 = u6
  generalize u 7 = u7
  generalize u 11 = u11
  generalize u 15 = u15
  generalize u 21 = u21
  generalize u 22 = u22
  generalize u 23 = u23
  generalize u 24 = u24
  generalize u 25 = u25
  generalize u 26 = u26
  generalize u 27 = u27
  generalize u 28 = u28
  generalize u 29 = u29
  generalize u 30 = u30
  generalize u 31 = u31
  generalize u 32 = u32
  generalize u 33 = u33
  generalize u 34 = u34
  generalize u 35 = u35
  generalize u 36 = u36
  generalize u 37 = u37
  generalize u 38 = u38
  generalize u 39 = u39
  generalize u 40 = u40
  generalize u 41 = u41
  generalize u 42 = u42
  generalize u 43 = u43
  generalize u 44 = u44
  generalize u 45 = u45
  generalize u 46 = u46
  generalize u 47 = u47
  generalize u 48 = u48
  generalize u 49 = u49
  generalize u 50 = u50
  generalize u 51 = u51
  generalize u 52 = u52
  generalize u 53 = u53
  generalize u 54 = u54
  generalize u 55 = u55
  generalize u 56 = u56
  generalize u 57 = u57
  generalize u 59 = u59
  generalize u 60 = u60
  generalize u 61 = u61
  generalize u 62 = u62
  generalize u 63 = u63
  generalize u 64 = u64
  generalize u 65 = u65
  generalize u 66 = u66
  generalize u 67 = u67
  generalize u 68 = u68
  generalize u 69 = u69
  generalize u 70 = u70
  generalize u 71 = u71
  generalize u 72 = u72
  generalize u 73 = u73
  generalize u 74 = u74
  generalize u 75 = u75
  generalize u 76 = u76
  generalize u 77 = u77
  generalize u 78 = u78
  generalize u 79 = u79
  generalize u 80 = u80
  generalize u 81 = u81
  generalize u 82 = u82
  generalize u 83 = u83
  generalize u 84 = u84
  generalize u 85 = u85
  generalize u 86 = u86
  generalize u 87 = u87
  generalize u 88 = u88
  generalize u 89 = u89
  generalize u 90 = u90
  generalize u 91 = u91
  generalize u 92 = u92
  generalize u 93 = u93
  generalize u 94 = u94
  generalize u 95 = u95
  generalize u 96 = u96
  generalize u 97 = u97
  generalize u 98 = u98
  generalize u 99 = u99
  generalize u 100 = u100
  generalize u 101 = u101
  generalize u 102 = u102
  generalize u 103 = u103
  generalize u 104 = u104
  generalize u 105 = u105
  generalize u 106 = u106
  generalize u 107 = u107
  generalize u 108 = u108
  generalize u 109 = u109
  generalize u 110 = u110
  generalize u 111 = u111
  generalize u 112 = u112
  generalize u 113 = u113
  generalize u 114 = u114
  generalize u 115 = u115
  generalize u 116 = u116
  generalize u 117 = u117
  generalize u 118 = u118
  generalize u 119 = u119
  generalize u 120 = u120
  generalize u 121 = u121
  generalize u 122 = u122
  generalize u 123 = u123
  generalize u 124 = u124
  generalize u 125 = u125
  generalize u 126 = u126
  generalize u 127 = u127
  generalize u 128 = u128
  generalize u 129 = u129
  generalize u 130 = u130
  generalize u 131 = u131
  generalize u 132 = u132
  generalize u 133 = u133
  generalize u 134 = u134
  generalize u 135 = u135
  generalize u 136 = u136
  generalize u 137 = u137
  generalize u 138 = u138
  generalize u 139 = u139
  generalize u 140 = u140
  generalize u 141 = u141
  generalize u 142 = u142
  generalize u 143 = u143
  generalize u 144 = u144
  generalize u 145 = u145
  generalize u 146 = u146
  generalize u 147 = u147
  generalize u 148 = u148
  generalize u 149 = u149
  generalize u 150 = u150
  generalize u 151 = u151
  generalize u 152 = u152
  generalize u 153 = u153
  generalize u 154 = u154
  generalize u 155 = u155
  generalize u 156 = u156
  generalize u 157 = u157
  generalize u 158 = u158
  generalize u 159 = u159
  clear u
  go_wp2
  exact HQ.out _ ⟨rfl, rfl, rfl, rfl, rfl, rfl, rfl, rfl, rfl, rfl, (by first | rfl | (simp; done) | (go_num; done)), rfl, rfl, rfl, rfl, rfl, rfl, rfl⟩
set_option maxHeartbeats 8000000 in
set_option maxRecDepth 100000 in
theorem se_r10 {K : Act → World → Prop} {c : Code} (hc : regOf (Try.f6.body.getD .skip) 10 = some c) (a : Act) {v : Vse} {wq : World} {L : LOC} {yn yt : ByteArray} {yc yx cd : Int} (hF : Fse a v) (h10v : v.v10 = .pointer (some ⟨L.b, 0, none⟩)) (hE : Calls Try.prog 11 #[.string ⟨#[115]⟩, .pointer (some ⟨L.b, 0, none⟩), .int .i64 0] wq fun e w' => e = .returned (.tuple #[.agg #[.string yn, .string yt, .int .i64 yc, .int .i64 yx], .int .i64 cd]) ∧ Below wq.heap.size wq w')
    (hQ : ∀ a' w1, Fse a' { v with v14 := .pointer (some ⟨w1.heap.size, 0, none⟩) } → Below wq.heap.size wq w1 → K a' (w1.alloc (.cells #[.string yn, .string yt, .int .i64 yc, .int .i64 yx] 33))) :
    Code.wp Try.prog c (Exit.then K fun _ _ _ => False) a wq := by
  have HQ := hide hQ
  clear hQ
  obtain ⟨t', d'⟩ := a
  obtain ⟨v0, v1, v2, v3, v8, v9, v10, v12, v13, v14, v16, v17, v18, v19, v20, v58⟩ := v
  simp only at h10v HQ
  subst h10v
  obtain ⟨hs1, hd1, q0, q1, q2, q3, q8, q9, q10, q12, q13, q14, q16, q17, q18, q19, q20, q58⟩ := hF
  obtain ⟨u, hu⟩ := frame_se t' hs1
  simp only at hd1 q0 q1 q2 q3 q8 q9 q10 q12 q13 q14 q16 q17 q18 q19 q20 q58
  subst hu hd1
  have e0 : u 0 = v0 := q0
  have e1 : u 1 = v1 := q1
  have e2 : u 2 = v2 := q2
  have e3 : u 3 = v3 := q3
  have e8 : u 8 = v8 := q8
  have e9 : u 9 = v9 := q9
  have e10 : u 10 = .pointer (some ⟨L.b, 0, none⟩) := q10
  have e12 : u 12 = v12 := q12
  have e13 : u 13 = v13 := q13
  have e14 : u 14 = v14 := q14
  have e16 : u 16 = v16 := q16
  have e17 : u 17 = v17 := q17
  have e18 : u 18 = v18 := q18
  have e19 : u 19 = v19 := q19
  have e20 : u 20 = v20 := q20
  have e58 : u 58 = v58 := q58
  rw [e0, e1, e2, e3, e8, e9, e10, e12, e13, e14, e16, e17, e18, e19, e20, e58]
  clear q0 e0 q1 e1 q2 e2 q3 e3 q8 e8 q9 e9 q10 e10 q12 e12 q13 e13 q14 e14 q16 e16 q17 e17 q18 e18 q19 e19 q20 e20 q58 e58 hs1
  simp only [Try.f6, Option.getD_some, regOf] at hc
  injection hc with hc
  subst hc
  generalize u 4 = u4
  generalize u 5 = u5
  generalize u 6 = u6
  generalize u 7 = u7
  generalize u 11 = u11
  generalize u 15 = u15
  generalize u 21 = u21
  generalize u 22 = u22
  generalize u 23 = u23
  generalize u 24 = u24
  generalize u 25 = u25
  generalize u 26 = u26
  generalize u 27 = u27
  generalize u 28 = u28
  generalize u 29 = u29
  generalize u 30 = u30
  generalize u 31 = u31
  generalize u 32 = u32
  generalize u 33 = u33
  generalize u 34 = u34
  generalize u 35 = u35
  generalize u 36 = u36
  generalize u 37 = u37
  generalize u 38 = u38
  generalize u 39 = u39
  generalize u 40 = u40
  generalize u 41 = u41
  generalize u 42 = u42
  generalize u 43 = u43
  generalize u 44 = u44
  generalize u 45 = u45
  generalize u 46 = u46
  generalize u 47 = u47
  generalize u 48 = u48
  generalize u 49 = u49
  generalize u 50 = u50
  generalize u 51 = u51
  generalize u 52 = u52
  generalize u 53 = u53
  generalize u 54 = u54
  generalize u 55 = u55
  generalize u 56 = u56
  generalize u 57 = u57
  generalize u 59 = u59
  generalize u 60 = u60
  generalize u 61 = u61
  generalize u 62 = u62
  generalize u 63 = u63
  generalize u 64 = u64
  generalize u 65 = u65
  generalize u 66 = u66
  generalize u 67 = u67
  generalize u 68 = u68
  generalize u 69 = u69
  generalize u 70 = u70
  generalize u 71 = u71
  generalize u 72 = u72
  generalize u 73 = u73
  generalize u 74 = u74
  generalize u 75 = u75
  generalize u 76 = u76
  generalize u 77 = u77
  generalize u 78 = u78
  generalize u 79 = u79
  generalize u 80 = u80
  generalize u 81 = u81
  generalize u 82 = u82
  generalize u 83 = u83
  generalize u 84 = u84
  generalize u 85 = u85
  generalize u 86 = u86
  generalize u 87 = u87
  generalize u 88 = u88
  generalize u 89 = u89
  generalize u 90 = u90
  generalize u 91 = u91
  generalize u 92 = u92
  generalize u 93 = u93
  generalize u 94 = u94
  generalize u 95 = u95
  generalize u 96 = u96
  generalize u 97 = u97
  generalize u 98 = u98
  generalize u 99 = u99
  generalize u 100 = u100
  generalize u 101 = u101
  generalize u 102 = u102
  generalize u 103 = u103
  generalize u 104 = u104
  generalize u 105 = u105
  generalize u 106 = u106
  generalize u 107 = u107
  generalize u 108 = u108
  generalize u 109 = u109
  generalize u 110 = u110
  generalize u 111 = u111
  generalize u 112 = u112
  generalize u 113 = u113
  generalize u 114 = u114
  generalize u 115 = u115
  generalize u 116 = u116
  generalize u 117 = u117
  generalize u 118 = u118
  generalize u 119 = u119
  generalize u 120 = u120
  generalize u 121 = u121
  generalize u 122 = u122
  generalize u 123 = u123
  generalize u 124 = u124
  generalize u 125 = u125
  generalize u 126 = u126
  generalize u 127 = u127
  generalize u 128 = u128
  generalize u 129 = u129
  generalize u 130 = u130
  generalize u 131 = u131
  generalize u 132 = u132
  generalize u 133 = u133
  generalize u 134 = u134
  generalize u 135 = u135
  generalize u 136 = u136
  generalize u 137 = u137
  generalize u 138 = u138
  generalize u 139 = u139
  generalize u 140 = u140
  generalize u 141 = u141
  generalize u 142 = u142
  generalize u 143 = u143
  generalize u 144 = u144
  generalize u 145 = u145
  generalize u 146 = u146
  generalize u 147 = u147
  generalize u 148 = u148
  generalize u 149 = u149
  generalize u 150 = u150
  generalize u 151 = u151
  generalize u 152 = u152
  generalize u 153 = u153
  generalize u 154 = u154
  generalize u 155 = u155
  generalize u 156 = u156
  generalize u 157 = u157
  generalize u 158 = u158
  generalize u 159 = u159
  clear u
  have HE := hide hE
  clear hE
  go_wp2_with (go_at_call 11; refine HE.out.mono ?_; rintro e w1 ⟨rfl, b1⟩; have B1 := hide b1; clear b1)
  exact HQ.out _ _ ⟨rfl, rfl, rfl, rfl, rfl, rfl, rfl, rfl, rfl, rfl, rfl, rfl, rfl, rfl, rfl, rfl, rfl, rfl⟩ B1.out
set_option maxHeartbeats 8000000 in
set_option maxRecDepth 100000 in
theorem se_r11 {K : Act → World → Prop} {c : Code} (hc : regOf (Try.f6.body.getD .skip) 11 = some c) (a : Act) {v : Vse} {wq : World}  (hF : Fse a v) (hQ : ∀ a', Fse a' { v with v16 := .int .i64 0 } → K a' wq) :
    Code.wp Try.prog c (Exit.then K fun _ _ _ => False) a wq := by
  have HQ := hide hQ
  clear hQ
  obtain ⟨t', d'⟩ := a
  obtain ⟨v0, v1, v2, v3, v8, v9, v10, v12, v13, v14, v16, v17, v18, v19, v20, v58⟩ := v
  obtain ⟨hs1, hd1, q0, q1, q2, q3, q8, q9, q10, q12, q13, q14, q16, q17, q18, q19, q20, q58⟩ := hF
  obtain ⟨u, hu⟩ := frame_se t' hs1
  simp only at hd1 q0 q1 q2 q3 q8 q9 q10 q12 q13 q14 q16 q17 q18 q19 q20 q58
  subst hu hd1
  have e0 : u 0 = v0 := q0
  have e1 : u 1 = v1 := q1
  have e2 : u 2 = v2 := q2
  have e3 : u 3 = v3 := q3
  have e8 : u 8 = v8 := q8
  have e9 : u 9 = v9 := q9
  have e10 : u 10 = v10 := q10
  have e12 : u 12 = v12 := q12
  have e13 : u 13 = v13 := q13
  have e14 : u 14 = v14 := q14
  have e16 : u 16 = v16 := q16
  have e17 : u 17 = v17 := q17
  have e18 : u 18 = v18 := q18
  have e19 : u 19 = v19 := q19
  have e20 : u 20 = v20 := q20
  have e58 : u 58 = v58 := q58
  rw [e0, e1, e2, e3, e8, e9, e10, e12, e13, e14, e16, e17, e18, e19, e20, e58]
  clear q0 e0 q1 e1 q2 e2 q3 e3 q8 e8 q9 e9 q10 e10 q12 e12 q13 e13 q14 e14 q16 e16 q17 e17 q18 e18 q19 e19 q20 e20 q58 e58 hs1
  simp only [Try.f6, Option.getD_some, regOf] at hc
  injection hc with hc
  subst hc
  generalize u 4 = u4
  generalize u 5 = u5
  generalize u 6 = u6
  generalize u 7 = u7
  generalize u 11 = u11
  generalize u 15 = u15
  generalize u 21 = u21
  generalize u 22 = u22
  generalize u 23 = u23
  generalize u 24 = u24
  generalize u 25 = u25
  generalize u 26 = u26
  generalize u 27 = u27
  generalize u 28 = u28
  generalize u 29 = u29
  generalize u 30 = u30
  generalize u 31 = u31
  generalize u 32 = u32
  generalize u 33 = u33
  generalize u 34 = u34
  generalize u 35 = u35
  generalize u 36 = u36
  generalize u 37 = u37
  generalize u 38 = u38
  generalize u 39 = u39
  generalize u 40 = u40
  generalize u 41 = u41
  generalize u 42 = u42
  generalize u 43 = u43
  generalize u 44 = u44
  generalize u 45 = u45
  generalize u 46 = u46
  generalize u 47 = u47
  generalize u 48 = u48
  generalize u 49 = u49
  generalize u 50 = u50
  generalize u 51 = u51
  generalize u 52 = u52
  generalize u 53 = u53
  generalize u 54 = u54
  generalize u 55 = u55
  generalize u 56 = u56
  generalize u 57 = u57
  generalize u 59 = u59
  generalize u 60 = u60
  generalize u 61 = u61
  generalize u 62 = u62
  generalize u 63 = u63
  generalize u 64 = u64
  generalize u 65 = u65
  generalize u 66 = u66
  generalize u 67 = u67
  generalize u 68 = u68
  generalize u 69 = u69
  generalize u 70 = u70
  generalize u 71 = u71
  generalize u 72 = u72
  generalize u 73 = u73
  generalize u 74 = u74
  generalize u 75 = u75
  generalize u 76 = u76
  generalize u 77 = u77
  generalize u 78 = u78
  generalize u 79 = u79
  generalize u 80 = u80
  generalize u 81 = u81
  generalize u 82 = u82
  generalize u 83 = u83
  generalize u 84 = u84
  generalize u 85 = u85
  generalize u 86 = u86
  generalize u 87 = u87
  generalize u 88 = u88
  generalize u 89 = u89
  generalize u 90 = u90
  generalize u 91 = u91
  generalize u 92 = u92
  generalize u 93 = u93
  generalize u 94 = u94
  generalize u 95 = u95
  generalize u 96 = u96
  generalize u 97 = u97
  generalize u 98 = u98
  generalize u 99 = u99
  generalize u 100 = u100
  generalize u 101 = u101
  generalize u 102 = u102
  generalize u 103 = u103
  generalize u 104 = u104
  generalize u 105 = u105
  generalize u 106 = u106
  generalize u 107 = u107
  generalize u 108 = u108
  generalize u 109 = u109
  generalize u 110 = u110
  generalize u 111 = u111
  generalize u 112 = u112
  generalize u 113 = u113
  generalize u 114 = u114
  generalize u 115 = u115
  generalize u 116 = u116
  generalize u 117 = u117
  generalize u 118 = u118
  generalize u 119 = u119
  generalize u 120 = u120
  generalize u 121 = u121
  generalize u 122 = u122
  generalize u 123 = u123
  generalize u 124 = u124
  generalize u 125 = u125
  generalize u 126 = u126
  generalize u 127 = u127
  generalize u 128 = u128
  generalize u 129 = u129
  generalize u 130 = u130
  generalize u 131 = u131
  generalize u 132 = u132
  generalize u 133 = u133
  generalize u 134 = u134
  generalize u 135 = u135
  generalize u 136 = u136
  generalize u 137 = u137
  generalize u 138 = u138
  generalize u 139 = u139
  generalize u 140 = u140
  generalize u 141 = u141
  generalize u 142 = u142
  generalize u 143 = u143
  generalize u 144 = u144
  generalize u 145 = u145
  generalize u 146 = u146
  generalize u 147 = u147
  generalize u 148 = u148
  generalize u 149 = u149
  generalize u 150 = u150
  generalize u 151 = u151
  generalize u 152 = u152
  generalize u 153 = u153
  generalize u 154 = u154
  generalize u 155 = u155
  generalize u 156 = u156
  generalize u 157 = u157
  generalize u 158 = u158
  generalize u 159 = u159
  clear u
  go_wp2
  exact HQ.out _ ⟨rfl, rfl, rfl, rfl, rfl, rfl, rfl, rfl, rfl, rfl, rfl, rfl, rfl, rfl, rfl, rfl, rfl, rfl⟩
set_option maxHeartbeats 8000000 in
set_option maxRecDepth 100000 in
theorem se_r12 {K : Act → World → Prop} {c : Code} (hc : regOf (Try.f6.body.getD .skip) 12 = some c) (a : Act) {v : Vse} {wq : World} {ao : Option Addr} {nq cap iq : Nat} (hF : Fse a v) (h1v : v.v1 = .slice ao nq cap) (h16v : v.v16 = .int .i64 (iq : Int)) (hQ : ∀ a', Fse a' v → a'.tmps.getD 50 undef = .bool (decide (iq < nq) && decide (iq < 30)) → K a' wq) :
    Code.wp Try.prog c (Exit.then K fun _ _ _ => False) a wq := by
  have HQ := hide hQ
  clear hQ
  obtain ⟨t', d'⟩ := a
  obtain ⟨v0, v1, v2, v3, v8, v9, v10, v12, v13, v14, v16, v17, v18, v19, v20, v58⟩ := v
  simp only at h1v h16v HQ
  subst h1v h16v
  obtain ⟨hs1, hd1, q0, q1, q2, q3, q8, q9, q10, q12, q13, q14, q16, q17, q18, q19, q20, q58⟩ := hF
  obtain ⟨u, hu⟩ := frame_se t' hs1
  simp only at hd1 q0 q1 q2 q3 q8 q9 q10 q12 q13 q14 q16 q17 q18 q19 q20 q58
  subst hu hd1
  have e0 : u 0 = v0 := q0
  have e1 : u 1 = .slice ao nq cap := q1
  have e2 : u 2 = v2 := q2
  have e3 : u 3 = v3 := q3
  have e8 : u 8 = v8 := q8
  have e9 : u 9 = v9 := q9
  have e10 : u 10 = v10 := q10
  have e12 : u 12 = v12 := q12
  have e13 : u 13 = v13 := q13
  have e14 : u 14 = v14 := q14
  have e16 : u 16 = .int .i64 (iq : Int) := q16
  have e17 : u 17 = v17 := q17
  have e18 : u 18 = v18 := q18
  have e19 : u 19 = v19 := q19
  have e20 : u 20 = v20 := q20
  have e58 : u 58 = v58 := q58
  rw [e0, e1, e2, e3, e8, e9, e10, e12, e13, e14, e16, e17, e18, e19, e20, e58]
  clear q0 e0 q1 e1 q2 e2 q3 e3 q8 e8 q9 e9 q10 e10 q12 e12 q13 e13 q14 e14 q16 e16 q17 e17 q18 e18 q19 e19 q20 e20 q58 e58 hs1
  simp only [Try.f6, Option.getD_some, regOf] at hc
  injection hc with hc
  subst hc
  generalize u 4 = u4
  generalize u 5 = u5
  generalize u 6 = u6
  generalize u 7 = u7
  generalize u 11 = u11
  generalize u 15 = u15
  generalize u 21 = u21
  generalize u 22 = u22
  generalize u 23 = u23
  generalize u 24 = u24
  generalize u 25 = u25
  generalize u 26 = u26
  generalize u 27 = u27
  generalize u 28 = u28
  generalize u 29 = u29
  generalize u 30 = u30
  generalize u 31 = u31
  generalize u 32 = u32
  generalize u 33 = u33
  generalize u 34 = u34
  generalize u 35 = u35
  generalize u 36 = u36
  generalize u 37 = u37
  generalize u 38 = u38
  generalize u 39 = u39
  generalize u 40 = u40
  generalize u 41 = u41
  generalize u 42 = u42
  generalize u 43 = u43
  generalize u 44 = u44
  generalize u 45 = u45
  generalize u 46 = u46
  generalize u 47 = u47
  generalize u 48 = u48
  generalize u 49 = u49
  generalize u 50 = u50
  generalize u 51 = u51
  generalize u 52 = u52
  generalize u 53 = u53
  generalize u 54 = u54
  generalize u 55 = u55
  generalize u 56 = u56
  generalize u 57 = u57
  generalize u 59 = u59
  generalize u 60 = u60
  generalize u 61 = u61
  generalize u 62 = u62
  generalize u 63 = u63
  generalize u 64 = u64
  generalize u 65 = u65
  generalize u 66 = u66
  generalize u 67 = u67
  generalize u 68 = u68
  generalize u 69 = u69
  generalize u 70 = u70
  generalize u 71 = u71
  generalize u 72 = u72
  generalize u 73 = u73
  generalize u 74 = u74
  generalize u 75 = u75
  generalize u 76 = u76
  generalize u 77 = u77
  generalize u 78 = u78
  generalize u 79 = u79
  generalize u 80 = u80
  generalize u 81 = u81
  generalize u 82 = u82
  generalize u 83 = u83
  generalize u 84 = u84
  generalize u 85 = u85
  generalize u 86 = u86
  generalize u 87 = u87
  generalize u 88 = u88
  generalize u 89 = u89
  generalize u 90 = u90
  generalize u 91 = u91
  generalize u 92 = u92
  generalize u 93 = u93
  generalize u 94 = u94
  generalize u 95 = u95
  generalize u 96 = u96
  generalize u 97 = u97
  generalize u 98 = u98
  generalize u 99 = u99
  generalize u 100 = u100
  generalize u 101 = u101
  generalize u 102 = u102
  generalize u 103 = u103
  generalize u 104 = u104
  generalize u 105 = u105
  generalize u 106 = u106
  generalize u 107 = u107
  generalize u 108 = u108
  generalize u 109 = u109
  generalize u 110 = u110
  generalize u 111 = u111
  generalize u 112 = u112
  generalize u 113 = u113
  generalize u 114 = u114
  generalize u 115 = u115
  generalize u 116 = u116
  generalize u 117 = u117
  generalize u 118 = u118
  generalize u 119 = u119
  generalize u 120 = u120
  generalize u 121 = u121
  generalize u 122 = u122
  generalize u 123 = u123
  generalize u 124 = u124
  generalize u 125 = u125
  generalize u 126 = u126
  generalize u 127 = u127
  generalize u 128 = u128
  generalize u 129 = u129
  generalize u 130 = u130
  generalize u 131 = u131
  generalize u 132 = u132
  generalize u 133 = u133
  generalize u 134 = u134
  generalize u 135 = u135
  generalize u 136 = u136
  generalize u 137 = u137
  generalize u 138 = u138
  generalize u 139 = u139
  generalize u 140 = u140
  generalize u 141 = u141
  generalize u 142 = u142
  generalize u 143 = u143
  generalize u 144 = u144
  generalize u 145 = u145
  generalize u 146 = u146
  generalize u 147 = u147
  generalize u 148 = u148
  generalize u 149 = u149
  generalize u 150 = u150
  generalize u 151 = u151
  generalize u 152 = u152
  generalize u 153 = u153
  generalize u 154 = u154
  generalize u 155 = u155
  generalize u 156 = u156
  generalize u 157 = u157
  generalize u 158 = u158
  generalize u 159 = u159
  clear u
  by_cases h1 : iq < nq
  · have g1 : (iq : Int) < (nq : Int) := by omega
    by_cases h2 : iq < 30
    · rw [decide_eq_true h1, decide_eq_true h2] at HQ
      have g2 : (iq : Int) < 30 := by omega
      go_wp2
      exact HQ.out _ ⟨rfl, rfl, rfl, rfl, rfl, rfl, rfl, rfl, rfl, rfl, rfl, rfl, rfl, rfl, rfl, rfl, rfl, rfl⟩ (by first | rfl | (simp; done) | (simp; omega))
    · rw [decide_eq_true h1, decide_eq_false h2] at HQ
      have g2 : ¬ (iq : Int) < 30 := by omega
      go_wp2
      exact HQ.out _ ⟨rfl, rfl, rfl, rfl, rfl, rfl, rfl, rfl, rfl, rfl, rfl, rfl, rfl, rfl, rfl, rfl, rfl, rfl⟩ (by first | rfl | (simp; done) | (simp; omega))
  · rw [decide_eq_false h1] at HQ
    have g1 : ¬ (iq : Int) < (nq : Int) := by omega
    go_wp2
    exact HQ.out _ ⟨rfl, rfl, rfl, rfl, rfl, rfl, rfl, rfl, rfl, rfl, rfl, rfl, rfl, rfl, rfl, rfl, rfl, rfl⟩ (by first | rfl | (simp; done) | (simp; omega))
set_option maxHeartbeats 8000000 in
set_option maxRecDepth 100000 in
theorem se_r14 {K : Act → World → Prop} {c : Code} (hc : regOf (Try.f6.body.getD .skip) 14 = some c) (a : Act) {v : Vse} {wq : World} {m pk : Int} {bq oq nq cq iq : Nat} (hF : Fse a v) (h1v : v.v1 = .slice (some ⟨bq, oq, none⟩) nq cq) (h16v : v.v16 = .int .i64 (iq : Int)) (hi : iq < nq) (hcl : wq.cell? ⟨bq, oq + iq * 2, none⟩ = some (.int .i64 m)) (hE : Calls Try.prog 9 #[.int .i64 m, .int .i64 3] wq fun e w' => e = .returned (.int .i64 pk) ∧ w' = wq)
    (hQ : ∀ a' w', Fse a' { v with v58 := .int .i64 pk } → w' = wq → K a' w') :
    Code.wp Try.prog c (Exit.then K fun _ _ _ => False) a wq := by
  have HQ := hide hQ
  clear hQ
  obtain ⟨t', d'⟩ := a
  obtain ⟨v0, v1, v2, v3, v8, v9, v10, v12, v13, v14, v16, v17, v18, v19, v20, v58⟩ := v
  simp only at h1v h16v HQ
  subst h1v h16v
  obtain ⟨hs1, hd1, q0, q1, q2, q3, q8, q9, q10, q12, q13, q14, q16, q17, q18, q19, q20, q58⟩ := hF
  obtain ⟨u, hu⟩ := frame_se t' hs1
  simp only at hd1 q0 q1 q2 q3 q8 q9 q10 q12 q13 q14 q16 q17 q18 q19 q20 q58
  subst hu hd1
  have e0 : u 0 = v0 := q0
  have e1 : u 1 = .slice (some ⟨bq, oq, none⟩) nq cq := q1
  have e2 : u 2 = v2 := q2
  have e3 : u 3 = v3 := q3
  have e8 : u 8 = v8 := q8
  have e9 : u 9 = v9 := q9
  have e10 : u 10 = v10 := q10
  have e12 : u 12 = v12 := q12
  have e13 : u 13 = v13 := q13
  have e14 : u 14 = v14 := q14
  have e16 : u 16 = .int .i64 (iq : Int) := q16
  have e17 : u 17 = v17 := q17
  have e18 : u 18 = v18 := q18
  have e19 : u 19 = v19 := q19
  have e20 : u 20 = v20 := q20
  have e58 : u 58 = v58 := q58
  rw [e0, e1, e2, e3, e8, e9, e10, e12, e13, e14, e16, e17, e18, e19, e20, e58]
  clear q0 e0 q1 e1 q2 e2 q3 e3 q8 e8 q9 e9 q10 e10 q12 e12 q13 e13 q14 e14 q16 e16 q17 e17 q18 e18 q19 e19 q20 e20 q58 e58 hs1
  simp only [Try.f6, Option.getD_some, regOf] at hc
  injection hc with hc
  subst hc
  generalize u 4 = u4
  generalize u 5 = u5
  generalize u 6 = u6
  generalize u 7 = u7
  generalize u 11 = u11
  generalize u 15 = u15
  generalize u 21 = u21
  generalize u 22 = u22
  generalize u 23 = u23
  generalize u 24 = u24
  generalize u 25 = u25
  generalize u 26 = u26
  generalize u 27 = u27
  generalize u 28 = u28
  generalize u 29 = u29
  generalize u 30 = u30
  generalize u 31 = u31
  generalize u 32 = u32
  generalize u 33 = u33
  generalize u 34 = u34
  generalize u 35 = u35
  generalize u 36 = u36
  generalize u 37 = u37
  generalize u 38 = u38
  generalize u 39 = u39
  generalize u 40 = u40
  generalize u 41 = u41
  generalize u 42 = u42
  generalize u 43 = u43
  generalize u 44 = u44
  generalize u 45 = u45
  generalize u 46 = u46
  generalize u 47 = u47
  generalize u 48 = u48
  generalize u 49 = u49
  generalize u 50 = u50
  generalize u 51 = u51
  generalize u 52 = u52
  generalize u 53 = u53
  generalize u 54 = u54
  generalize u 55 = u55
  generalize u 56 = u56
  generalize u 57 = u57
  generalize u 59 = u59
  generalize u 60 = u60
  generalize u 61 = u61
  generalize u 62 = u62
  generalize u 63 = u63
  generalize u 64 = u64
  generalize u 65 = u65
  generalize u 66 = u66
  generalize u 67 = u67
  generalize u 68 = u68
  generalize u 69 = u69
  generalize u 70 = u70
  generalize u 71 = u71
  generalize u 72 = u72
  generalize u 73 = u73
  generalize u 74 = u74
  generalize u 75 = u75
  generalize u 76 = u76
  generalize u 77 = u77
  generalize u 78 = u78
  generalize u 79 = u79
  generalize u 80 = u80
  generalize u 81 = u81
  generalize u 82 = u82
  generalize u 83 = u83
  generalize u 84 = u84
  generalize u 85 = u85
  generalize u 86 = u86
  generalize u 87 = u87
  generalize u 88 = u88
  generalize u 89 = u89
  generalize u 90 = u90
  generalize u 91 = u91
  generalize u 92 = u92
  generalize u 93 = u93
  generalize u 94 = u94
  generalize u 95 = u95
  generalize u 96 = u96
  generalize u 97 = u97
  generalize u 98 = u98
  generalize u 99 = u99
  generalize u 100 = u100
  generalize u 101 = u101
  generalize u 102 = u102
  generalize u 103 = u103
  generalize u 104 = u104
  generalize u 105 = u105
  generalize u 106 = u106
  generalize u 107 = u107
  generalize u 108 = u108
  generalize u 109 = u109
  generalize u 110 = u110
  generalize u 111 = u111
  generalize u 112 = u112
  generalize u 113 = u113
  generalize u 114 = u114
  generalize u 115 = u115
  generalize u 116 = u116
  generalize u 117 = u117
  generalize u 118 = u118
  generalize u 119 = u119
  generalize u 120 = u120
  generalize u 121 = u121
  generalize u 122 = u122
  generalize u 123 = u123
  generalize u 124 = u124
  generalize u 125 = u125
  generalize u 126 = u126
  generalize u 127 = u127
  generalize u 128 = u128
  generalize u 129 = u129
  generalize u 130 = u130
  generalize u 131 = u131
  generalize u 132 = u132
  generalize u 133 = u133
  generalize u 134 = u134
  generalize u 135 = u135
  generalize u 136 = u136
  generalize u 137 = u137
  generalize u 138 = u138
  generalize u 139 = u139
  generalize u 140 = u140
  generalize u 141 = u141
  generalize u 142 = u142
  generalize u 143 = u143
  generalize u 144 = u144
  generalize u 145 = u145
  generalize u 146 = u146
  generalize u 147 = u147
  generalize u 148 = u148
  generalize u 149 = u149
  generalize u 150 = u150
  generalize u 151 = u151
  generalize u 152 = u152
  generalize u 153 = u153
  generalize u 154 = u154
  generalize u 155 = u155
  generalize u 156 = u156
  generalize u 157 = u157
  generalize u 158 = u158
  generalize u 159 = u159
  clear u
  have HE := hide hE
  have e1 : (iq : Int) < (nq : Int) := by omega
  clear hE
  go_wp2_with (go_at_call 9; refine HE.out.mono ?_; rintro e w1 ⟨rfl, r1⟩; have R1 := hide r1; clear r1)
  exact HQ.out _ _ ⟨rfl, rfl, rfl, rfl, rfl, rfl, rfl, rfl, rfl, rfl, rfl, rfl, rfl, rfl, rfl, rfl, rfl, rfl⟩ R1.out
set_option maxHeartbeats 8000000 in
set_option maxRecDepth 100000 in
theorem se_r16 {K : Act → World → Prop} {c : Code} (hc : regOf (Try.f6.body.getD .skip) 16 = some c) (a : Act) {v : Vse} {wq : World} {pk : Int} (hF : Fse a v) (h58v : v.v58 = .int .i64 pk) (hQ : ∀ a', Fse a' v → a'.tmps.getD 61 undef = .bool (pk == 0) → K a' wq) :
    Code.wp Try.prog c (Exit.then K fun _ _ _ => False) a wq := by
  have HQ := hide hQ
  clear hQ
  obtain ⟨t', d'⟩ := a
  obtain ⟨v0, v1, v2, v3, v8, v9, v10, v12, v13, v14, v16, v17, v18, v19, v20, v58⟩ := v
  simp only at h58v HQ
  subst h58v
  obtain ⟨hs1, hd1, q0, q1, q2, q3, q8, q9, q10, q12, q13, q14, q16, q17, q18, q19, q20, q58⟩ := hF
  obtain ⟨u, hu⟩ := frame_se t' hs1
  simp only at hd1 q0 q1 q2 q3 q8 q9 q10 q12 q13 q14 q16 q17 q18 q19 q20 q58
  subst hu hd1
  have e0 : u 0 = v0 := q0
  have e1 : u 1 = v1 := q1
  have e2 : u 2 = v2 := q2
  have e3 : u 3 = v3 := q3
  have e8 : u 8 = v8 := q8
  have e9 : u 9 = v9 := q9
  have e10 : u 10 = v10 := q10
  have e12 : u 12 = v12 := q12
  have e13 : u 13 = v13 := q13
  have e14 : u 14 = v14 := q14
  have e16 : u 16 = v16 := q16
  have e17 : u 17 = v17 := q17
  have e18 : u 18 = v18 := q18
  have e19 : u 19 = v19 := q19
  have e20 : u 20 = v20 := q20
  have e58 : u 58 = .int .i64 pk := q58
  rw [e0, e1, e2, e3, e8, e9, e10, e12, e13, e14, e16, e17, e18, e19, e20, e58]
  clear q0 e0 q1 e1 q2 e2 q3 e3 q8 e8 q9 e9 q10 e10 q12 e12 q13 e13 q14 e14 q16 e16 q17 e17 q18 e18 q19 e19 q20 e20 q58 e58 hs1
  simp only [Try.f6, Option.getD_some, regOf] at hc
  injection hc with hc
  subst hc
  generalize u 4 = u4
  generalize u 5 = u5
  generalize u 6 = u6
  generalize u 7 = u7
  generalize u 11 = u11
  generalize u 15 = u15
  generalize u 21 = u21
  generalize u 22 = u22
  generalize u 23 = u23
  generalize u 24 = u24
  generalize u 25 = u25
  generalize u 26 = u26
  generalize u 27 = u27
  generalize u 28 = u28
  generalize u 29 = u29
  generalize u 30 = u30
  generalize u 31 = u31
  generalize u 32 = u32
  generalize u 33 = u33
  generalize u 34 = u34
  generalize u 35 = u35
  generalize u 36 = u36
  generalize u 37 = u37
  generalize u 38 = u38
  generalize u 39 = u39
  generalize u 40 = u40
  generalize u 41 = u41
  generalize u 42 = u42
  generalize u 43 = u43
  generalize u 44 = u44
  generalize u 45 = u45
  generalize u 46 = u46
  generalize u 47 = u47
  generalize u 48 = u48
  generalize u 49 = u49
  generalize u 50 = u50
  generalize u 51 = u51
  generalize u 52 = u52
  generalize u 53 = u53
  generalize u 54 = u54
  generalize u 55 = u55
  generalize u 56 = u56
  generalize u 57 = u57
  generalize u 59 = u59
  generalize u 60 = u60
  generalize u 61 = u61
  generalize u 62 = u62
  generalize u 63 = u63
  generalize u 64 = u64
  generalize u 65 = u65
  generalize u 66 = u66
  generalize u 67 = u67
  generalize u 68 = u68
  generalize u 69 = u69
  generalize u 70 = u70
  generalize u 71 = u71
  generalize u 72 = u72
  generalize u 73 = u73
  generalize u 74 = u74
  generalize u 75 = u75
  generalize u 76 = u76
  generalize u 77 = u77
  generalize u 78 = u78
  generalize u 79 = u79
  generalize u 80 = u80
  generalize u 81 = u81
  generalize u 82 = u82
  generalize u 83 = u83
  generalize u 84 = u84
  generalize u 85 = u85
  generalize u 86 = u86
  generalize u 87 = u87
  generalize u 88 = u88
  generalize u 89 = u89
  generalize u 90 = u90
  generalize u 91 = u91
  generalize u 92 = u92
  generalize u 93 = u93
  generalize u 94 = u94
  generalize u 95 = u95
  generalize u 96 = u96
  generalize u 97 = u97
  generalize u 98 = u98
  generalize u 99 = u99
  generalize u 100 = u100
  generalize u 101 = u101
  generalize u 102 = u102
  generalize u 103 = u103
  generalize u 104 = u104
  generalize u 105 = u105
  generalize u 106 = u106
  generalize u 107 = u107
  generalize u 108 = u108
  generalize u 109 = u109
  generalize u 110 = u110
  generalize u 111 = u111
  generalize u 112 = u112
  generalize u 113 = u113
  generalize u 114 = u114
  generalize u 115 = u115
  generalize u 116 = u116
  generalize u 117 = u117
  generalize u 118 = u118
  generalize u 119 = u119
  generalize u 120 = u120
  generalize u 121 = u121
  generalize u 122 = u122
  generalize u 123 = u123
  generalize u 124 = u124
  generalize u 125 = u125
  generalize u 126 = u126
  generalize u 127 = u127
  generalize u 128 = u128
  generalize u 129 = u129
  generalize u 130 = u130
  generalize u 131 = u131
  generalize u 132 = u132
  generalize u 133 = u133
  generalize u 134 = u134
  generalize u 135 = u135
  generalize u 136 = u136
  generalize u 137 = u137
  generalize u 138 = u138
  generalize u 139 = u139
  generalize u 140 = u140
  generalize u 141 = u141
  generalize u 142 = u142
  generalize u 143 = u143
  generalize u 144 = u144
  generalize u 145 = u145
  generalize u 146 = u146
  generalize u 147 = u147
  generalize u 148 = u148
  generalize u 149 = u149
  generalize u 150 = u150
  generalize u 151 = u151
  generalize u 152 = u152
  generalize u 153 = u153
  generalize u 154 = u154
  generalize u 155 = u155
  generalize u 156 = u156
  generalize u 157 = u157
  generalize u 158 = u158
  generalize u 159 = u159
  clear u
  go_wp2
  exact HQ.out _ ⟨rfl, rfl, rfl, rfl, rfl, rfl, rfl, rfl, rfl, rfl, rfl, rfl, rfl, rfl, rfl, rfl, rfl, rfl⟩ (by first | rfl | (simp; done))
set_option maxHeartbeats 8000000 in
set_option maxRecDepth 100000 in
theorem se_r18 {K : Act → World → Prop} {c : Code} (hc : regOf (Try.f6.body.getD .skip) 18 = some c) (a : Act) {v : Vse} {wq : World} {pk : Int} (hF : Fse a v) (h58v : v.v58 = .int .i64 pk) (hQ : ∀ a', Fse a' v → a'.tmps.getD 75 undef = .bool (pk == 1) → K a' wq) :
    Code.wp Try.prog c (Exit.then K fun _ _ _ => False) a wq := by
  have HQ := hide hQ
  clear hQ
  obtain ⟨t', d'⟩ := a
  obtain ⟨v0, v1, v2, v3, v8, v9, v10, v12, v13, v14, v16, v17, v18, v19, v20, v58⟩ := v
  simp only at h58v HQ
  subst h58v
  obtain ⟨hs1, hd1, q0, q1, q2, q3, q8, q9, q10, q12, q13, q14, q16, q17, q18, q19, q20, q58⟩ := hF
  obtain ⟨u, hu⟩ := frame_se t' hs1
  simp only at hd1 q0 q1 q2 q3 q8 q9 q10 q12 q13 q14 q16 q17 q18 q19 q20 q58
  subst hu hd1
  have e0 : u 0 = v0 := q0
  have e1 : u 1 = v1 := q1
  have e2 : u 2 = v2 := q2
  have e3 : u 3 = v3 := q3
  have e8 : u 8 = v8 := q8
  have e9 : u 9 = v9 := q9
  have e10 : u 10 = v10 := q10
  have e12 : u 12 = v12 := q12
  have e13 : u 13 = v13 := q13
  have e14 : u 14 = v14 := q14
  have e16 : u 16 = v16 := q16
  have e17 : u 17 = v17 := q17
  have e18 : u 18 = v18 := q18
  have e19 : u 19 = v19 := q19
  have e20 : u 20 = v20 := q20
  have e58 : u 58 = .int .i64 pk := q58
  rw [e0, e1, e2, e3, e8, e9, e10, e12, e13, e14, e16, e17, e18, e19, e20, e58]
  clear q0 e0 q1 e1 q2 e2 q3 e3 q8 e8 q9 e9 q10 e10 q12 e12 q13 e13 q14 e14 q16 e16 q17 e17 q18 e18 q19 e19 q20 e20 q58 e58 hs1
  simp only [Try.f6, Option.getD_some, regOf] at hc
  injection hc with hc
  subst hc
  generalize u 4 = u4
  generalize u 5 = u5
  generalize u 6 = u6
  generalize u 7 = u7
  generalize u 11 = u11
  generalize u 15 = u15
  generalize u 21 = u21
  generalize u 22 = u22
  generalize u 23 = u23
  generalize u 24 = u24
  generalize u 25 = u25
  generalize u 26 = u26
  generalize u 27 = u27
  generalize u 28 = u28
  generalize u 29 = u29
  generalize u 30 = u30
  generalize u 31 = u31
  generalize u 32 = u32
  generalize u 33 = u33
  generalize u 34 = u34
  generalize u 35 = u35
  generalize u 36 = u36
  generalize u 37 = u37
  generalize u 38 = u38
  generalize u 39 = u39
  generalize u 40 = u40
  generalize u 41 = u41
  generalize u 42 = u42
  generalize u 43 = u43
  generalize u 44 = u44
  generalize u 45 = u45
  generalize u 46 = u46
  generalize u 47 = u47
  generalize u 48 = u48
  generalize u 49 = u49
  generalize u 50 = u50
  generalize u 51 = u51
  generalize u 52 = u52
  generalize u 53 = u53
  generalize u 54 = u54
  generalize u 55 = u55
  generalize u 56 = u56
  generalize u 57 = u57
  generalize u 59 = u59
  generalize u 60 = u60
  generalize u 61 = u61
  generalize u 62 = u62
  generalize u 63 = u63
  generalize u 64 = u64
  generalize u 65 = u65
  generalize u 66 = u66
  generalize u 67 = u67
  generalize u 68 = u68
  generalize u 69 = u69
  generalize u 70 = u70
  generalize u 71 = u71
  generalize u 72 = u72
  generalize u 73 = u73
  generalize u 74 = u74
  generalize u 75 = u75
  generalize u 76 = u76
  generalize u 77 = u77
  generalize u 78 = u78
  generalize u 79 = u79
  generalize u 80 = u80
  generalize u 81 = u81
  generalize u 82 = u82
  generalize u 83 = u83
  generalize u 84 = u84
  generalize u 85 = u85
  generalize u 86 = u86
  generalize u 87 = u87
  generalize u 88 = u88
  generalize u 89 = u89
  generalize u 90 = u90
  generalize u 91 = u91
  generalize u 92 = u92
  generalize u 93 = u93
  generalize u 94 = u94
  generalize u 95 = u95
  generalize u 96 = u96
  generalize u 97 = u97
  generalize u 98 = u98
  generalize u 99 = u99
  generalize u 100 = u100
  generalize u 101 = u101
  generalize u 102 = u102
  generalize u 103 = u103
  generalize u 104 = u104
  generalize u 105 = u105
  generalize u 106 = u106
  generalize u 107 = u107
  generalize u 108 = u108
  generalize u 109 = u109
  generalize u 110 = u110
  generalize u 111 = u111
  generalize u 112 = u112
  generalize u 113 = u113
  generalize u 114 = u114
  generalize u 115 = u115
  generalize u 116 = u116
  generalize u 117 = u117
  generalize u 118 = u118
  generalize u 119 = u119
  generalize u 120 = u120
  generalize u 121 = u121
  generalize u 122 = u122
  generalize u 123 = u123
  generalize u 124 = u124
  generalize u 125 = u125
  generalize u 126 = u126
  generalize u 127 = u127
  generalize u 128 = u128
  generalize u 129 = u129
  generalize u 130 = u130
  generalize u 131 = u131
  generalize u 132 = u132
  generalize u 133 = u133
  generalize u 134 = u134
  generalize u 135 = u135
  generalize u 136 = u136
  generalize u 137 = u137
  generalize u 138 = u138
  generalize u 139 = u139
  generalize u 140 = u140
  generalize u 141 = u141
  generalize u 142 = u142
  generalize u 143 = u143
  generalize u 144 = u144
  generalize u 145 = u145
  generalize u 146 = u146
  generalize u 147 = u147
  generalize u 148 = u148
  generalize u 149 = u149
  generalize u 150 = u150
  generalize u 151 = u151
  generalize u 152 = u152
  generalize u 153 = u153
  generalize u 154 = u154
  generalize u 155 = u155
  generalize u 156 = u156
  generalize u 157 = u157
  generalize u 158 = u158
  generalize u 159 = u159
  clear u
  go_wp2
  exact HQ.out _ ⟨rfl, rfl, rfl, rfl, rfl, rfl, rfl, rfl, rfl, rfl, rfl, rfl, rfl, rfl, rfl, rfl, rfl, rfl⟩ (by first | rfl | (simp; done))
set_option maxHeartbeats 8000000 in
set_option maxRecDepth 100000 in
theorem se_r17 {K : Act → World → Prop} {c : Code} (hc : regOf (Try.f6.body.getD .skip) 17 = some c) (a : Act) {v : Vse} {wq : World} {sb : Nat} {xn xt yn yt : ByteArray} {xc xx yc yx cd : Int} {RL : List Rec} {L : LOC} {m : Int} {bq oq nq cq iq : Nat} (hF : Fse a v) (h14v : v.v14 = .pointer (some ⟨sb, 0, none⟩)) (h1v : v.v1 = .slice (some ⟨bq, oq, none⟩) nq cq) (h10v : v.v10 = .pointer (some ⟨L.b, 0, none⟩)) (h16v : v.v16 = .int .i64 (iq : Int)) (hS : wq.heap[sb]? = some (.cells #[.string xn, .string xt, .int .i64 xc, .int .i64 xx] 33 (0, 0))) (hi : iq < nq) (hbl : bq < wq.heap.size) (hcl : wq.cell? ⟨bq, oq + iq * 2 + 1, none⟩ = some (.int .i64 m)) (hE : ∀ W, Below wq.heap.size wq W → Calls Try.prog 15 #[.agg #[.string xn, .string xt, .int .i64 xc, .int .i64 xx], .pointer (some ⟨L.b, 0, none⟩), .int .i64 m] W fun e w' => ∃ ao cp, e = .returned (.tuple #[.agg #[.string yn, .string yt, .int .i64 yc, .int .i64 yx], .slice ao RL.length cp, .int .i64 cd]) ∧ RecsAt w' (.slice ao RL.length cp) RL ∧ Below W.heap.size W w' ∧ ∀ g, (Value.slice ao 0 cp).ownBlock = some g → wq.heap.size ≤ g)
    (hQ : ∀ a' w', Fse a' v → Touch (fun k => k = sb) wq w' → w'.heap[sb]? = some (.cells #[.string yn, .string yt, .int .i64 yc, .int .i64 yx] 33 (0, 0)) → K a' w') :
    Code.wp Try.prog c (Exit.then K fun _ _ _ => False) a wq := by
  have HQ := hide hQ
  clear hQ
  obtain ⟨t', d'⟩ := a
  obtain ⟨v0, v1, v2, v3, v8, v9, v10, v12, v13, v14, v16, v17, v18, v19, v20, v58⟩ := v
  simp only at h14v h1v h10v h16v HQ
  subst h14v h1v h10v h16v
  obtain ⟨hs1, hd1, q0, q1, q2, q3, q8, q9, q10, q12, q13, q14, q16, q17, q18, q19, q20, q58⟩ := hF
  obtain ⟨u, hu⟩ := frame_se t' hs1
  simp only at hd1 q0 q1 q2 q3 q8 q9 q10 q12 q13 q14 q16 q17 q18 q19 q20 q58
  subst hu hd1
  have e0 : u 0 = v0 := q0
  have e1 : u 1 = .slice (some ⟨bq, oq, none⟩) nq cq := q1
  have e2 : u 2 = v2 := q2
  have e3 : u 3 = v3 := q3
  have e8 : u 8 = v8 := q8
  have e9 : u 9 = v9 := q9
  have e10 : u 10 = .pointer (some ⟨L.b, 0, none⟩) := q10
  have e12 : u 12 = v12 := q12
  have e13 : u 13 = v13 := q13
  have e14 : u 14 = .pointer (some ⟨sb, 0, none⟩) := q14
  have e16 : u 16 = .int .i64 (iq : Int) := q16
  have e17 : u 17 = v17 := q17
  have e18 : u 18 = v18 := q18
  have e19 : u 19 = v19 := q19
  have e20 : u 20 = v20 := q20
  have e58 : u 58 = v58 := q58
  rw [e0, e1, e2, e3, e8, e9, e10, e12, e13, e14, e16, e17, e18, e19, e20, e58]
  clear q0 e0 q1 e1 q2 e2 q3 e3 q8 e8 q9 e9 q10 e10 q12 e12 q13 e13 q14 e14 q16 e16 q17 e17 q18 e18 q19 e19 q20 e20 q58 e58 hs1
  simp only [Try.f6, Option.getD_some, regOf] at hc
  injection hc with hc
  subst hc
  generalize u 4 = u4
  generalize u 5 = u5
  generalize u 6 = u6
  generalize u 7 = u7
  generalize u 11 = u11
  generalize u 15 = u15
  generalize u 21 = u21
  generalize u 22 = u22
  generalize u 23 = u23
  generalize u 24 = u24
  generalize u 25 = u25
  generalize u 26 = u26
  generalize u 27 = u27
  generalize u 28 = u28
  generalize u 29 = u29
  generalize u 30 = u30
  generalize u 31 = u31
  generalize u 32 = u32
  generalize u 33 = u33
  generalize u 34 = u34
  generalize u 35 = u35
  generalize u 36 = u36
  generalize u 37 = u37
  generalize u 38 = u38
  generalize u 39 = u39
  generalize u 40 = u40
  generalize u 41 = u41
  generalize u 42 = u42
  generalize u 43 = u43
  generalize u 44 = u44
  generalize u 45 = u45
  generalize u 46 = u46
  generalize u 47 = u47
  generalize u 48 = u48
  generalize u 49 = u49
  generalize u 50 = u50
  generalize u 51 = u51
  generalize u 52 = u52
  generalize u 53 = u53
  generalize u 54 = u54
  generalize u 55 = u55
  generalize u 56 = u56
  generalize u 57 = u57
  generalize u 59 = u59
  generalize u 60 = u60
  generalize u 61 = u61
  generalize u 62 = u62
  generalize u 63 = u63
  generalize u 64 = u64
  generalize u 65 = u65
  generalize u 66 = u66
  generalize u 67 = u67
  generalize u 68 = u68
  generalize u 69 = u69
  generalize u 70 = u70
  generalize u 71 = u71
  generalize u 72 = u72
  generalize u 73 = u73
  generalize u 74 = u74
  generalize u 75 = u75
  generalize u 76 = u76
  generalize u 77 = u77
  generalize u 78 = u78
  generalize u 79 = u79
  generalize u 80 = u80
  generalize u 81 = u81
  generalize u 82 = u82
  generalize u 83 = u83
  generalize u 84 = u84
  generalize u 85 = u85
  generalize u 86 = u86
  generalize u 87 = u87
  generalize u 88 = u88
  generalize u 89 = u89
  generalize u 90 = u90
  generalize u 91 = u91
  generalize u 92 = u92
  generalize u 93 = u93
  generalize u 94 = u94
  generalize u 95 = u95
  generalize u 96 = u96
  generalize u 97 = u97
  generalize u 98 = u98
  generalize u 99 = u99
  generalize u 100 = u100
  generalize u 101 = u101
  generalize u 102 = u102
  generalize u 103 = u103
  generalize u 104 = u104
  generalize u 105 = u105
  generalize u 106 = u106
  generalize u 107 = u107
  generalize u 108 = u108
  generalize u 109 = u109
  generalize u 110 = u110
  generalize u 111 = u111
  generalize u 112 = u112
  generalize u 113 = u113
  generalize u 114 = u114
  generalize u 115 = u115
  generalize u 116 = u116
  generalize u 117 = u117
  generalize u 118 = u118
  generalize u 119 = u119
  generalize u 120 = u120
  generalize u 121 = u121
  generalize u 122 = u122
  generalize u 123 = u123
  generalize u 124 = u124
  generalize u 125 = u125
  generalize u 126 = u126
  generalize u 127 = u127
  generalize u 128 = u128
  generalize u 129 = u129
  generalize u 130 = u130
  generalize u 131 = u131
  generalize u 132 = u132
  generalize u 133 = u133
  generalize u 134 = u134
  generalize u 135 = u135
  generalize u 136 = u136
  generalize u 137 = u137
  generalize u 138 = u138
  generalize u 139 = u139
  generalize u 140 = u140
  generalize u 141 = u141
  generalize u 142 = u142
  generalize u 143 = u143
  generalize u 144 = u144
  generalize u 145 = u145
  generalize u 146 = u146
  generalize u 147 = u147
  generalize u 148 = u148
  generalize u 149 = u149
  generalize u 150 = u150
  generalize u 151 = u151
  generalize u 152 = u152
  generalize u 153 = u153
  generalize u 154 = u154
  generalize u 155 = u155
  generalize u 156 = u156
  generalize u 157 = u157
  generalize u 158 = u158
  generalize u 159 = u159
  clear u
  have HS := hide hS
  have HLT : Hid (sb < wq.heap.size) := heap_lt hS
  have HE := hide hE
  have HBL := hide hbl
  have HC := hide hcl
  have HI1 : Hid ((iq : Int) < (nq : Int)) := by
    show _ < _
    omega
  have HI2 : Hid (iq < nq) := hi
  have HI3 : Hid ((0 : Int) ≤ (iq : Int)) := Int.natCast_nonneg iq
  clear hE hbl hcl hi
  clear hS
  refine wp_region_any rfl ?_
  refine wpAny_store (ns := 160) (uses := (fun i => match i with | 0 => [64] | 1 => [65] | 2 => [66] | 3 => [67] | 4 => [68] | 5 => [69] | 6 => [70] | 7 => [71] | 8 => [63] | 9 => [72] | 10 => [73] | 11 => [74] | 12 => [] | _ => [])) (by kernel_rfl) (by kernel_rfl) (fun j w w' => (j ≠ 12 → Below w.heap.size w w') ∧ (j = 12 → Touch (fun k => k = sb) w w')) 12 (by decide) (fun bb w => (bb = false → Below wq.heap.size wq w) ∧ Touch (fun k => k = sb) wq w) (fun j b w w' hj h r => ⟨fun e => (h.1 e).trans ((r.1 hj).mono (h.1 e).size), h.2.below (r.1 hj)⟩) (fun w w' h r => ⟨fun e => (by cases e), h.2.andThen (r.2 rfl) (fun _ _ e => e)⟩) ⟨fun _ => (Below.refl _ _).drew, (Touch.refl _ _).drew⟩ (fun i => match i with | 0 => fun s w => s 64 = .agg #[.string xn, .string xt, .int .i64 xc, .int .i64 xx] | 1 => fun s w => s 65 = .pointer (some ⟨L.b, 0, none⟩) | 2 => fun s w => s 66 = .slice (some ⟨bq, oq, none⟩) nq cq | 3 => fun s w => s 67 = .int .i64 (iq : Int) | 4 => fun s w => s 68 = .pointer (some ⟨bq, oq + iq * 2, none⟩) | 5 => fun s w => s 69 = .pointer (some ⟨bq, oq + iq * 2 + 1, none⟩) | 6 => fun s w => s 70 = .int .i64 m | 7 => fun s w => ∃ ao cp, s 71 = .tuple #[.agg #[.string yn, .string yt, .int .i64 yc, .int .i64 yx], .slice ao RL.length cp, .int .i64 cd] ∧ RecsAt w (.slice ao RL.length cp) RL ∧ ∀ g, (Value.slice ao 0 cp).ownBlock = some g → wq.heap.size ≤ g | 8 => fun s w => ∃ ao cp, s 63 = .tuple #[.agg #[.string yn, .string yt, .int .i64 yc, .int .i64 yx], .slice ao RL.length cp, .int .i64 cd] ∧ RecsAt w (.slice ao RL.length cp) RL ∧ ∀ g, (Value.slice ao 0 cp).ownBlock = some g → wq.heap.size ≤ g | 9 => fun s w => s 72 = .agg #[.string yn, .string yt, .int .i64 yc, .int .i64 yx] | 10 => fun s w => ∃ ao cp, s 73 = .slice ao RL.length cp ∧ RecsAt w (.slice ao RL.length cp) RL ∧ ∀ g, (Value.slice ao 0 cp).ownBlock = some g → wq.heap.size ≤ g | 11 => fun s w => s 74 = .int .i64 cd | 12 => fun s w => w.heap[sb]? = some (.cells #[.string yn, .string yt, .int .i64 yc, .int .i64 yx] 33 (0, 0)) | _ => fun _ _ => True) ?phc ?phh ?pstep ?pdone
  case phc =>
    intro i s s' w hx h
    match i, hx, h with
    | 0, hx, h =>
      have e64 := hx 64 (by simp)
      first | exact (show _ from by simp only [← e64] at *; exact h) | (simp only [e64] at h; exact h)
    | 1, hx, h =>
      have e65 := hx 65 (by simp)
      first | exact (show _ from by simp only [← e65] at *; exact h) | (simp only [e65] at h; exact h)
    | 2, hx, h =>
      have e66 := hx 66 (by simp)
      first | exact (show _ from by simp only [← e66] at *; exact h) | (simp only [e66] at h; exact h)
    | 3, hx, h =>
      have e67 := hx 67 (by simp)
      first | exact (show _ from by simp only [← e67] at *; exact h) | (simp only [e67] at h; exact h)
    | 4, hx, h =>
      have e68 := hx 68 (by simp)
      first | exact (show _ from by simp only [← e68] at *; exact h) | (simp only [e68] at h; exact h)
    | 5, hx, h =>
      have e69 := hx 69 (by simp)
      first | exact (show _ from by simp only [← e69] at *; exact h) | (simp only [e69] at h; exact h)
    | 6, hx, h =>
      have e70 := hx 70 (by simp)
      first | exact (show _ from by simp only [← e70] at *; exact h) | (simp only [e70] at h; exact h)
    | 7, hx, h =>
      have e71 := hx 71 (by simp)
      first | exact (show _ from by simp only [← e71] at *; exact h) | (simp only [e71] at h; exact h)
    | 8, hx, h =>
      have e63 := hx 63 (by simp)
      first | exact (show _ from by simp only [← e63] at *; exact h) | (simp only [e63] at h; exact h)
    | 9, hx, h =>
      have e72 := hx 72 (by simp)
      first | exact (show _ from by simp only [← e72] at *; exact h) | (simp only [e72] at h; exact h)
    | 10, hx, h =>
      have e73 := hx 73 (by simp)
      first | exact (show _ from by simp only [← e73] at *; exact h) | (simp only [e73] at h; exact h)
    | 11, hx, h =>
      have e74 := hx 74 (by simp)
      first | exact (show _ from by simp only [← e74] at *; exact h) | (simp only [e74] at h; exact h)
    | 12, hx, h =>
      exact h
    | (n + 13), _, h => exact h
  case phh =>
    intro i j s w w' hij h r
    match i, hij, h with
    | 0, hij, h =>
      exact h
    | 1, hij, h =>
      exact h
    | 2, hij, h =>
      exact h
    | 3, hij, h =>
      exact h
    | 4, hij, h =>
      exact h
    | 5, hij, h =>
      exact h
    | 6, hij, h =>
      exact h
    | 7, hij, h =>
      obtain ⟨ao, cp, h1, h2, h3⟩ := h
      exact ⟨ao, cp, h1, rel_recs HLT.out h2 h3 r, h3⟩
    | 8, hij, h =>
      obtain ⟨ao, cp, h1, h2, h3⟩ := h
      exact ⟨ao, cp, h1, rel_recs HLT.out h2 h3 r, h3⟩
    | 9, hij, h =>
      exact h
    | 10, hij, h =>
      obtain ⟨ao, cp, h1, h2, h3⟩ := h
      exact ⟨ao, cp, h1, rel_recs HLT.out h2 h3 r, h3⟩
    | 11, hij, h =>
      exact h
    | 12, hij, h =>
      exact Below.at (r.1 (fun e => hij e.symm)) h
    | (n + 13), _, h => exact h
  case pstep =>
    intro i o ho a' w' bb hbb hsa hb hd
    match i, ho with
    | 0, ho =>
      obtain rfl := Option.some.inj ho
      try dsimp only at hd
      have hb0 := hb.1 (hbb (by kernel_rfl))
      have g14 : a'.tmps.getD 14 undef = .pointer (some ⟨sb, 0, none⟩) := hsa.rest 14 (by rfl)
      obtain ⟨⟨z0, z1, z2, z3⟩, _⟩ := box4 (Below.at hb0 HS.out)
      refine wpOp_of rfl rfl ?_
      refine op_run (v := .agg #[.string xn, .string xt, .int .i64 xc, .int .i64 xx]) (w' := w') ?_ ⟨_, rfl, ?_, ?_⟩
      · simp only [execOp, Act.eval, List.map_toArray, List.map_cons, List.map_nil, g14, z0, z1, z2, z3]; first | (go_simp; done) | rfl
      · try dsimp only
        exact (slots_put (ns := 160) (hsa.size.trans rfl) (by decide))
      · exact ⟨fun _ => Below.refl _ _, fun e => by cases e⟩
    | 1, ho =>
      obtain rfl := Option.some.inj ho
      try dsimp only at hd
      have g10 : a'.tmps.getD 10 undef = .pointer (some ⟨L.b, 0, none⟩) := hsa.rest 10 (by rfl)
      refine wpOp_of rfl rfl ?_
      refine op_run (v := .pointer (some ⟨L.b, 0, none⟩)) (w' := w') ?_ ⟨_, rfl, ?_, ?_⟩
      · simp only [execOp, Act.eval, List.map_toArray, List.map_cons, List.map_nil, g10]; first | (go_simp; done) | rfl
      · try dsimp only
        exact (slots_put (ns := 160) (hsa.size.trans rfl) (by decide))
      · exact ⟨fun _ => Below.refl _ _, fun e => by cases e⟩
    | 2, ho =>
      obtain rfl := Option.some.inj ho
      try dsimp only at hd
      have g1 : a'.tmps.getD 1 undef = .slice (some ⟨bq, oq, none⟩) nq cq := hsa.rest 1 (by rfl)
      refine wpOp_of rfl rfl ?_
      refine op_run (v := .slice (some ⟨bq, oq, none⟩) nq cq) (w' := w') ?_ ⟨_, rfl, ?_, ?_⟩
      · simp only [execOp, Act.eval, List.map_toArray, List.map_cons, List.map_nil, g1]; first | (go_simp; done) | rfl
      · try dsimp only
        exact (slots_put (ns := 160) (hsa.size.trans rfl) (by decide))
      · exact ⟨fun _ => Below.refl _ _, fun e => by cases e⟩
    | 3, ho =>
      obtain rfl := Option.some.inj ho
      try dsimp only at hd
      have g16 : a'.tmps.getD 16 undef = .int .i64 (iq : Int) := hsa.rest 16 (by rfl)
      refine wpOp_of rfl rfl ?_
      refine op_run (v := .int .i64 (iq : Int)) (w' := w') ?_ ⟨_, rfl, ?_, ?_⟩
      · simp only [execOp, Act.eval, List.map_toArray, List.map_cons, List.map_nil, g16]; first | (go_simp; done) | rfl
      · try dsimp only
        exact (slots_put (ns := 160) (hsa.size.trans rfl) (by decide))
      · exact ⟨fun _ => Below.refl _ _, fun e => by cases e⟩
    | 4, ho =>
      obtain rfl := Option.some.inj ho
      try dsimp only at hd
      have d2 : a'.tmps.getD 66 undef = .slice (some ⟨bq, oq, none⟩) nq cq := hd 2 (by rfl)
      have d3 : a'.tmps.getD 67 undef = .int .i64 (iq : Int) := hd 3 (by rfl)
      have y1 := HI1.out
      have y2 := HI2.out
      have y3 := HI3.out
      refine wpOp_of rfl rfl ?_
      refine op_run (v := .pointer (some ⟨bq, oq + iq * 2, none⟩)) (w' := w') ?_ ⟨_, rfl, ?_, ?_⟩
      · simp only [execOp, Act.eval, List.map_toArray, List.map_cons, List.map_nil, d2, d3, y1, y2, y3]; first | (go_simp; done) | rfl
      · try dsimp only
        exact (slots_put (ns := 160) (hsa.size.trans rfl) (by decide))
      · exact ⟨fun _ => Below.refl _ _, fun e => by cases e⟩
    | 5, ho =>
      obtain rfl := Option.some.inj ho
      try dsimp only at hd
      have d4 : a'.tmps.getD 68 undef = .pointer (some ⟨bq, oq + iq * 2, none⟩) := hd 4 (by rfl)
      refine wpOp_of rfl rfl ?_
      refine op_run (v := .pointer (some ⟨bq, oq + iq * 2 + 1, none⟩)) (w' := w') ?_ ⟨_, rfl, ?_, ?_⟩
      · simp only [execOp, Act.eval, List.map_toArray, List.map_cons, List.map_nil, d4]; first | (go_simp; done) | rfl
      · try dsimp only
        exact (slots_put (ns := 160) (hsa.size.trans rfl) (by decide))
      · exact ⟨fun _ => Below.refl _ _, fun e => by cases e⟩
    | 6, ho =>
      obtain rfl := Option.some.inj ho
      try dsimp only at hd
      have hb0 := hb.1 (hbb (by kernel_rfl))
      have d5 : a'.tmps.getD 69 undef = .pointer (some ⟨bq, oq + iq * 2 + 1, none⟩) := hd 5 (by rfl)
      have y : w'.cell? ⟨bq, oq + iq * 2 + 1, none⟩ = some (.int .i64 m) := (hb0.cell (p := ⟨bq, oq + iq * 2 + 1, none⟩) HBL.out).trans HC.out
      refine wpOp_of rfl rfl ?_
      refine op_run (v := .int .i64 m) (w' := w') ?_ ⟨_, rfl, ?_, ?_⟩
      · simp only [execOp, Act.eval, List.map_toArray, List.map_cons, List.map_nil, d5, y]; first | (go_simp; done) | rfl
      · try dsimp only
        exact (slots_put (ns := 160) (hsa.size.trans rfl) (by decide))
      · exact ⟨fun _ => Below.refl _ _, fun e => by cases e⟩
    | 7, ho =>
      obtain rfl := Option.some.inj ho
      try dsimp only at hd
      have hb0 := hb.1 (hbb (by kernel_rfl))
      have d0 : a'.tmps.getD 64 undef = .agg #[.string xn, .string xt, .int .i64 xc, .int .i64 xx] := hd 0 (by rfl)
      have d1 : a'.tmps.getD 65 undef = .pointer (some ⟨L.b, 0, none⟩) := hd 1 (by rfl)
      have d6 : a'.tmps.getD 70 undef = .int .i64 m := hd 6 (by rfl)
      refine wpOp_of rfl rfl ?_
      refine op_call 15 _ _ rfl (enters_of Try.func15 (by kernel_rfl) rfl) [.agg #[.string xn, .string xt, .int .i64 xc, .int .i64 xx], .pointer (some ⟨L.b, 0, none⟩), .int .i64 m] (by simp only [List.map, Act.eval, d0, d1, d6]) (HE.out w' hb0) ?_
      rintro e w'' ⟨ao, cp, rfl, r2, b2, n2⟩
      refine ⟨_, rfl, _, rfl, ?_, ?_⟩
      · try dsimp only
        exact ⟨ao, cp, (slots_put (ns := 160) (hsa.size.trans rfl) (by decide)), r2, n2⟩
      · exact ⟨fun _ => b2, fun e => by cases e⟩
    | 8, ho =>
      obtain rfl := Option.some.inj ho
      try dsimp only at hd
      have d7 : ∃ ao cp, a'.tmps.getD 71 undef = .tuple #[.agg #[.string yn, .string yt, .int .i64 yc, .int .i64 yx], .slice ao RL.length cp, .int .i64 cd] ∧ RecsAt w' (.slice ao RL.length cp) RL ∧ ∀ g, (Value.slice ao 0 cp).ownBlock = some g → wq.heap.size ≤ g := hd 7 (by rfl)
      obtain ⟨ao, cp, d7, r1, r2⟩ := d7
      refine wpOp_of rfl rfl ?_
      refine op_run (v := .tuple #[.agg #[.string yn, .string yt, .int .i64 yc, .int .i64 yx], .slice ao RL.length cp, .int .i64 cd]) (w' := w') ?_ ⟨_, rfl, ?_, ?_⟩
      · simp only [execOp, Act.eval, List.map_toArray, List.map_cons, List.map_nil, d7]; first | (go_simp; done) | rfl
      · try dsimp only
        exact ⟨ao, cp, (slots_put (ns := 160) (hsa.size.trans rfl) (by decide)), r1, r2⟩
      · exact ⟨fun _ => Below.refl _ _, fun e => by cases e⟩
    | 9, ho =>
      obtain rfl := Option.some.inj ho
      try dsimp only at hd
      have d8 : ∃ ao cp, a'.tmps.getD 63 undef = .tuple #[.agg #[.string yn, .string yt, .int .i64 yc, .int .i64 yx], .slice ao RL.length cp, .int .i64 cd] ∧ RecsAt w' (.slice ao RL.length cp) RL ∧ ∀ g, (Value.slice ao 0 cp).ownBlock = some g → wq.heap.size ≤ g := hd 8 (by rfl)
      obtain ⟨ao, cp, d8, r1, r2⟩ := d8
      refine wpOp_of rfl rfl ?_
      refine op_run (v := .agg #[.string yn, .string yt, .int .i64 yc, .int .i64 yx]) (w' := w') ?_ ⟨_, rfl, ?_, ?_⟩
      · simp only [execOp, Act.eval, List.map_toArray, List.map_cons, List.map_nil, d8]; first | (go_simp; done) | rfl
      · try dsimp only
        exact (slots_put (ns := 160) (hsa.size.trans rfl) (by decide))
      · exact ⟨fun _ => Below.refl _ _, fun e => by cases e⟩
    | 10, ho =>
      obtain rfl := Option.some.inj ho
      try dsimp only at hd
      have d8 : ∃ ao cp, a'.tmps.getD 63 undef = .tuple #[.agg #[.string yn, .string yt, .int .i64 yc, .int .i64 yx], .slice ao RL.length cp, .int .i64 cd] ∧ RecsAt w' (.slice ao RL.length cp) RL ∧ ∀ g, (Value.slice ao 0 cp).ownBlock = some g → wq.heap.size ≤ g := hd 8 (by rfl)
      obtain ⟨ao, cp, d8, r1, r2⟩ := d8
      refine wpOp_of rfl rfl ?_
      refine op_run (v := .slice ao RL.length cp) (w' := w') ?_ ⟨_, rfl, ?_, ?_⟩
      · simp only [execOp, Act.eval, List.map_toArray, List.map_cons, List.map_nil, d8]; first | (go_simp; done) | rfl
      · try dsimp only
        exact ⟨ao, cp, (slots_put (ns := 160) (hsa.size.trans rfl) (by decide)), r1, r2⟩
      · exact ⟨fun _ => Below.refl _ _, fun e => by cases e⟩
    | 11, ho =>
      obtain rfl := Option.some.inj ho
      try dsimp only at hd
      have d8 : ∃ ao cp, a'.tmps.getD 63 undef = .tuple #[.agg #[.string yn, .string yt, .int .i64 yc, .int .i64 yx], .slice ao RL.length cp, .int .i64 cd] ∧ RecsAt w' (.slice ao RL.length cp) RL ∧ ∀ g, (Value.slice ao 0 cp).ownBlock = some g → wq.heap.size ≤ g := hd 8 (by rfl)
      obtain ⟨ao, cp, d8, r1, r2⟩ := d8
      refine wpOp_of rfl rfl ?_
      refine op_run (v := .int .i64 cd) (w' := w') ?_ ⟨_, rfl, ?_, ?_⟩
      · simp only [execOp, Act.eval, List.map_toArray, List.map_cons, List.map_nil, d8]; first | (go_simp; done) | rfl
      · try dsimp only
        exact (slots_put (ns := 160) (hsa.size.trans rfl) (by decide))
      · exact ⟨fun _ => Below.refl _ _, fun e => by cases e⟩
    | 12, ho =>
      obtain rfl := Option.some.inj ho
      try dsimp only at hd
      have hb0 := hb.1 (hbb (by kernel_rfl))
      have d9 : a'.tmps.getD 72 undef = .agg #[.string yn, .string yt, .int .i64 yc, .int .i64 yx] := hd 9 (by rfl)
      have g14 : a'.tmps.getD 14 undef = .pointer (some ⟨sb, 0, none⟩) := hsa.rest 14 (by rfl)
      obtain ⟨⟨z0, z1, z2, z3⟩, f0, f1, f2, f3⟩ := box4 (Below.at hb0 HS.out)
      refine wpOp_of rfl rfl ?_
      refine op_skip (w' := ((((w'.setCell ⟨sb, 0, none⟩ (.string yn)).setCell ⟨sb, 1, none⟩ (.string yt)).setCell ⟨sb, 2, none⟩ (.int .i64 yc)).setCell ⟨sb, 3, none⟩ (.int .i64 yx))) ?_ ⟨undef, rfl, ?_, ?_⟩
      · simp only [execOp, Act.eval, d9, g14]; first | (go_simp; done) | rfl
      · try dsimp only
        exact set4_box (Below.at hb0 HS.out)
      · exact ⟨fun e => absurd rfl e, fun _ => set4_touch _ _⟩
    | (n + 13), ho => exact absurd ho (by simp)
  case pdone =>
    intro a' w' hsa hb hd
    have d0 : a'.tmps.getD 64 undef = .agg #[.string xn, .string xt, .int .i64 xc, .int .i64 xx] := hd 0 (by decide)
    have d1 : a'.tmps.getD 65 undef = .pointer (some ⟨L.b, 0, none⟩) := hd 1 (by decide)
    have d2 : a'.tmps.getD 66 undef = .slice (some ⟨bq, oq, none⟩) nq cq := hd 2 (by decide)
    have d3 : a'.tmps.getD 67 undef = .int .i64 (iq : Int) := hd 3 (by decide)
    have d4 : a'.tmps.getD 68 undef = .pointer (some ⟨bq, oq + iq * 2, none⟩) := hd 4 (by decide)
    have d5 : a'.tmps.getD 69 undef = .pointer (some ⟨bq, oq + iq * 2 + 1, none⟩) := hd 5 (by decide)
    have d6 : a'.tmps.getD 70 undef = .int .i64 m := hd 6 (by decide)
    have d7 : ∃ ao cp, a'.tmps.getD 71 undef = .tuple #[.agg #[.string yn, .string yt, .int .i64 yc, .int .i64 yx], .slice ao RL.length cp, .int .i64 cd] ∧ RecsAt w' (.slice ao RL.length cp) RL ∧ ∀ g, (Value.slice ao 0 cp).ownBlock = some g → wq.heap.size ≤ g := hd 7 (by decide)
    have d8 : ∃ ao cp, a'.tmps.getD 63 undef = .tuple #[.agg #[.string yn, .string yt, .int .i64 yc, .int .i64 yx], .slice ao RL.length cp, .int .i64 cd] ∧ RecsAt w' (.slice ao RL.length cp) RL ∧ ∀ g, (Value.slice ao 0 cp).ownBlock = some g → wq.heap.size ≤ g := hd 8 (by decide)
    have d9 : a'.tmps.getD 72 undef = .agg #[.string yn, .string yt, .int .i64 yc, .int .i64 yx] := hd 9 (by decide)
    have d10 : ∃ ao cp, a'.tmps.getD 73 undef = .slice ao RL.length cp ∧ RecsAt w' (.slice ao RL.length cp) RL ∧ ∀ g, (Value.slice ao 0 cp).ownBlock = some g → wq.heap.size ≤ g := hd 10 (by decide)
    have d11 : a'.tmps.getD 74 undef = .int .i64 cd := hd 11 (by decide)
    have d12 : w'.heap[sb]? = some (.cells #[.string yn, .string yt, .int .i64 yc, .int .i64 yx] 33 (0, 0)) := hd 12 (by decide)
    exact HQ.out _ _ ⟨hsa.size.trans rfl, hsa.defers.trans rfl, hsa.rest 0 (by rfl), hsa.rest 1 (by rfl), hsa.rest 2 (by rfl), hsa.rest 3 (by rfl), hsa.rest 8 (by rfl), hsa.rest 9 (by rfl), hsa.rest 10 (by rfl), hsa.rest 12 (by rfl), hsa.rest 13 (by rfl), hsa.rest 14 (by rfl), hsa.rest 16 (by rfl), hsa.rest 17 (by rfl), hsa.rest 18 (by rfl), hsa.rest 19 (by rfl), hsa.rest 20 (by rfl), hsa.rest 58 (by rfl)⟩ hb.2 d12
set_option maxHeartbeats 8000000 in
set_option maxRecDepth 100000 in
theorem se_r19 {K : Act → World → Prop} {c : Code} (hc : regOf (Try.f6.body.getD .skip) 19 = some c) (a : Act) {v : Vse} {wq : World} {sb : Nat} {xn xt yn yt : ByteArray} {xc xx yc yx cd : Int} {m : Int} {bq oq nq cq iq : Nat} (hF : Fse a v) (h14v : v.v14 = .pointer (some ⟨sb, 0, none⟩)) (h1v : v.v1 = .slice (some ⟨bq, oq, none⟩) nq cq) (h16v : v.v16 = .int .i64 (iq : Int)) (hS : wq.heap[sb]? = some (.cells #[.string xn, .string xt, .int .i64 xc, .int .i64 xx] 33 (0, 0))) (hi : iq < nq) (hbl : bq < wq.heap.size) (hcl : wq.cell? ⟨bq, oq + iq * 2 + 1, none⟩ = some (.int .i64 m)) (hE : ∀ W, Below wq.heap.size wq W → Calls Try.prog 16 #[.agg #[.string xn, .string xt, .int .i64 xc, .int .i64 xx], .int .i64 m] W fun e w' => e = .returned (.tuple #[.agg #[.string yn, .string yt, .int .i64 yc, .int .i64 yx], .int .i64 cd]) ∧ Below W.heap.size W w')
    (hQ : ∀ a' w', Fse a' v → Touch (fun k => k = sb) wq w' → w'.heap[sb]? = some (.cells #[.string yn, .string yt, .int .i64 yc, .int .i64 yx] 33 (0, 0)) → K a' w') :
    Code.wp Try.prog c (Exit.then K fun _ _ _ => False) a wq := by
  have HQ := hide hQ
  clear hQ
  obtain ⟨t', d'⟩ := a
  obtain ⟨v0, v1, v2, v3, v8, v9, v10, v12, v13, v14, v16, v17, v18, v19, v20, v58⟩ := v
  simp only at h14v h1v h16v HQ
  subst h14v h1v h16v
  obtain ⟨hs1, hd1, q0, q1, q2, q3, q8, q9, q10, q12, q13, q14, q16, q17, q18, q19, q20, q58⟩ := hF
  obtain ⟨u, hu⟩ := frame_se t' hs1
  simp only at hd1 q0 q1 q2 q3 q8 q9 q10 q12 q13 q14 q16 q17 q18 q19 q20 q58
  subst hu hd1
  have e0 : u 0 = v0 := q0
  have e1 : u 1 = .slice (some ⟨bq, oq, none⟩) nq cq := q1
  have e2 : u 2 = v2 := q2
  have e3 : u 3 = v3 := q3
  have e8 : u 8 = v8 := q8
  have e9 : u 9 = v9 := q9
  have e10 : u 10 = v10 := q10
  have e12 : u 12 = v12 := q12
  have e13 : u 13 = v13 := q13
  have e14 : u 14 = .pointer (some ⟨sb, 0, none⟩) := q14
  have e16 : u 16 = .int .i64 (iq : Int) := q16
  have e17 : u 17 = v17 := q17
  have e18 : u 18 = v18 := q18
  have e19 : u 19 = v19 := q19
  have e20 : u 20 = v20 := q20
  have e58 : u 58 = v58 := q58
  rw [e0, e1, e2, e3, e8, e9, e10, e12, e13, e14, e16, e17, e18, e19, e20, e58]
  clear q0 e0 q1 e1 q2 e2 q3 e3 q8 e8 q9 e9 q10 e10 q12 e12 q13 e13 q14 e14 q16 e16 q17 e17 q18 e18 q19 e19 q20 e20 q58 e58 hs1
  simp only [Try.f6, Option.getD_some, regOf] at hc
  injection hc with hc
  subst hc
  generalize u 4 = u4
  generalize u 5 = u5
  generalize u 6 = u6
  generalize u 7 = u7
  generalize u 11 = u11
  generalize u 15 = u15
  generalize u 21 = u21
  generalize u 22 = u22
  generalize u 23 = u23
  generalize u 24 = u24
  generalize u 25 = u25
  generalize u 26 = u26
  generalize u 27 = u27
  generalize u 28 = u28
  generalize u 29 = u29
  generalize u 30 = u30
  generalize u 31 = u31
  generalize u 32 = u32
  generalize u 33 = u33
  generalize u 34 = u34
  generalize u 35 = u35
  generalize u 36 = u36
  generalize u 37 = u37
  generalize u 38 = u38
  generalize u 39 = u39
  generalize u 40 = u40
  generalize u 41 = u41
  generalize u 42 = u42
  generalize u 43 = u43
  generalize u 44 = u44
  generalize u 45 = u45
  generalize u 46 = u46
  generalize u 47 = u47
  generalize u 48 = u48
  generalize u 49 = u49
  generalize u 50 = u50
  generalize u 51 = u51
  generalize u 52 = u52
  generalize u 53 = u53
  generalize u 54 = u54
  generalize u 55 = u55
  generalize u 56 = u56
  generalize u 57 = u57
  generalize u 59 = u59
  generalize u 60 = u60
  generalize u 61 = u61
  generalize u 62 = u62
  generalize u 63 = u63
  generalize u 64 = u64
  generalize u 65 = u65
  generalize u 66 = u66
  generalize u 67 = u67
  generalize u 68 = u68
  generalize u 69 = u69
  generalize u 70 = u70
  generalize u 71 = u71
  generalize u 72 = u72
  generalize u 73 = u73
  generalize u 74 = u74
  generalize u 75 = u75
  generalize u 76 = u76
  generalize u 77 = u77
  generalize u 78 = u78
  generalize u 79 = u79
  generalize u 80 = u80
  generalize u 81 = u81
  generalize u 82 = u82
  generalize u 83 = u83
  generalize u 84 = u84
  generalize u 85 = u85
  generalize u 86 = u86
  generalize u 87 = u87
  generalize u 88 = u88
  generalize u 89 = u89
  generalize u 90 = u90
  generalize u 91 = u91
  generalize u 92 = u92
  generalize u 93 = u93
  generalize u 94 = u94
  generalize u 95 = u95
  generalize u 96 = u96
  generalize u 97 = u97
  generalize u 98 = u98
  generalize u 99 = u99
  generalize u 100 = u100
  generalize u 101 = u101
  generalize u 102 = u102
  generalize u 103 = u103
  generalize u 104 = u104
  generalize u 105 = u105
  generalize u 106 = u106
  generalize u 107 = u107
  generalize u 108 = u108
  generalize u 109 = u109
  generalize u 110 = u110
  generalize u 111 = u111
  generalize u 112 = u112
  generalize u 113 = u113
  generalize u 114 = u114
  generalize u 115 = u115
  generalize u 116 = u116
  generalize u 117 = u117
  generalize u 118 = u118
  generalize u 119 = u119
  generalize u 120 = u120
  generalize u 121 = u121
  generalize u 122 = u122
  generalize u 123 = u123
  generalize u 124 = u124
  generalize u 125 = u125
  generalize u 126 = u126
  generalize u 127 = u127
  generalize u 128 = u128
  generalize u 129 = u129
  generalize u 130 = u130
  generalize u 131 = u131
  generalize u 132 = u132
  generalize u 133 = u133
  generalize u 134 = u134
  generalize u 135 = u135
  generalize u 136 = u136
  generalize u 137 = u137
  generalize u 138 = u138
  generalize u 139 = u139
  generalize u 140 = u140
  generalize u 141 = u141
  generalize u 142 = u142
  generalize u 143 = u143
  generalize u 144 = u144
  generalize u 145 = u145
  generalize u 146 = u146
  generalize u 147 = u147
  generalize u 148 = u148
  generalize u 149 = u149
  generalize u 150 = u150
  generalize u 151 = u151
  generalize u 152 = u152
  generalize u 153 = u153
  generalize u 154 = u154
  generalize u 155 = u155
  generalize u 156 = u156
  generalize u 157 = u157
  generalize u 158 = u158
  generalize u 159 = u159
  clear u
  have HS := hide hS
  have HLT : Hid (sb < wq.heap.size) := heap_lt hS
  have HE := hide hE
  have HBL := hide hbl
  have HC := hide hcl
  have HI1 : Hid ((iq : Int) < (nq : Int)) := by
    show _ < _
    omega
  have HI2 : Hid (iq < nq) := hi
  have HI3 : Hid ((0 : Int) ≤ (iq : Int)) := Int.natCast_nonneg iq
  clear hE hbl hcl hi
  clear hS
  refine wp_region_any rfl ?_
  refine wpAny_store (ns := 160) (uses := (fun i => match i with | 0 => [78] | 1 => [79] | 2 => [80] | 3 => [81] | 4 => [82] | 5 => [83] | 6 => [84] | 7 => [77] | 8 => [85] | 9 => [86] | 10 => [] | _ => [])) (by kernel_rfl) (by kernel_rfl) (fun j w w' => (j ≠ 10 → Below w.heap.size w w') ∧ (j = 10 → Touch (fun k => k = sb) w w')) 10 (by decide) (fun bb w => (bb = false → Below wq.heap.size wq w) ∧ Touch (fun k => k = sb) wq w) (fun j b w w' hj h r => ⟨fun e => (h.1 e).trans ((r.1 hj).mono (h.1 e).size), h.2.below (r.1 hj)⟩) (fun w w' h r => ⟨fun e => (by cases e), h.2.andThen (r.2 rfl) (fun _ _ e => e)⟩) ⟨fun _ => (Below.refl _ _).drew, (Touch.refl _ _).drew⟩ (fun i => match i with | 0 => fun s w => s 78 = .agg #[.string xn, .string xt, .int .i64 xc, .int .i64 xx] | 1 => fun s w => s 79 = .slice (some ⟨bq, oq, none⟩) nq cq | 2 => fun s w => s 80 = .int .i64 (iq : Int) | 3 => fun s w => s 81 = .pointer (some ⟨bq, oq + iq * 2, none⟩) | 4 => fun s w => s 82 = .pointer (some ⟨bq, oq + iq * 2 + 1, none⟩) | 5 => fun s w => s 83 = .int .i64 m | 6 => fun s w => s 84 = .tuple #[.agg #[.string yn, .string yt, .int .i64 yc, .int .i64 yx], .int .i64 cd] | 7 => fun s w => s 77 = .tuple #[.agg #[.string yn, .string yt, .int .i64 yc, .int .i64 yx], .int .i64 cd] | 8 => fun s w => s 85 = .agg #[.string yn, .string yt, .int .i64 yc, .int .i64 yx] | 9 => fun s w => s 86 = .int .i64 cd | 10 => fun s w => w.heap[sb]? = some (.cells #[.string yn, .string yt, .int .i64 yc, .int .i64 yx] 33 (0, 0)) | _ => fun _ _ => True) ?phc ?phh ?pstep ?pdone
  case phc =>
    intro i s s' w hx h
    match i, hx, h with
    | 0, hx, h =>
      have e78 := hx 78 (by simp)
      first | exact (show _ from by simp only [← e78] at *; exact h) | (simp only [e78] at h; exact h)
    | 1, hx, h =>
      have e79 := hx 79 (by simp)
      first | exact (show _ from by simp only [← e79] at *; exact h) | (simp only [e79] at h; exact h)
    | 2, hx, h =>
      have e80 := hx 80 (by simp)
      first | exact (show _ from by simp only [← e80] at *; exact h) | (simp only [e80] at h; exact h)
    | 3, hx, h =>
      have e81 := hx 81 (by simp)
      first | exact (show _ from by simp only [← e81] at *; exact h) | (simp only [e81] at h; exact h)
    | 4, hx, h =>
      have e82 := hx 82 (by simp)
      first | exact (show _ from by simp only [← e82] at *; exact h) | (simp only [e82] at h; exact h)
    | 5, hx, h =>
      have e83 := hx 83 (by simp)
      first | exact (show _ from by simp only [← e83] at *; exact h) | (simp only [e83] at h; exact h)
    | 6, hx, h =>
      have e84 := hx 84 (by simp)
      first | exact (show _ from by simp only [← e84] at *; exact h) | (simp only [e84] at h; exact h)
    | 7, hx, h =>
      have e77 := hx 77 (by simp)
      first | exact (show _ from by simp only [← e77] at *; exact h) | (simp only [e77] at h; exact h)
    | 8, hx, h =>
      have e85 := hx 85 (by simp)
      first | exact (show _ from by simp only [← e85] at *; exact h) | (simp only [e85] at h; exact h)
    | 9, hx, h =>
      have e86 := hx 86 (by simp)
      first | exact (show _ from by simp only [← e86] at *; exact h) | (simp only [e86] at h; exact h)
    | 10, hx, h =>
      exact h
    | (n + 11), _, h => exact h
  case phh =>
    intro i j s w w' hij h r
    match i, hij, h with
    | 0, hij, h =>
      exact h
    | 1, hij, h =>
      exact h
    | 2, hij, h =>
      exact h
    | 3, hij, h =>
      exact h
    | 4, hij, h =>
      exact h
    | 5, hij, h =>
      exact h
    | 6, hij, h =>
      exact h
    | 7, hij, h =>
      exact h
    | 8, hij, h =>
      exact h
    | 9, hij, h =>
      exact h
    | 10, hij, h =>
      exact Below.at (r.1 (fun e => hij e.symm)) h
    | (n + 11), _, h => exact h
  case pstep =>
    intro i o ho a' w' bb hbb hsa hb hd
    match i, ho with
    | 0, ho =>
      obtain rfl := Option.some.inj ho
      try dsimp only at hd
      have hb0 := hb.1 (hbb (by kernel_rfl))
      have g14 : a'.tmps.getD 14 undef = .pointer (some ⟨sb, 0, none⟩) := hsa.rest 14 (by rfl)
      obtain ⟨⟨z0, z1, z2, z3⟩, _⟩ := box4 (Below.at hb0 HS.out)
      refine wpOp_of rfl rfl ?_
      refine op_run (v := .agg #[.string xn, .string xt, .int .i64 xc, .int .i64 xx]) (w' := w') ?_ ⟨_, rfl, ?_, ?_⟩
      · simp only [execOp, Act.eval, List.map_toArray, List.map_cons, List.map_nil, g14, z0, z1, z2, z3]; first | (go_simp; done) | rfl
      · try dsimp only
        exact (slots_put (ns := 160) (hsa.size.trans rfl) (by decide))
      · exact ⟨fun _ => Below.refl _ _, fun e => by cases e⟩
    | 1, ho =>
      obtain rfl := Option.some.inj ho
      try dsimp only at hd
      have g1 : a'.tmps.getD 1 undef = .slice (some ⟨bq, oq, none⟩) nq cq := hsa.rest 1 (by rfl)
      refine wpOp_of rfl rfl ?_
      refine op_run (v := .slice (some ⟨bq, oq, none⟩) nq cq) (w' := w') ?_ ⟨_, rfl, ?_, ?_⟩
      · simp only [execOp, Act.eval, List.map_toArray, List.map_cons, List.map_nil, g1]; first | (go_simp; done) | rfl
      · try dsimp only
        exact (slots_put (ns := 160) (hsa.size.trans rfl) (by decide))
      · exact ⟨fun _ => Below.refl _ _, fun e => by cases e⟩
    | 2, ho =>
      obtain rfl := Option.some.inj ho
      try dsimp only at hd
      have g16 : a'.tmps.getD 16 undef = .int .i64 (iq : Int) := hsa.rest 16 (by rfl)
      refine wpOp_of rfl rfl ?_
      refine op_run (v := .int .i64 (iq : Int)) (w' := w') ?_ ⟨_, rfl, ?_, ?_⟩
      · simp only [execOp, Act.eval, List.map_toArray, List.map_cons, List.map_nil, g16]; first | (go_simp; done) | rfl
      · try dsimp only
        exact (slots_put (ns := 160) (hsa.size.trans rfl) (by decide))
      · exact ⟨fun _ => Below.refl _ _, fun e => by cases e⟩
    | 3, ho =>
      obtain rfl := Option.some.inj ho
      try dsimp only at hd
      have d1 : a'.tmps.getD 79 undef = .slice (some ⟨bq, oq, none⟩) nq cq := hd 1 (by rfl)
      have d2 : a'.tmps.getD 80 undef = .int .i64 (iq : Int) := hd 2 (by rfl)
      have y1 := HI1.out
      have y2 := HI2.out
      have y3 := HI3.out
      refine wpOp_of rfl rfl ?_
      refine op_run (v := .pointer (some ⟨bq, oq + iq * 2, none⟩)) (w' := w') ?_ ⟨_, rfl, ?_, ?_⟩
      · simp only [execOp, Act.eval, List.map_toArray, List.map_cons, List.map_nil, d1, d2, y1, y2, y3]; first | (go_simp; done) | rfl
      · try dsimp only
        exact (slots_put (ns := 160) (hsa.size.trans rfl) (by decide))
      · exact ⟨fun _ => Below.refl _ _, fun e => by cases e⟩
    | 4, ho =>
      obtain rfl := Option.some.inj ho
      try dsimp only at hd
      have d3 : a'.tmps.getD 81 undef = .pointer (some ⟨bq, oq + iq * 2, none⟩) := hd 3 (by rfl)
      refine wpOp_of rfl rfl ?_
      refine op_run (v := .pointer (some ⟨bq, oq + iq * 2 + 1, none⟩)) (w' := w') ?_ ⟨_, rfl, ?_, ?_⟩
      · simp only [execOp, Act.eval, List.map_toArray, List.map_cons, List.map_nil, d3]; first | (go_simp; done) | rfl
      · try dsimp only
        exact (slots_put (ns := 160) (hsa.size.trans rfl) (by decide))
      · exact ⟨fun _ => Below.refl _ _, fun e => by cases e⟩
    | 5, ho =>
      obtain rfl := Option.some.inj ho
      try dsimp only at hd
      have hb0 := hb.1 (hbb (by kernel_rfl))
      have d4 : a'.tmps.getD 82 undef = .pointer (some ⟨bq, oq + iq * 2 + 1, none⟩) := hd 4 (by rfl)
      have y : w'.cell? ⟨bq, oq + iq * 2 + 1, none⟩ = some (.int .i64 m) := (hb0.cell (p := ⟨bq, oq + iq * 2 + 1, none⟩) HBL.out).trans HC.out
      refine wpOp_of rfl rfl ?_
      refine op_run (v := .int .i64 m) (w' := w') ?_ ⟨_, rfl, ?_, ?_⟩
      · simp only [execOp, Act.eval, List.map_toArray, List.map_cons, List.map_nil, d4, y]; first | (go_simp; done) | rfl
      · try dsimp only
        exact (slots_put (ns := 160) (hsa.size.trans rfl) (by decide))
      · exact ⟨fun _ => Below.refl _ _, fun e => by cases e⟩
    | 6, ho =>
      obtain rfl := Option.some.inj ho
      try dsimp only at hd
      have hb0 := hb.1 (hbb (by kernel_rfl))
      have d0 : a'.tmps.getD 78 undef = .agg #[.string xn, .string xt, .int .i64 xc, .int .i64 xx] := hd 0 (by rfl)
      have d5 : a'.tmps.getD 83 undef = .int .i64 m := hd 5 (by rfl)
      refine wpOp_of rfl rfl ?_
      refine op_call 16 _ _ rfl (enters_of Try.func16 (by kernel_rfl) rfl) [.agg #[.string xn, .string xt, .int .i64 xc, .int .i64 xx], .int .i64 m] (by simp only [List.map, Act.eval, d0, d5]) (HE.out w' hb0) ?_
      rintro e w'' ⟨rfl, b2⟩
      refine ⟨_, rfl, _, rfl, ?_, ?_⟩
      · try dsimp only
        exact (slots_put (ns := 160) (hsa.size.trans rfl) (by decide))
      · exact ⟨fun _ => b2, fun e => by cases e⟩
    | 7, ho =>
      obtain rfl := Option.some.inj ho
      try dsimp only at hd
      have d6 : a'.tmps.getD 84 undef = .tuple #[.agg #[.string yn, .string yt, .int .i64 yc, .int .i64 yx], .int .i64 cd] := hd 6 (by rfl)
      refine wpOp_of rfl rfl ?_
      refine op_run (v := .tuple #[.agg #[.string yn, .string yt, .int .i64 yc, .int .i64 yx], .int .i64 cd]) (w' := w') ?_ ⟨_, rfl, ?_, ?_⟩
      · simp only [execOp, Act.eval, List.map_toArray, List.map_cons, List.map_nil, d6]; first | (go_simp; done) | rfl
      · try dsimp only
        exact (slots_put (ns := 160) (hsa.size.trans rfl) (by decide))
      · exact ⟨fun _ => Below.refl _ _, fun e => by cases e⟩
    | 8, ho =>
      obtain rfl := Option.some.inj ho
      try dsimp only at hd
      have d7 : a'.tmps.getD 77 undef = .tuple #[.agg #[.string yn, .string yt, .int .i64 yc, .int .i64 yx], .int .i64 cd] := hd 7 (by rfl)
      refine wpOp_of rfl rfl ?_
      refine op_run (v := .agg #[.string yn, .string yt, .int .i64 yc, .int .i64 yx]) (w' := w') ?_ ⟨_, rfl, ?_, ?_⟩
      · simp only [execOp, Act.eval, List.map_toArray, List.map_cons, List.map_nil, d7]; first | (go_simp; done) | rfl
      · try dsimp only
        exact (slots_put (ns := 160) (hsa.size.trans rfl) (by decide))
      · exact ⟨fun _ => Below.refl _ _, fun e => by cases e⟩
    | 9, ho =>
      obtain rfl := Option.some.inj ho
      try dsimp only at hd
      have d7 : a'.tmps.getD 77 undef = .tuple #[.agg #[.string yn, .string yt, .int .i64 yc, .int .i64 yx], .int .i64 cd] := hd 7 (by rfl)
      refine wpOp_of rfl rfl ?_
      refine op_run (v := .int .i64 cd) (w' := w') ?_ ⟨_, rfl, ?_, ?_⟩
      · simp only [execOp, Act.eval, List.map_toArray, List.map_cons, List.map_nil, d7]; first | (go_simp; done) | rfl
      · try dsimp only
        exact (slots_put (ns := 160) (hsa.size.trans rfl) (by decide))
      · exact ⟨fun _ => Below.refl _ _, fun e => by cases e⟩
    | 10, ho =>
      obtain rfl := Option.some.inj ho
      try dsimp only at hd
      have hb0 := hb.1 (hbb (by kernel_rfl))
      have d8 : a'.tmps.getD 85 undef = .agg #[.string yn, .string yt, .int .i64 yc, .int .i64 yx] := hd 8 (by rfl)
      have g14 : a'.tmps.getD 14 undef = .pointer (some ⟨sb, 0, none⟩) := hsa.rest 14 (by rfl)
      obtain ⟨⟨z0, z1, z2, z3⟩, f0, f1, f2, f3⟩ := box4 (Below.at hb0 HS.out)
      refine wpOp_of rfl rfl ?_
      refine op_skip (w' := ((((w'.setCell ⟨sb, 0, none⟩ (.string yn)).setCell ⟨sb, 1, none⟩ (.string yt)).setCell ⟨sb, 2, none⟩ (.int .i64 yc)).setCell ⟨sb, 3, none⟩ (.int .i64 yx))) ?_ ⟨undef, rfl, ?_, ?_⟩
      · simp only [execOp, Act.eval, d8, g14]; first | (go_simp; done) | rfl
      · try dsimp only
        exact set4_box (Below.at hb0 HS.out)
      · exact ⟨fun e => absurd rfl e, fun _ => set4_touch _ _⟩
    | (n + 11), ho => exact absurd ho (by simp)
  case pdone =>
    intro a' w' hsa hb hd
    have d0 : a'.tmps.getD 78 undef = .agg #[.string xn, .string xt, .int .i64 xc, .int .i64 xx] := hd 0 (by decide)
    have d1 : a'.tmps.getD 79 undef = .slice (some ⟨bq, oq, none⟩) nq cq := hd 1 (by decide)
    have d2 : a'.tmps.getD 80 undef = .int .i64 (iq : Int) := hd 2 (by decide)
    have d3 : a'.tmps.getD 81 undef = .pointer (some ⟨bq, oq + iq * 2, none⟩) := hd 3 (by decide)
    have d4 : a'.tmps.getD 82 undef = .pointer (some ⟨bq, oq + iq * 2 + 1, none⟩) := hd 4 (by decide)
    have d5 : a'.tmps.getD 83 undef = .int .i64 m := hd 5 (by decide)
    have d6 : a'.tmps.getD 84 undef = .tuple #[.agg #[.string yn, .string yt, .int .i64 yc, .int .i64 yx], .int .i64 cd] := hd 6 (by decide)
    have d7 : a'.tmps.getD 77 undef = .tuple #[.agg #[.string yn, .string yt, .int .i64 yc, .int .i64 yx], .int .i64 cd] := hd 7 (by decide)
    have d8 : a'.tmps.getD 85 undef = .agg #[.string yn, .string yt, .int .i64 yc, .int .i64 yx] := hd 8 (by decide)
    have d9 : a'.tmps.getD 86 undef = .int .i64 cd := hd 9 (by decide)
    have d10 : w'.heap[sb]? = some (.cells #[.string yn, .string yt, .int .i64 yc, .int .i64 yx] 33 (0, 0)) := hd 10 (by decide)
    exact HQ.out _ _ ⟨hsa.size.trans rfl, hsa.defers.trans rfl, hsa.rest 0 (by rfl), hsa.rest 1 (by rfl), hsa.rest 2 (by rfl), hsa.rest 3 (by rfl), hsa.rest 8 (by rfl), hsa.rest 9 (by rfl), hsa.rest 10 (by rfl), hsa.rest 12 (by rfl), hsa.rest 13 (by rfl), hsa.rest 14 (by rfl), hsa.rest 16 (by rfl), hsa.rest 17 (by rfl), hsa.rest 18 (by rfl), hsa.rest 19 (by rfl), hsa.rest 20 (by rfl), hsa.rest 58 (by rfl)⟩ hb.2 d10
set_option maxHeartbeats 8000000 in
set_option maxRecDepth 100000 in
theorem se_r15 {K : Act → World → Prop} {c : Code} (hc : regOf (Try.f6.body.getD .skip) 15 = some c) (a : Act) {v : Vse} {wq : World} {sb : Nat} {xn xt yn yt : ByteArray} {xc xx yc yx : Int}  (hF : Fse a v) (h14v : v.v14 = .pointer (some ⟨sb, 0, none⟩)) (hS : wq.heap[sb]? = some (.cells #[.string xn, .string xt, .int .i64 xc, .int .i64 xx] 33 (0, 0))) (hE : Calls Try.prog 13 #[.agg #[.string xn, .string xt, .int .i64 xc, .int .i64 xx]] wq fun e w' => e = .returned (.agg #[.string yn, .string yt, .int .i64 yc, .int .i64 yx]) ∧ Below wq.heap.size wq w')
    (hQ : ∀ a' w1, Fse a' v → Below wq.heap.size wq w1 → K a' (set4 w1 sb (.string yn) (.string yt) (.int .i64 yc) (.int .i64 yx))) :
    Code.wp Try.prog c (Exit.then K fun _ _ _ => False) a wq := by
  have HQ := hide hQ
  clear hQ
  obtain ⟨t', d'⟩ := a
  obtain ⟨v0, v1, v2, v3, v8, v9, v10, v12, v13, v14, v16, v17, v18, v19, v20, v58⟩ := v
  simp only at h14v HQ
  subst h14v
  obtain ⟨hs1, hd1, q0, q1, q2, q3, q8, q9, q10, q12, q13, q14, q16, q17, q18, q19, q20, q58⟩ := hF
  obtain ⟨u, hu⟩ := frame_se t' hs1
  simp only at hd1 q0 q1 q2 q3 q8 q9 q10 q12 q13 q14 q16 q17 q18 q19 q20 q58
  subst hu hd1
  have e0 : u 0 = v0 := q0
  have e1 : u 1 = v1 := q1
  have e2 : u 2 = v2 := q2
  have e3 : u 3 = v3 := q3
  have e8 : u 8 = v8 := q8
  have e9 : u 9 = v9 := q9
  have e10 : u 10 = v10 := q10
  have e12 : u 12 = v12 := q12
  have e13 : u 13 = v13 := q13
  have e14 : u 14 = .pointer (some ⟨sb, 0, none⟩) := q14
  have e16 : u 16 = v16 := q16
  have e17 : u 17 = v17 := q17
  have e18 : u 18 = v18 := q18
  have e19 : u 19 = v19 := q19
  have e20 : u 20 = v20 := q20
  have e58 : u 58 = v58 := q58
  rw [e0, e1, e2, e3, e8, e9, e10, e12, e13, e14, e16, e17, e18, e19, e20, e58]
  clear q0 e0 q1 e1 q2 e2 q3 e3 q8 e8 q9 e9 q10 e10 q12 e12 q13 e13 q14 e14 q16 e16 q17 e17 q18 e18 q19 e19 q20 e20 q58 e58 hs1
  simp only [Try.f6, Option.getD_some, regOf] at hc
  injection hc with hc
  subst hc
  generalize u 4 = u4
  generalize u 5 = u5
  generalize u 6 = u6
  generalize u 7 = u7
  generalize u 11 = u11
  generalize u 15 = u15
  generalize u 21 = u21
  generalize u 22 = u22
  generalize u 23 = u23
  generalize u 24 = u24
  generalize u 25 = u25
  generalize u 26 = u26
  generalize u 27 = u27
  generalize u 28 = u28
  generalize u 29 = u29
  generalize u 30 = u30
  generalize u 31 = u31
  generalize u 32 = u32
  generalize u 33 = u33
  generalize u 34 = u34
  generalize u 35 = u35
  generalize u 36 = u36
  generalize u 37 = u37
  generalize u 38 = u38
  generalize u 39 = u39
  generalize u 40 = u40
  generalize u 41 = u41
  generalize u 42 = u42
  generalize u 43 = u43
  generalize u 44 = u44
  generalize u 45 = u45
  generalize u 46 = u46
  generalize u 47 = u47
  generalize u 48 = u48
  generalize u 49 = u49
  generalize u 50 = u50
  generalize u 51 = u51
  generalize u 52 = u52
  generalize u 53 = u53
  generalize u 54 = u54
  generalize u 55 = u55
  generalize u 56 = u56
  generalize u 57 = u57
  generalize u 59 = u59
  generalize u 60 = u60
  generalize u 61 = u61
  generalize u 62 = u62
  generalize u 63 = u63
  generalize u 64 = u64
  generalize u 65 = u65
  generalize u 66 = u66
  generalize u 67 = u67
  generalize u 68 = u68
  generalize u 69 = u69
  generalize u 70 = u70
  generalize u 71 = u71
  generalize u 72 = u72
  generalize u 73 = u73
  generalize u 74 = u74
  generalize u 75 = u75
  generalize u 76 = u76
  generalize u 77 = u77
  generalize u 78 = u78
  generalize u 79 = u79
  generalize u 80 = u80
  generalize u 81 = u81
  generalize u 82 = u82
  generalize u 83 = u83
  generalize u 84 = u84
  generalize u 85 = u85
  generalize u 86 = u86
  generalize u 87 = u87
  generalize u 88 = u88
  generalize u 89 = u89
  generalize u 90 = u90
  generalize u 91 = u91
  generalize u 92 = u92
  generalize u 93 = u93
  generalize u 94 = u94
  generalize u 95 = u95
  generalize u 96 = u96
  generalize u 97 = u97
  generalize u 98 = u98
  generalize u 99 = u99
  generalize u 100 = u100
  generalize u 101 = u101
  generalize u 102 = u102
  generalize u 103 = u103
  generalize u 104 = u104
  generalize u 105 = u105
  generalize u 106 = u106
  generalize u 107 = u107
  generalize u 108 = u108
  generalize u 109 = u109
  generalize u 110 = u110
  generalize u 111 = u111
  generalize u 112 = u112
  generalize u 113 = u113
  generalize u 114 = u114
  generalize u 115 = u115
  generalize u 116 = u116
  generalize u 117 = u117
  generalize u 118 = u118
  generalize u 119 = u119
  generalize u 120 = u120
  generalize u 121 = u121
  generalize u 122 = u122
  generalize u 123 = u123
  generalize u 124 = u124
  generalize u 125 = u125
  generalize u 126 = u126
  generalize u 127 = u127
  generalize u 128 = u128
  generalize u 129 = u129
  generalize u 130 = u130
  generalize u 131 = u131
  generalize u 132 = u132
  generalize u 133 = u133
  generalize u 134 = u134
  generalize u 135 = u135
  generalize u 136 = u136
  generalize u 137 = u137
  generalize u 138 = u138
  generalize u 139 = u139
  generalize u 140 = u140
  generalize u 141 = u141
  generalize u 142 = u142
  generalize u 143 = u143
  generalize u 144 = u144
  generalize u 145 = u145
  generalize u 146 = u146
  generalize u 147 = u147
  generalize u 148 = u148
  generalize u 149 = u149
  generalize u 150 = u150
  generalize u 151 = u151
  generalize u 152 = u152
  generalize u 153 = u153
  generalize u 154 = u154
  generalize u 155 = u155
  generalize u 156 = u156
  generalize u 157 = u157
  generalize u 158 = u158
  generalize u 159 = u159
  clear u
  have HE := hide hE
  have HS := hide hS
  obtain ⟨⟨c0, c1, c2, c3⟩, _⟩ := box4 hS
  unfold set4 at HQ
  clear hE hS
  go_wp2_with (go_at_call 13; refine HE.out.mono ?_; rintro e w1 ⟨rfl, b1⟩; have hR2 := Below.at b1 HS.out; obtain ⟨⟨d0, d1, d2, d3⟩, f0, f1, f2, f3⟩ := box4 hR2; have B1 := hide b1; clear b1 hR2 c0 c1 c2 c3)
  exact HQ.out _ _ ⟨rfl, rfl, rfl, rfl, rfl, rfl, rfl, rfl, rfl, rfl, rfl, rfl, rfl, rfl, rfl, rfl, rfl, rfl⟩ B1.out
set_option maxHeartbeats 8000000 in
set_option maxRecDepth 100000 in
theorem se_r13 {K : Act → World → Prop} {c : Code} (hc : regOf (Try.f6.body.getD .skip) 13 = some c) (a : Act) {v : Vse} {wq : World} {i : Nat} (hF : Fse a v) (h16v : v.v16 = .int .i64 (i : Int)) (hi : i ≤ 1000000)
    (hQ : ∀ a', Fse a' { v with v16 := .int .i64 ((i + 1 : Nat) : Int) } → K a' wq) :
    Code.wp Try.prog c (Exit.then K fun _ _ _ => False) a wq := by
  have HQ := hide hQ
  clear hQ
  obtain ⟨t', d'⟩ := a
  obtain ⟨v0, v1, v2, v3, v8, v9, v10, v12, v13, v14, v16, v17, v18, v19, v20, v58⟩ := v
  simp only at h16v HQ
  subst h16v
  obtain ⟨hs1, hd1, q0, q1, q2, q3, q8, q9, q10, q12, q13, q14, q16, q17, q18, q19, q20, q58⟩ := hF
  obtain ⟨u, hu⟩ := frame_se t' hs1
  simp only at hd1 q0 q1 q2 q3 q8 q9 q10 q12 q13 q14 q16 q17 q18 q19 q20 q58
  subst hu hd1
  have e0 : u 0 = v0 := q0
  have e1 : u 1 = v1 := q1
  have e2 : u 2 = v2 := q2
  have e3 : u 3 = v3 := q3
  have e8 : u 8 = v8 := q8
  have e9 : u 9 = v9 := q9
  have e10 : u 10 = v10 := q10
  have e12 : u 12 = v12 := q12
  have e13 : u 13 = v13 := q13
  have e14 : u 14 = v14 := q14
  have e16 : u 16 = .int .i64 (i : Int) := q16
  have e17 : u 17 = v17 := q17
  have e18 : u 18 = v18 := q18
  have e19 : u 19 = v19 := q19
  have e20 : u 20 = v20 := q20
  have e58 : u 58 = v58 := q58
  rw [e0, e1, e2, e3, e8, e9, e10, e12, e13, e14, e16, e17, e18, e19, e20, e58]
  clear q0 e0 q1 e1 q2 e2 q3 e3 q8 e8 q9 e9 q10 e10 q12 e12 q13 e13 q14 e14 q16 e16 q17 e17 q18 e18 q19 e19 q20 e20 q58 e58 hs1
  simp only [Try.f6, Option.getD_some, regOf] at hc
  injection hc with hc
  subst hc
  generalize u 4 = u4
  generalize u 5 = u5
  generalize u 6 = u6
  generalize u 7 = u7
  generalize u 11 = u11
  generalize u 15 = u15
  generalize u 21 = u21
  generalize u 22 = u22
  generalize u 23 = u23
  generalize u 24 = u24
  generalize u 25 = u25
  generalize u 26 = u26
  generalize u 27 = u27
  generalize u 28 = u28
  generalize u 29 = u29
  generalize u 30 = u30
  generalize u 31 = u31
  generalize u 32 = u32
  generalize u 33 = u33
  generalize u 34 = u34
  generalize u 35 = u35
  generalize u 36 = u36
  generalize u 37 = u37
  generalize u 38 = u38
  generalize u 39 = u39
  generalize u 40 = u40
  generalize u 41 = u41
  generalize u 42 = u42
  generalize u 43 = u43
  generalize u 44 = u44
  generalize u 45 = u45
  generalize u 46 = u46
  generalize u 47 = u47
  generalize u 48 = u48
  generalize u 49 = u49
  generalize u 50 = u50
  generalize u 51 = u51
  generalize u 52 = u52
  generalize u 53 = u53
  generalize u 54 = u54
  generalize u 55 = u55
  generalize u 56 = u56
  generalize u 57 = u57
  generalize u 59 = u59
  generalize u 60 = u60
  generalize u 61 = u61
  generalize u 62 = u62
  generalize u 63 = u63
  generalize u 64 = u64
  generalize u 65 = u65
  generalize u 66 = u66
  generalize u 67 = u67
  generalize u 68 = u68
  generalize u 69 = u69
  generalize u 70 = u70
  generalize u 71 = u71
  generalize u 72 = u72
  generalize u 73 = u73
  generalize u 74 = u74
  generalize u 75 = u75
  generalize u 76 = u76
  generalize u 77 = u77
  generalize u 78 = u78
  generalize u 79 = u79
  generalize u 80 = u80
  generalize u 81 = u81
  generalize u 82 = u82
  generalize u 83 = u83
  generalize u 84 = u84
  generalize u 85 = u85
  generalize u 86 = u86
  generalize u 87 = u87
  generalize u 88 = u88
  generalize u 89 = u89
  generalize u 90 = u90
  generalize u 91 = u91
  generalize u 92 = u92
  generalize u 93 = u93
  generalize u 94 = u94
  generalize u 95 = u95
  generalize u 96 = u96
  generalize u 97 = u97
  generalize u 98 = u98
  generalize u 99 = u99
  generalize u 100 = u100
  generalize u 101 = u101
  generalize u 102 = u102
  generalize u 103 = u103
  generalize u 104 = u104
  generalize u 105 = u105
  generalize u 106 = u106
  generalize u 107 = u107
  generalize u 108 = u108
  generalize u 109 = u109
  generalize u 110 = u110
  generalize u 111 = u111
  generalize u 112 = u112
  generalize u 113 = u113
  generalize u 114 = u114
  generalize u 115 = u115
  generalize u 116 = u116
  generalize u 117 = u117
  generalize u 118 = u118
  generalize u 119 = u119
  generalize u 120 = u120
  generalize u 121 = u121
  generalize u 122 = u122
  generalize u 123 = u123
  generalize u 124 = u124
  generalize u 125 = u125
  generalize u 126 = u126
  generalize u 127 = u127
  generalize u 128 = u128
  generalize u 129 = u129
  generalize u 130 = u130
  generalize u 131 = u131
  generalize u 132 = u132
  generalize u 133 = u133
  generalize u 134 = u134
  generalize u 135 = u135
  generalize u 136 = u136
  generalize u 137 = u137
  generalize u 138 = u138
  generalize u 139 = u139
  generalize u 140 = u140
  generalize u 141 = u141
  generalize u 142 = u142
  generalize u 143 = u143
  generalize u 144 = u144
  generalize u 145 = u145
  generalize u 146 = u146
  generalize u 147 = u147
  generalize u 148 = u148
  generalize u 149 = u149
  generalize u 150 = u150
  generalize u 151 = u151
  generalize u 152 = u152
  generalize u 153 = u153
  generalize u 154 = u154
  generalize u 155 = u155
  generalize u 156 = u156
  generalize u 157 = u157
  generalize u 158 = u158
  generalize u 159 = u159
  clear u
  go_wp2
  exact HQ.out _ ⟨rfl, rfl, rfl, rfl, rfl, rfl, rfl, rfl, rfl, rfl, rfl, rfl, (by first | rfl | (simp; done) | (go_num; done)), rfl, rfl, rfl, rfl, rfl⟩
set_option maxHeartbeats 8000000 in
set_option maxRecDepth 100000 in
theorem se_r20 {K : Act → World → Prop} {c : Code} (hc : regOf (Try.f6.body.getD .skip) 20 = some c) (a : Act) {v : Vse} {wq : World} {m : Int} {n x : Nat} (hF : Fse a v) (h2v : v.v2 = .int .i64 m) (h12v : v.v12 = .int .i64 (n : Int)) (hn : n ≤ 1000)
    (hE : Calls Try.prog 9 #[.int .i64 m, .int .i64 ((n : Int) + 1)] wq fun e w' => e = .returned (.int .i64 (x : Int)) ∧ w' = wq)
    (hQ : ∀ a' w' , Fse a' { v with v2 := .int .i64 (x : Int) } → w' = wq → K a' w') :
    Code.wp Try.prog c (Exit.then K fun _ _ _ => False) a wq := by
  have HQ := hide hQ
  clear hQ
  obtain ⟨t', d'⟩ := a
  obtain ⟨v0, v1, v2, v3, v8, v9, v10, v12, v13, v14, v16, v17, v18, v19, v20, v58⟩ := v
  simp only at h2v h12v HQ
  subst h2v h12v
  obtain ⟨hs1, hd1, q0, q1, q2, q3, q8, q9, q10, q12, q13, q14, q16, q17, q18, q19, q20, q58⟩ := hF
  obtain ⟨u, hu⟩ := frame_se t' hs1
  simp only at hd1 q0 q1 q2 q3 q8 q9 q10 q12 q13 q14 q16 q17 q18 q19 q20 q58
  subst hu hd1
  have e0 : u 0 = v0 := q0
  have e1 : u 1 = v1 := q1
  have e2 : u 2 = .int .i64 m := q2
  have e3 : u 3 = v3 := q3
  have e8 : u 8 = v8 := q8
  have e9 : u 9 = v9 := q9
  have e10 : u 10 = v10 := q10
  have e12 : u 12 = .int .i64 (n : Int) := q12
  have e13 : u 13 = v13 := q13
  have e14 : u 14 = v14 := q14
  have e16 : u 16 = v16 := q16
  have e17 : u 17 = v17 := q17
  have e18 : u 18 = v18 := q18
  have e19 : u 19 = v19 := q19
  have e20 : u 20 = v20 := q20
  have e58 : u 58 = v58 := q58
  rw [e0, e1, e2, e3, e8, e9, e10, e12, e13, e14, e16, e17, e18, e19, e20, e58]
  clear q0 e0 q1 e1 q2 e2 q3 e3 q8 e8 q9 e9 q10 e10 q12 e12 q13 e13 q14 e14 q16 e16 q17 e17 q18 e18 q19 e19 q20 e20 q58 e58 hs1
  simp only [Try.f6, Option.getD_some, regOf] at hc
  injection hc with hc
  subst hc
  generalize u 4 = u4
  generalize u 5 = u5
  generalize u 6 = u6
  generalize u 7 = u7
  generalize u 11 = u11
  generalize u 15 = u15
  generalize u 21 = u21
  generalize u 22 = u22
  generalize u 23 = u23
  generalize u 24 = u24
  generalize u 25 = u25
  generalize u 26 = u26
  generalize u 27 = u27
  generalize u 28 = u28
  generalize u 29 = u29
  generalize u 30 = u30
  generalize u 31 = u31
  generalize u 32 = u32
  generalize u 33 = u33
  generalize u 34 = u34
  generalize u 35 = u35
  generalize u 36 = u36
  generalize u 37 = u37
  generalize u 38 = u38
  generalize u 39 = u39
  generalize u 40 = u40
  generalize u 41 = u41
  generalize u 42 = u42
  generalize u 43 = u43
  generalize u 44 = u44
  generalize u 45 = u45
  generalize u 46 = u46
  generalize u 47 = u47
  generalize u 48 = u48
  generalize u 49 = u49
  generalize u 50 = u50
  generalize u 51 = u51
  generalize u 52 = u52
  generalize u 53 = u53
  generalize u 54 = u54
  generalize u 55 = u55
  generalize u 56 = u56
  generalize u 57 = u57
  generalize u 59 = u59
  generalize u 60 = u60
  generalize u 61 = u61
  generalize u 62 = u62
  generalize u 63 = u63
  generalize u 64 = u64
  generalize u 65 = u65
  generalize u 66 = u66
  generalize u 67 = u67
  generalize u 68 = u68
  generalize u 69 = u69
  generalize u 70 = u70
  generalize u 71 = u71
  generalize u 72 = u72
  generalize u 73 = u73
  generalize u 74 = u74
  generalize u 75 = u75
  generalize u 76 = u76
  generalize u 77 = u77
  generalize u 78 = u78
  generalize u 79 = u79
  generalize u 80 = u80
  generalize u 81 = u81
  generalize u 82 = u82
  generalize u 83 = u83
  generalize u 84 = u84
  generalize u 85 = u85
  generalize u 86 = u86
  generalize u 87 = u87
  generalize u 88 = u88
  generalize u 89 = u89
  generalize u 90 = u90
  generalize u 91 = u91
  generalize u 92 = u92
  generalize u 93 = u93
  generalize u 94 = u94
  generalize u 95 = u95
  generalize u 96 = u96
  generalize u 97 = u97
  generalize u 98 = u98
  generalize u 99 = u99
  generalize u 100 = u100
  generalize u 101 = u101
  generalize u 102 = u102
  generalize u 103 = u103
  generalize u 104 = u104
  generalize u 105 = u105
  generalize u 106 = u106
  generalize u 107 = u107
  generalize u 108 = u108
  generalize u 109 = u109
  generalize u 110 = u110
  generalize u 111 = u111
  generalize u 112 = u112
  generalize u 113 = u113
  generalize u 114 = u114
  generalize u 115 = u115
  generalize u 116 = u116
  generalize u 117 = u117
  generalize u 118 = u118
  generalize u 119 = u119
  generalize u 120 = u120
  generalize u 121 = u121
  generalize u 122 = u122
  generalize u 123 = u123
  generalize u 124 = u124
  generalize u 125 = u125
  generalize u 126 = u126
  generalize u 127 = u127
  generalize u 128 = u128
  generalize u 129 = u129
  generalize u 130 = u130
  generalize u 131 = u131
  generalize u 132 = u132
  generalize u 133 = u133
  generalize u 134 = u134
  generalize u 135 = u135
  generalize u 136 = u136
  generalize u 137 = u137
  generalize u 138 = u138
  generalize u 139 = u139
  generalize u 140 = u140
  generalize u 141 = u141
  generalize u 142 = u142
  generalize u 143 = u143
  generalize u 144 = u144
  generalize u 145 = u145
  generalize u 146 = u146
  generalize u 147 = u147
  generalize u 148 = u148
  generalize u 149 = u149
  generalize u 150 = u150
  generalize u 151 = u151
  generalize u 152 = u152
  generalize u 153 = u153
  generalize u 154 = u154
  generalize u 155 = u155
  generalize u 156 = u156
  generalize u 157 = u157
  generalize u 158 = u158
  generalize u 159 = u159
  clear u
  have HE := hide hE
  clear hE
  go_wp2_with (go_at_call 9; refine HE.out.mono ?_; rintro e w1 ⟨rfl, r1⟩; have R1 := hide r1; clear r1)
  exact HQ.out _ _ ⟨rfl, rfl, rfl, rfl, rfl, rfl, rfl, rfl, rfl, rfl, rfl, rfl, rfl, rfl, rfl, rfl, rfl, rfl⟩ R1.out
set_option maxHeartbeats 8000000 in
set_option maxRecDepth 100000 in
theorem se_r21 {K : Act → World → Prop} {c : Code} (hc : regOf (Try.f6.body.getD .skip) 21 = some c) (a : Act) {v : Vse} {wq : World} {m : Int} {p : Nat} (hF : Fse a v) (h3v : v.v3 = .int .i64 m) (hp : p ≤ 1000)
    (hE : Calls Try.prog 9 #[.int .i64 m, .int .i64 50] wq fun e w' => e = .returned (.int .i64 (p : Int)) ∧ w' = wq)
    (hQ : ∀ a' w' , Fse a' { v with v3 := .int .i64 (1 + (p : Int)) } → w' = wq → K a' w') :
    Code.wp Try.prog c (Exit.then K fun _ _ _ => False) a wq := by
  have HQ := hide hQ
  clear hQ
  obtain ⟨t', d'⟩ := a
  obtain ⟨v0, v1, v2, v3, v8, v9, v10, v12, v13, v14, v16, v17, v18, v19, v20, v58⟩ := v
  simp only at h3v HQ
  subst h3v
  obtain ⟨hs1, hd1, q0, q1, q2, q3, q8, q9, q10, q12, q13, q14, q16, q17, q18, q19, q20, q58⟩ := hF
  obtain ⟨u, hu⟩ := frame_se t' hs1
  simp only at hd1 q0 q1 q2 q3 q8 q9 q10 q12 q13 q14 q16 q17 q18 q19 q20 q58
  subst hu hd1
  have e0 : u 0 = v0 := q0
  have e1 : u 1 = v1 := q1
  have e2 : u 2 = v2 := q2
  have e3 : u 3 = .int .i64 m := q3
  have e8 : u 8 = v8 := q8
  have e9 : u 9 = v9 := q9
  have e10 : u 10 = v10 := q10
  have e12 : u 12 = v12 := q12
  have e13 : u 13 = v13 := q13
  have e14 : u 14 = v14 := q14
  have e16 : u 16 = v16 := q16
  have e17 : u 17 = v17 := q17
  have e18 : u 18 = v18 := q18
  have e19 : u 19 = v19 := q19
  have e20 : u 20 = v20 := q20
  have e58 : u 58 = v58 := q58
  rw [e0, e1, e2, e3, e8, e9, e10, e12, e13, e14, e16, e17, e18, e19, e20, e58]
  clear q0 e0 q1 e1 q2 e2 q3 e3 q8 e8 q9 e9 q10 e10 q12 e12 q13 e13 q14 e14 q16 e16 q17 e17 q18 e18 q19 e19 q20 e20 q58 e58 hs1
  simp only [Try.f6, Option.getD_some, regOf] at hc
  injection hc with hc
  subst hc
  generalize u 4 = u4
  generalize u 5 = u5
  generalize u 6 = u6
  generalize u 7 = u7
  generalize u 11 = u11
  generalize u 15 = u15
  generalize u 21 = u21
  generalize u 22 = u22
  generalize u 23 = u23
  generalize u 24 = u24
  generalize u 25 = u25
  generalize u 26 = u26
  generalize u 27 = u27
  generalize u 28 = u28
  generalize u 29 = u29
  generalize u 30 = u30
  generalize u 31 = u31
  generalize u 32 = u32
  generalize u 33 = u33
  generalize u 34 = u34
  generalize u 35 = u35
  generalize u 36 = u36
  generalize u 37 = u37
  generalize u 38 = u38
  generalize u 39 = u39
  generalize u 40 = u40
  generalize u 41 = u41
  generalize u 42 = u42
  generalize u 43 = u43
  generalize u 44 = u44
  generalize u 45 = u45
  generalize u 46 = u46
  generalize u 47 = u47
  generalize u 48 = u48
  generalize u 49 = u49
  generalize u 50 = u50
  generalize u 51 = u51
  generalize u 52 = u52
  generalize u 53 = u53
  generalize u 54 = u54
  generalize u 55 = u55
  generalize u 56 = u56
  generalize u 57 = u57
  generalize u 59 = u59
  generalize u 60 = u60
  generalize u 61 = u61
  generalize u 62 = u62
  generalize u 63 = u63
  generalize u 64 = u64
  generalize u 65 = u65
  generalize u 66 = u66
  generalize u 67 = u67
  generalize u 68 = u68
  generalize u 69 = u69
  generalize u 70 = u70
  generalize u 71 = u71
  generalize u 72 = u72
  generalize u 73 = u73
  generalize u 74 = u74
  generalize u 75 = u75
  generalize u 76 = u76
  generalize u 77 = u77
  generalize u 78 = u78
  generalize u 79 = u79
  generalize u 80 = u80
  generalize u 81 = u81
  generalize u 82 = u82
  generalize u 83 = u83
  generalize u 84 = u84
  generalize u 85 = u85
  generalize u 86 = u86
  generalize u 87 = u87
  generalize u 88 = u88
  generalize u 89 = u89
  generalize u 90 = u90
  generalize u 91 = u91
  generalize u 92 = u92
  generalize u 93 = u93
  generalize u 94 = u94
  generalize u 95 = u95
  generalize u 96 = u96
  generalize u 97 = u97
  generalize u 98 = u98
  generalize u 99 = u99
  generalize u 100 = u100
  generalize u 101 = u101
  generalize u 102 = u102
  generalize u 103 = u103
  generalize u 104 = u104
  generalize u 105 = u105
  generalize u 106 = u106
  generalize u 107 = u107
  generalize u 108 = u108
  generalize u 109 = u109
  generalize u 110 = u110
  generalize u 111 = u111
  generalize u 112 = u112
  generalize u 113 = u113
  generalize u 114 = u114
  generalize u 115 = u115
  generalize u 116 = u116
  generalize u 117 = u117
  generalize u 118 = u118
  generalize u 119 = u119
  generalize u 120 = u120
  generalize u 121 = u121
  generalize u 122 = u122
  generalize u 123 = u123
  generalize u 124 = u124
  generalize u 125 = u125
  generalize u 126 = u126
  generalize u 127 = u127
  generalize u 128 = u128
  generalize u 129 = u129
  generalize u 130 = u130
  generalize u 131 = u131
  generalize u 132 = u132
  generalize u 133 = u133
  generalize u 134 = u134
  generalize u 135 = u135
  generalize u 136 = u136
  generalize u 137 = u137
  generalize u 138 = u138
  generalize u 139 = u139
  generalize u 140 = u140
  generalize u 141 = u141
  generalize u 142 = u142
  generalize u 143 = u143
  generalize u 144 = u144
  generalize u 145 = u145
  generalize u 146 = u146
  generalize u 147 = u147
  generalize u 148 = u148
  generalize u 149 = u149
  generalize u 150 = u150
  generalize u 151 = u151
  generalize u 152 = u152
  generalize u 153 = u153
  generalize u 154 = u154
  generalize u 155 = u155
  generalize u 156 = u156
  generalize u 157 = u157
  generalize u 158 = u158
  generalize u 159 = u159
  clear u
  have HE := hide hE
  clear hE
  go_wp2_with (go_at_call 9; refine HE.out.mono ?_; rintro e w1 ⟨rfl, r1⟩; have R1 := hide r1; clear r1)
  exact HQ.out _ _ ⟨rfl, rfl, rfl, rfl, rfl, rfl, rfl, rfl, rfl, rfl, rfl, rfl, rfl, rfl, rfl, rfl, rfl, rfl⟩ R1.out
set_option maxHeartbeats 8000000 in
set_option maxRecDepth 100000 in
theorem se_r22 {K : Act → World → Prop} {c : Code} (hc : regOf (Try.f6.body.getD .skip) 22 = some c) (a : Act) {v : Vse} {wq : World} {sb : Nat} {xn xt yn yt : ByteArray} {xc xx yc yx cd : Int} {L : LOC} {m : Int} (hF : Fse a v) (h14v : v.v14 = .pointer (some ⟨sb, 0, none⟩)) (h2v : v.v2 = .int .i64 m) (h10v : v.v10 = .pointer (some ⟨L.b, 0, none⟩)) (hS : wq.heap[sb]? = some (.cells #[.string xn, .string xt, .int .i64 xc, .int .i64 xx] 33 (0, 0))) (hE : Calls Try.prog 17 #[.agg #[.string xn, .string xt, .int .i64 xc, .int .i64 xx], .pointer (some ⟨L.b, 0, none⟩), .int .i64 m] wq fun e w' => e = .returned (.tuple #[.agg #[.string yn, .string yt, .int .i64 yc, .int .i64 yx], .int .i64 cd]) ∧ Below wq.heap.size wq w')
    (hQ : ∀ a' w1, Fse a' { v with v17 := .int .i64 cd } → Below wq.heap.size wq w1 → K a' (set4 w1 sb (.string yn) (.string yt) (.int .i64 yc) (.int .i64 yx))) :
    Code.wp Try.prog c (Exit.then K fun _ _ _ => False) a wq := by
  have HQ := hide hQ
  clear hQ
  obtain ⟨t', d'⟩ := a
  obtain ⟨v0, v1, v2, v3, v8, v9, v10, v12, v13, v14, v16, v17, v18, v19, v20, v58⟩ := v
  simp only at h14v h2v h10v HQ
  subst h14v h2v h10v
  obtain ⟨hs1, hd1, q0, q1, q2, q3, q8, q9, q10, q12, q13, q14, q16, q17, q18, q19, q20, q58⟩ := hF
  obtain ⟨u, hu⟩ := frame_se t' hs1
  simp only at hd1 q0 q1 q2 q3 q8 q9 q10 q12 q13 q14 q16 q17 q18 q19 q20 q58
  subst hu hd1
  have e0 : u 0 = v0 := q0
  have e1 : u 1 = v1 := q1
  have e2 : u 2 = .int .i64 m := q2
  have e3 : u 3 = v3 := q3
  have e8 : u 8 = v8 := q8
  have e9 : u 9 = v9 := q9
  have e10 : u 10 = .pointer (some ⟨L.b, 0, none⟩) := q10
  have e12 : u 12 = v12 := q12
  have e13 : u 13 = v13 := q13
  have e14 : u 14 = .pointer (some ⟨sb, 0, none⟩) := q14
  have e16 : u 16 = v16 := q16
  have e17 : u 17 = v17 := q17
  have e18 : u 18 = v18 := q18
  have e19 : u 19 = v19 := q19
  have e20 : u 20 = v20 := q20
  have e58 : u 58 = v58 := q58
  rw [e0, e1, e2, e3, e8, e9, e10, e12, e13, e14, e16, e17, e18, e19, e20, e58]
  clear q0 e0 q1 e1 q2 e2 q3 e3 q8 e8 q9 e9 q10 e10 q12 e12 q13 e13 q14 e14 q16 e16 q17 e17 q18 e18 q19 e19 q20 e20 q58 e58 hs1
  simp only [Try.f6, Option.getD_some, regOf] at hc
  injection hc with hc
  subst hc
  generalize u 4 = u4
  generalize u 5 = u5
  generalize u 6 = u6
  generalize u 7 = u7
  generalize u 11 = u11
  generalize u 15 = u15
  generalize u 21 = u21
  generalize u 22 = u22
  generalize u 23 = u23
  generalize u 24 = u24
  generalize u 25 = u25
  generalize u 26 = u26
  generalize u 27 = u27
  generalize u 28 = u28
  generalize u 29 = u29
  generalize u 30 = u30
  generalize u 31 = u31
  generalize u 32 = u32
  generalize u 33 = u33
  generalize u 34 = u34
  generalize u 35 = u35
  generalize u 36 = u36
  generalize u 37 = u37
  generalize u 38 = u38
  generalize u 39 = u39
  generalize u 40 = u40
  generalize u 41 = u41
  generalize u 42 = u42
  generalize u 43 = u43
  generalize u 44 = u44
  generalize u 45 = u45
  generalize u 46 = u46
  generalize u 47 = u47
  generalize u 48 = u48
  generalize u 49 = u49
  generalize u 50 = u50
  generalize u 51 = u51
  generalize u 52 = u52
  generalize u 53 = u53
  generalize u 54 = u54
  generalize u 55 = u55
  generalize u 56 = u56
  generalize u 57 = u57
  generalize u 59 = u59
  generalize u 60 = u60
  generalize u 61 = u61
  generalize u 62 = u62
  generalize u 63 = u63
  generalize u 64 = u64
  generalize u 65 = u65
  generalize u 66 = u66
  generalize u 67 = u67
  generalize u 68 = u68
  generalize u 69 = u69
  generalize u 70 = u70
  generalize u 71 = u71
  generalize u 72 = u72
  generalize u 73 = u73
  generalize u 74 = u74
  generalize u 75 = u75
  generalize u 76 = u76
  generalize u 77 = u77
  generalize u 78 = u78
  generalize u 79 = u79
  generalize u 80 = u80
  generalize u 81 = u81
  generalize u 82 = u82
  generalize u 83 = u83
  generalize u 84 = u84
  generalize u 85 = u85
  generalize u 86 = u86
  generalize u 87 = u87
  generalize u 88 = u88
  generalize u 89 = u89
  generalize u 90 = u90
  generalize u 91 = u91
  generalize u 92 = u92
  generalize u 93 = u93
  generalize u 94 = u94
  generalize u 95 = u95
  generalize u 96 = u96
  generalize u 97 = u97
  generalize u 98 = u98
  generalize u 99 = u99
  generalize u 100 = u100
  generalize u 101 = u101
  generalize u 102 = u102
  generalize u 103 = u103
  generalize u 104 = u104
  generalize u 105 = u105
  generalize u 106 = u106
  generalize u 107 = u107
  generalize u 108 = u108
  generalize u 109 = u109
  generalize u 110 = u110
  generalize u 111 = u111
  generalize u 112 = u112
  generalize u 113 = u113
  generalize u 114 = u114
  generalize u 115 = u115
  generalize u 116 = u116
  generalize u 117 = u117
  generalize u 118 = u118
  generalize u 119 = u119
  generalize u 120 = u120
  generalize u 121 = u121
  generalize u 122 = u122
  generalize u 123 = u123
  generalize u 124 = u124
  generalize u 125 = u125
  generalize u 126 = u126
  generalize u 127 = u127
  generalize u 128 = u128
  generalize u 129 = u129
  generalize u 130 = u130
  generalize u 131 = u131
  generalize u 132 = u132
  generalize u 133 = u133
  generalize u 134 = u134
  generalize u 135 = u135
  generalize u 136 = u136
  generalize u 137 = u137
  generalize u 138 = u138
  generalize u 139 = u139
  generalize u 140 = u140
  generalize u 141 = u141
  generalize u 142 = u142
  generalize u 143 = u143
  generalize u 144 = u144
  generalize u 145 = u145
  generalize u 146 = u146
  generalize u 147 = u147
  generalize u 148 = u148
  generalize u 149 = u149
  generalize u 150 = u150
  generalize u 151 = u151
  generalize u 152 = u152
  generalize u 153 = u153
  generalize u 154 = u154
  generalize u 155 = u155
  generalize u 156 = u156
  generalize u 157 = u157
  generalize u 158 = u158
  generalize u 159 = u159
  clear u
  have HE := hide hE
  have HS := hide hS
  obtain ⟨⟨c0, c1, c2, c3⟩, _⟩ := box4 hS
  unfold set4 at HQ
  clear hE hS
  go_wp2_with (go_at_call 17; refine HE.out.mono ?_; rintro e w1 ⟨rfl, b1⟩; have hR2 := Below.at b1 HS.out; obtain ⟨⟨d0, d1, d2, d3⟩, f0, f1, f2, f3⟩ := box4 hR2; have B1 := hide b1; clear b1 hR2 c0 c1 c2 c3)
  exact HQ.out _ _ ⟨rfl, rfl, rfl, rfl, rfl, rfl, rfl, rfl, rfl, rfl, rfl, rfl, rfl, rfl, rfl, rfl, rfl, rfl⟩ B1.out
set_option maxHeartbeats 8000000 in
set_option maxRecDepth 100000 in
theorem se_r23 {K : Act → World → Prop} {c : Code} (hc : regOf (Try.f6.body.getD .skip) 23 = some c) (a : Act) {v : Vse} {wq : World} {sb : Nat} {xn xt : ByteArray} {xx : Int} (hF : Fse a v) (h2v : v.v2 = .int .i64 xx) (h14v : v.v14 = .pointer (some ⟨sb, 0, none⟩)) (h17v : v.v17 = .int .i64 0) (hS : wq.heap[sb]? = some (.cells #[.string xn, .string xt, .int .i64 xx, .int .i64 xx] 33 (0, 0)))
    (hQ : ∀ a', Fse a' v → a'.tmps.getD 114 undef = .bool false → K a' wq) :
    Code.wp Try.prog c (Exit.then K fun _ _ _ => False) a wq := by
  have HQ := hide hQ
  clear hQ
  obtain ⟨t', d'⟩ := a
  obtain ⟨v0, v1, v2, v3, v8, v9, v10, v12, v13, v14, v16, v17, v18, v19, v20, v58⟩ := v
  simp only at h2v h14v h17v HQ
  subst h2v h14v h17v
  obtain ⟨hs1, hd1, q0, q1, q2, q3, q8, q9, q10, q12, q13, q14, q16, q17, q18, q19, q20, q58⟩ := hF
  obtain ⟨u, hu⟩ := frame_se t' hs1
  simp only at hd1 q0 q1 q2 q3 q8 q9 q10 q12 q13 q14 q16 q17 q18 q19 q20 q58
  subst hu hd1
  have e0 : u 0 = v0 := q0
  have e1 : u 1 = v1 := q1
  have e2 : u 2 = .int .i64 xx := q2
  have e3 : u 3 = v3 := q3
  have e8 : u 8 = v8 := q8
  have e9 : u 9 = v9 := q9
  have e10 : u 10 = v10 := q10
  have e12 : u 12 = v12 := q12
  have e13 : u 13 = v13 := q13
  have e14 : u 14 = .pointer (some ⟨sb, 0, none⟩) := q14
  have e16 : u 16 = v16 := q16
  have e17 : u 17 = .int .i64 0 := q17
  have e18 : u 18 = v18 := q18
  have e19 : u 19 = v19 := q19
  have e20 : u 20 = v20 := q20
  have e58 : u 58 = v58 := q58
  rw [e0, e1, e2, e3, e8, e9, e10, e12, e13, e14, e16, e17, e18, e19, e20, e58]
  clear q0 e0 q1 e1 q2 e2 q3 e3 q8 e8 q9 e9 q10 e10 q12 e12 q13 e13 q14 e14 q16 e16 q17 e17 q18 e18 q19 e19 q20 e20 q58 e58 hs1
  simp only [Try.f6, Option.getD_some, regOf] at hc
  injection hc with hc
  subst hc
  generalize u 4 = u4
  generalize u 5 = u5
  generalize u 6 = u6
  generalize u 7 = u7
  generalize u 11 = u11
  generalize u 15 = u15
  generalize u 21 = u21
  generalize u 22 = u22
  generalize u 23 = u23
  generalize u 24 = u24
  generalize u 25 = u25
  generalize u 26 = u26
  generalize u 27 = u27
  generalize u 28 = u28
  generalize u 29 = u29
  generalize u 30 = u30
  generalize u 31 = u31
  generalize u 32 = u32
  generalize u 33 = u33
  generalize u 34 = u34
  generalize u 35 = u35
  generalize u 36 = u36
  generalize u 37 = u37
  generalize u 38 = u38
  generalize u 39 = u39
  generalize u 40 = u40
  generalize u 41 = u41
  generalize u 42 = u42
  generalize u 43 = u43
  generalize u 44 = u44
  generalize u 45 = u45
  generalize u 46 = u46
  generalize u 47 = u47
  generalize u 48 = u48
  generalize u 49 = u49
  generalize u 50 = u50
  generalize u 51 = u51
  generalize u 52 = u52
  generalize u 53 = u53
  generalize u 54 = u54
  generalize u 55 = u55
  generalize u 56 = u56
  generalize u 57 = u57
  generalize u 59 = u59
  generalize u 60 = u60
  generalize u 61 = u61
  generalize u 62 = u62
  generalize u 63 = u63
  generalize u 64 = u64
  generalize u 65 = u65
  generalize u 66 = u66
  generalize u 67 = u67
  generalize u 68 = u68
  generalize u 69 = u69
  generalize u 70 = u70
  generalize u 71 = u71
  generalize u 72 = u72
  generalize u 73 = u73
  generalize u 74 = u74
  generalize u 75 = u75
  generalize u 76 = u76
  generalize u 77 = u77
  generalize u 78 = u78
  generalize u 79 = u79
  generalize u 80 = u80
  generalize u 81 = u81
  generalize u 82 = u82
  generalize u 83 = u83
  generalize u 84 = u84
  generalize u 85 = u85
  generalize u 86 = u86
  generalize u 87 = u87
  generalize u 88 = u88
  generalize u 89 = u89
  generalize u 90 = u90
  generalize u 91 = u91
  generalize u 92 = u92
  generalize u 93 = u93
  generalize u 94 = u94
  generalize u 95 = u95
  generalize u 96 = u96
  generalize u 97 = u97
  generalize u 98 = u98
  generalize u 99 = u99
  generalize u 100 = u100
  generalize u 101 = u101
  generalize u 102 = u102
  generalize u 103 = u103
  generalize u 104 = u104
  generalize u 105 = u105
  generalize u 106 = u106
  generalize u 107 = u107
  generalize u 108 = u108
  generalize u 109 = u109
  generalize u 110 = u110
  generalize u 111 = u111
  generalize u 112 = u112
  generalize u 113 = u113
  generalize u 114 = u114
  generalize u 115 = u115
  generalize u 116 = u116
  generalize u 117 = u117
  generalize u 118 = u118
  generalize u 119 = u119
  generalize u 120 = u120
  generalize u 121 = u121
  generalize u 122 = u122
  generalize u 123 = u123
  generalize u 124 = u124
  generalize u 125 = u125
  generalize u 126 = u126
  generalize u 127 = u127
  generalize u 128 = u128
  generalize u 129 = u129
  generalize u 130 = u130
  generalize u 131 = u131
  generalize u 132 = u132
  generalize u 133 = u133
  generalize u 134 = u134
  generalize u 135 = u135
  generalize u 136 = u136
  generalize u 137 = u137
  generalize u 138 = u138
  generalize u 139 = u139
  generalize u 140 = u140
  generalize u 141 = u141
  generalize u 142 = u142
  generalize u 143 = u143
  generalize u 144 = u144
  generalize u 145 = u145
  generalize u 146 = u146
  generalize u 147 = u147
  generalize u 148 = u148
  generalize u 149 = u149
  generalize u 150 = u150
  generalize u 151 = u151
  generalize u 152 = u152
  generalize u 153 = u153
  generalize u 154 = u154
  generalize u 155 = u155
  generalize u 156 = u156
  generalize u 157 = u157
  generalize u 158 = u158
  generalize u 159 = u159
  clear u
  obtain ⟨⟨c0, c1, c2, c3⟩, _⟩ := box4 hS
  clear hS
  go_wp2
  exact HQ.out _ ⟨rfl, rfl, rfl, rfl, rfl, rfl, rfl, rfl, rfl, rfl, rfl, rfl, rfl, rfl, rfl, rfl, rfl, rfl⟩ (by first | rfl | (simp; done))
set_option maxHeartbeats 8000000 in
set_option maxRecDepth 100000 in
theorem se_r25 {K : Act → World → Prop} {c : Code} (hc : regOf (Try.f6.body.getD .skip) 25 = some c) (a : Act) {v : Vse} {wq : World} {sb : Nat} {xn xt yn yt : ByteArray} {xc xx yc yx cd : Int} {L : LOC} {m : Int} {R : Option Addr → Nat → Nat → World → Prop} (hF : Fse a v) (h14v : v.v14 = .pointer (some ⟨sb, 0, none⟩)) (h3v : v.v3 = .int .i64 m) (h10v : v.v10 = .pointer (some ⟨L.b, 0, none⟩)) (hS : wq.heap[sb]? = some (.cells #[.string xn, .string xt, .int .i64 xc, .int .i64 xx] 33 (0, 0))) (hE : Calls Try.prog 15 #[.agg #[.string xn, .string xt, .int .i64 xc, .int .i64 xx], .pointer (some ⟨L.b, 0, none⟩), .int .i64 m] wq fun e w' => ∃ ao ln cp, e = .returned (.tuple #[.agg #[.string yn, .string yt, .int .i64 yc, .int .i64 yx], .slice ao ln cp, .int .i64 cd]) ∧ Below wq.heap.size wq w' ∧ R ao ln cp w')
    (hQ : ∀ a' w1 ao ln cp, Fse a' { v with v17 := .int .i64 cd, v18 := .slice ao ln cp } → Below wq.heap.size wq w1 → R ao ln cp w1 → K a' (set4 w1 sb (.string yn) (.string yt) (.int .i64 yc) (.int .i64 yx))) :
    Code.wp Try.prog c (Exit.then K fun _ _ _ => False) a wq := by
  have HQ := hide hQ
  clear hQ
  obtain ⟨t', d'⟩ := a
  obtain ⟨v0, v1, v2, v3, v8, v9, v10, v12, v13, v14, v16, v17, v18, v19, v20, v58⟩ := v
  simp only at h14v h3v h10v HQ
  subst h14v h3v h10v
  obtain ⟨hs1, hd1, q0, q1, q2, q3, q8, q9, q10, q12, q13, q14, q16, q17, q18, q19, q20, q58⟩ := hF
  obtain ⟨u, hu⟩ := frame_se t' hs1
  simp only at hd1 q0 q1 q2 q3 q8 q9 q10 q12 q13 q14 q16 q17 q18 q19 q20 q58
  subst hu hd1
  have e0 : u 0 = v0 := q0
  have e1 : u 1 = v1 := q1
  have e2 : u 2 = v2 := q2
  have e3 : u 3 = .int .i64 m := q3
  have e8 : u 8 = v8 := q8
  have e9 : u 9 = v9 := q9
  have e10 : u 10 = .pointer (some ⟨L.b, 0, none⟩) := q10
  have e12 : u 12 = v12 := q12
  have e13 : u 13 = v13 := q13
  have e14 : u 14 = .pointer (some ⟨sb, 0, none⟩) := q14
  have e16 : u 16 = v16 := q16
  have e17 : u 17 = v17 := q17
  have e18 : u 18 = v18 := q18
  have e19 : u 19 = v19 := q19
  have e20 : u 20 = v20 := q20
  have e58 : u 58 = v58 := q58
  rw [e0, e1, e2, e3, e8, e9, e10, e12, e13, e14, e16, e17, e18, e19, e20, e58]
  clear q0 e0 q1 e1 q2 e2 q3 e3 q8 e8 q9 e9 q10 e10 q12 e12 q13 e13 q14 e14 q16 e16 q17 e17 q18 e18 q19 e19 q20 e20 q58 e58 hs1
  simp only [Try.f6, Option.getD_some, regOf] at hc
  injection hc with hc
  subst hc
  generalize u 4 = u4
  generalize u 5 = u5
  generalize u 6 = u6
  generalize u 7 = u7
  generalize u 11 = u11
  generalize u 15 = u15
  generalize u 21 = u21
  generalize u 22 = u22
  generalize u 23 = u23
  generalize u 24 = u24
  generalize u 25 = u25
  generalize u 26 = u26
  generalize u 27 = u27
  generalize u 28 = u28
  generalize u 29 = u29
  generalize u 30 = u30
  generalize u 31 = u31
  generalize u 32 = u32
  generalize u 33 = u33
  generalize u 34 = u34
  generalize u 35 = u35
  generalize u 36 = u36
  generalize u 37 = u37
  generalize u 38 = u38
  generalize u 39 = u39
  generalize u 40 = u40
  generalize u 41 = u41
  generalize u 42 = u42
  generalize u 43 = u43
  generalize u 44 = u44
  generalize u 45 = u45
  generalize u 46 = u46
  generalize u 47 = u47
  generalize u 48 = u48
  generalize u 49 = u49
  generalize u 50 = u50
  generalize u 51 = u51
  generalize u 52 = u52
  generalize u 53 = u53
  generalize u 54 = u54
  generalize u 55 = u55
  generalize u 56 = u56
  generalize u 57 = u57
  generalize u 59 = u59
  generalize u 60 = u60
  generalize u 61 = u61
  generalize u 62 = u62
  generalize u 63 = u63
  generalize u 64 = u64
  generalize u 65 = u65
  generalize u 66 = u66
  generalize u 67 = u67
  generalize u 68 = u68
  generalize u 69 = u69
  generalize u 70 = u70
  generalize u 71 = u71
  generalize u 72 = u72
  generalize u 73 = u73
  generalize u 74 = u74
  generalize u 75 = u75
  generalize u 76 = u76
  generalize u 77 = u77
  generalize u 78 = u78
  generalize u 79 = u79
  generalize u 80 = u80
  generalize u 81 = u81
  generalize u 82 = u82
  generalize u 83 = u83
  generalize u 84 = u84
  generalize u 85 = u85
  generalize u 86 = u86
  generalize u 87 = u87
  generalize u 88 = u88
  generalize u 89 = u89
  generalize u 90 = u90
  generalize u 91 = u91
  generalize u 92 = u92
  generalize u 93 = u93
  generalize u 94 = u94
  generalize u 95 = u95
  generalize u 96 = u96
  generalize u 97 = u97
  generalize u 98 = u98
  generalize u 99 = u99
  generalize u 100 = u100
  generalize u 101 = u101
  generalize u 102 = u102
  generalize u 103 = u103
  generalize u 104 = u104
  generalize u 105 = u105
  generalize u 106 = u106
  generalize u 107 = u107
  generalize u 108 = u108
  generalize u 109 = u109
  generalize u 110 = u110
  generalize u 111 = u111
  generalize u 112 = u112
  generalize u 113 = u113
  generalize u 114 = u114
  generalize u 115 = u115
  generalize u 116 = u116
  generalize u 117 = u117
  generalize u 118 = u118
  generalize u 119 = u119
  generalize u 120 = u120
  generalize u 121 = u121
  generalize u 122 = u122
  generalize u 123 = u123
  generalize u 124 = u124
  generalize u 125 = u125
  generalize u 126 = u126
  generalize u 127 = u127
  generalize u 128 = u128
  generalize u 129 = u129
  generalize u 130 = u130
  generalize u 131 = u131
  generalize u 132 = u132
  generalize u 133 = u133
  generalize u 134 = u134
  generalize u 135 = u135
  generalize u 136 = u136
  generalize u 137 = u137
  generalize u 138 = u138
  generalize u 139 = u139
  generalize u 140 = u140
  generalize u 141 = u141
  generalize u 142 = u142
  generalize u 143 = u143
  generalize u 144 = u144
  generalize u 145 = u145
  generalize u 146 = u146
  generalize u 147 = u147
  generalize u 148 = u148
  generalize u 149 = u149
  generalize u 150 = u150
  generalize u 151 = u151
  generalize u 152 = u152
  generalize u 153 = u153
  generalize u 154 = u154
  generalize u 155 = u155
  generalize u 156 = u156
  generalize u 157 = u157
  generalize u 158 = u158
  generalize u 159 = u159
  clear u
  have HE := hide hE
  have HS := hide hS
  obtain ⟨⟨c0, c1, c2, c3⟩, _⟩ := box4 hS
  unfold set4 at HQ
  clear hE hS
  go_wp2_with (go_at_call 15; refine HE.out.mono ?_; rintro e w1 ⟨ao, ln, cp, rfl, b1, r1⟩; have R1 := hide r1; clear r1; have hR2 := Below.at b1 HS.out; obtain ⟨⟨d0, d1, d2, d3⟩, f0, f1, f2, f3⟩ := box4 hR2; have B1 := hide b1; clear b1 hR2 c0 c1 c2 c3)
  exact HQ.out _ _ _ _ _ ⟨rfl, rfl, rfl, rfl, rfl, rfl, rfl, rfl, rfl, rfl, rfl, rfl, rfl, rfl, rfl, rfl, rfl, rfl⟩ B1.out R1.out
set_option maxHeartbeats 8000000 in
set_option maxRecDepth 100000 in
theorem se_r26 {K : Act → World → Prop} {c : Code} (hc : regOf (Try.f6.body.getD .skip) 26 = some c) (a : Act) {v : Vse} {wq : World} {e n t mm : Int} (hF : Fse a v) (h2v : v.v2 = .int .i64 t) (h3v : v.v3 = .int .i64 e) (h12v : v.v12 = .int .i64 n) (h0 : 0 ≤ t) (h1 : t ≤ n) (h2 : n ≤ 1000) (hm : min e (n - t) = mm)
    (hQ : ∀ a', Fse a' { v with v19 := .int .i64 mm } → K a' wq) :
    Code.wp Try.prog c (Exit.then K fun _ _ _ => False) a wq := by
  have HQ := hide hQ
  clear hQ
  obtain ⟨t', d'⟩ := a
  obtain ⟨v0, v1, v2, v3, v8, v9, v10, v12, v13, v14, v16, v17, v18, v19, v20, v58⟩ := v
  simp only at h2v h3v h12v HQ
  subst h2v h3v h12v
  obtain ⟨hs1, hd1, q0, q1, q2, q3, q8, q9, q10, q12, q13, q14, q16, q17, q18, q19, q20, q58⟩ := hF
  obtain ⟨u, hu⟩ := frame_se t' hs1
  simp only at hd1 q0 q1 q2 q3 q8 q9 q10 q12 q13 q14 q16 q17 q18 q19 q20 q58
  subst hu hd1
  have e0 : u 0 = v0 := q0
  have e1 : u 1 = v1 := q1
  have e2 : u 2 = .int .i64 t := q2
  have e3 : u 3 = .int .i64 e := q3
  have e8 : u 8 = v8 := q8
  have e9 : u 9 = v9 := q9
  have e10 : u 10 = v10 := q10
  have e12 : u 12 = .int .i64 n := q12
  have e13 : u 13 = v13 := q13
  have e14 : u 14 = v14 := q14
  have e16 : u 16 = v16 := q16
  have e17 : u 17 = v17 := q17
  have e18 : u 18 = v18 := q18
  have e19 : u 19 = v19 := q19
  have e20 : u 20 = v20 := q20
  have e58 : u 58 = v58 := q58
  rw [e0, e1, e2, e3, e8, e9, e10, e12, e13, e14, e16, e17, e18, e19, e20, e58]
  clear q0 e0 q1 e1 q2 e2 q3 e3 q8 e8 q9 e9 q10 e10 q12 e12 q13 e13 q14 e14 q16 e16 q17 e17 q18 e18 q19 e19 q20 e20 q58 e58 hs1
  simp only [Try.f6, Option.getD_some, regOf] at hc
  injection hc with hc
  subst hc
  generalize u 4 = u4
  generalize u 5 = u5
  generalize u 6 = u6
  generalize u 7 = u7
  generalize u 11 = u11
  generalize u 15 = u15
  generalize u 21 = u21
  generalize u 22 = u22
  generalize u 23 = u23
  generalize u 24 = u24
  generalize u 25 = u25
  generalize u 26 = u26
  generalize u 27 = u27
  generalize u 28 = u28
  generalize u 29 = u29
  generalize u 30 = u30
  generalize u 31 = u31
  generalize u 32 = u32
  generalize u 33 = u33
  generalize u 34 = u34
  generalize u 35 = u35
  generalize u 36 = u36
  generalize u 37 = u37
  generalize u 38 = u38
  generalize u 39 = u39
  generalize u 40 = u40
  generalize u 41 = u41
  generalize u 42 = u42
  generalize u 43 = u43
  generalize u 44 = u44
  generalize u 45 = u45
  generalize u 46 = u46
  generalize u 47 = u47
  generalize u 48 = u48
  generalize u 49 = u49
  generalize u 50 = u50
  generalize u 51 = u51
  generalize u 52 = u52
  generalize u 53 = u53
  generalize u 54 = u54
  generalize u 55 = u55
  generalize u 56 = u56
  generalize u 57 = u57
  generalize u 59 = u59
  generalize u 60 = u60
  generalize u 61 = u61
  generalize u 62 = u62
  generalize u 63 = u63
  generalize u 64 = u64
  generalize u 65 = u65
  generalize u 66 = u66
  generalize u 67 = u67
  generalize u 68 = u68
  generalize u 69 = u69
  generalize u 70 = u70
  generalize u 71 = u71
  generalize u 72 = u72
  generalize u 73 = u73
  generalize u 74 = u74
  generalize u 75 = u75
  generalize u 76 = u76
  generalize u 77 = u77
  generalize u 78 = u78
  generalize u 79 = u79
  generalize u 80 = u80
  generalize u 81 = u81
  generalize u 82 = u82
  generalize u 83 = u83
  generalize u 84 = u84
  generalize u 85 = u85
  generalize u 86 = u86
  generalize u 87 = u87
  generalize u 88 = u88
  generalize u 89 = u89
  generalize u 90 = u90
  generalize u 91 = u91
  generalize u 92 = u92
  generalize u 93 = u93
  generalize u 94 = u94
  generalize u 95 = u95
  generalize u 96 = u96
  generalize u 97 = u97
  generalize u 98 = u98
  generalize u 99 = u99
  generalize u 100 = u100
  generalize u 101 = u101
  generalize u 102 = u102
  generalize u 103 = u103
  generalize u 104 = u104
  generalize u 105 = u105
  generalize u 106 = u106
  generalize u 107 = u107
  generalize u 108 = u108
  generalize u 109 = u109
  generalize u 110 = u110
  generalize u 111 = u111
  generalize u 112 = u112
  generalize u 113 = u113
  generalize u 114 = u114
  generalize u 115 = u115
  generalize u 116 = u116
  generalize u 117 = u117
  generalize u 118 = u118
  generalize u 119 = u119
  generalize u 120 = u120
  generalize u 121 = u121
  generalize u 122 = u122
  generalize u 123 = u123
  generalize u 124 = u124
  generalize u 125 = u125
  generalize u 126 = u126
  generalize u 127 = u127
  generalize u 128 = u128
  generalize u 129 = u129
  generalize u 130 = u130
  generalize u 131 = u131
  generalize u 132 = u132
  generalize u 133 = u133
  generalize u 134 = u134
  generalize u 135 = u135
  generalize u 136 = u136
  generalize u 137 = u137
  generalize u 138 = u138
  generalize u 139 = u139
  generalize u 140 = u140
  generalize u 141 = u141
  generalize u 142 = u142
  generalize u 143 = u143
  generalize u 144 = u144
  generalize u 145 = u145
  generalize u 146 = u146
  generalize u 147 = u147
  generalize u 148 = u148
  generalize u 149 = u149
  generalize u 150 = u150
  generalize u 151 = u151
  generalize u 152 = u152
  generalize u 153 = u153
  generalize u 154 = u154
  generalize u 155 = u155
  generalize u 156 = u156
  generalize u 157 = u157
  generalize u 158 = u158
  generalize u 159 = u159
  clear u
  go_wp2
  exact HQ.out _ ⟨rfl, rfl, rfl, rfl, rfl, rfl, rfl, rfl, rfl, rfl, rfl, rfl, rfl, rfl, rfl, rfl, rfl, rfl⟩
set_option maxHeartbeats 8000000 in
set_option maxRecDepth 100000 in
theorem se_r27 {K : Act → World → Prop} {c : Code} (hc : regOf (Try.f6.body.getD .skip) 27 = some c) (a : Act) {v : Vse} {wq : World} {sb ln cp : Nat} {ao : Option Addr} {xn xt : ByteArray} {xc t : Int} (hF : Fse a v) (h2v : v.v2 = .int .i64 t) (h14v : v.v14 = .pointer (some ⟨sb, 0, none⟩)) (h17v : v.v17 = .int .i64 0) (h18v : v.v18 = .slice ao ln cp) (h19v : v.v19 = .int .i64 (ln : Int)) (hS : wq.heap[sb]? = some (.cells #[.string xn, .string xt, .int .i64 xc, .int .i64 (t + (ln : Int))] 33 (0, 0))) (h0 : 0 ≤ t) (h1 : t ≤ 1000) (h2 : ln ≤ 1000)
    (hQ : ∀ a', Fse a' v → a'.tmps.getD 143 undef = .bool false → K a' wq) :
    Code.wp Try.prog c (Exit.then K fun _ _ _ => False) a wq := by
  have HQ := hide hQ
  clear hQ
  obtain ⟨t', d'⟩ := a
  obtain ⟨v0, v1, v2, v3, v8, v9, v10, v12, v13, v14, v16, v17, v18, v19, v20, v58⟩ := v
  simp only at h2v h14v h17v h18v h19v HQ
  subst h2v h14v h17v h18v h19v
  obtain ⟨hs1, hd1, q0, q1, q2, q3, q8, q9, q10, q12, q13, q14, q16, q17, q18, q19, q20, q58⟩ := hF
  obtain ⟨u, hu⟩ := frame_se t' hs1
  simp only at hd1 q0 q1 q2 q3 q8 q9 q10 q12 q13 q14 q16 q17 q18 q19 q20 q58
  subst hu hd1
  have e0 : u 0 = v0 := q0
  have e1 : u 1 = v1 := q1
  have e2 : u 2 = .int .i64 t := q2
  have e3 : u 3 = v3 := q3
  have e8 : u 8 = v8 := q8
  have e9 : u 9 = v9 := q9
  have e10 : u 10 = v10 := q10
  have e12 : u 12 = v12 := q12
  have e13 : u 13 = v13 := q13
  have e14 : u 14 = .pointer (some ⟨sb, 0, none⟩) := q14
  have e16 : u 16 = v16 := q16
  have e17 : u 17 = .int .i64 0 := q17
  have e18 : u 18 = .slice ao ln cp := q18
  have e19 : u 19 = .int .i64 (ln : Int) := q19
  have e20 : u 20 = v20 := q20
  have e58 : u 58 = v58 := q58
  rw [e0, e1, e2, e3, e8, e9, e10, e12, e13, e14, e16, e17, e18, e19, e20, e58]
  clear q0 e0 q1 e1 q2 e2 q3 e3 q8 e8 q9 e9 q10 e10 q12 e12 q13 e13 q14 e14 q16 e16 q17 e17 q18 e18 q19 e19 q20 e20 q58 e58 hs1
  simp only [Try.f6, Option.getD_some, regOf] at hc
  injection hc with hc
  subst hc
  generalize u 4 = u4
  generalize u 5 = u5
  generalize u 6 = u6
  generalize u 7 = u7
  generalize u 11 = u11
  generalize u 15 = u15
  generalize u 21 = u21
  generalize u 22 = u22
  generalize u 23 = u23
  generalize u 24 = u24
  generalize u 25 = u25
  generalize u 26 = u26
  generalize u 27 = u27
  generalize u 28 = u28
  generalize u 29 = u29
  generalize u 30 = u30
  generalize u 31 = u31
  generalize u 32 = u32
  generalize u 33 = u33
  generalize u 34 = u34
  generalize u 35 = u35
  generalize u 36 = u36
  generalize u 37 = u37
  generalize u 38 = u38
  generalize u 39 = u39
  generalize u 40 = u40
  generalize u 41 = u41
  generalize u 42 = u42
  generalize u 43 = u43
  generalize u 44 = u44
  generalize u 45 = u45
  generalize u 46 = u46
  generalize u 47 = u47
  generalize u 48 = u48
  generalize u 49 = u49
  generalize u 50 = u50
  generalize u 51 = u51
  generalize u 52 = u52
  generalize u 53 = u53
  generalize u 54 = u54
  generalize u 55 = u55
  generalize u 56 = u56
  generalize u 57 = u57
  generalize u 59 = u59
  generalize u 60 = u60
  generalize u 61 = u61
  generalize u 62 = u62
  generalize u 63 = u63
  generalize u 64 = u64
  generalize u 65 = u65
  generalize u 66 = u66
  generalize u 67 = u67
  generalize u 68 = u68
  generalize u 69 = u69
  generalize u 70 = u70
  generalize u 71 = u71
  generalize u 72 = u72
  generalize u 73 = u73
  generalize u 74 = u74
  generalize u 75 = u75
  generalize u 76 = u76
  generalize u 77 = u77
  generalize u 78 = u78
  generalize u 79 = u79
  generalize u 80 = u80
  generalize u 81 = u81
  generalize u 82 = u82
  generalize u 83 = u83
  generalize u 84 = u84
  generalize u 85 = u85
  generalize u 86 = u86
  generalize u 87 = u87
  generalize u 88 = u88
  generalize u 89 = u89
  generalize u 90 = u90
  generalize u 91 = u91
  generalize u 92 = u92
  generalize u 93 = u93
  generalize u 94 = u94
  generalize u 95 = u95
  generalize u 96 = u96
  generalize u 97 = u97
  generalize u 98 = u98
  generalize u 99 = u99
  generalize u 100 = u100
  generalize u 101 = u101
  generalize u 102 = u102
  generalize u 103 = u103
  generalize u 104 = u104
  generalize u 105 = u105
  generalize u 106 = u106
  generalize u 107 = u107
  generalize u 108 = u108
  generalize u 109 = u109
  generalize u 110 = u110
  generalize u 111 = u111
  generalize u 112 = u112
  generalize u 113 = u113
  generalize u 114 = u114
  generalize u 115 = u115
  generalize u 116 = u116
  generalize u 117 = u117
  generalize u 118 = u118
  generalize u 119 = u119
  generalize u 120 = u120
  generalize u 121 = u121
  generalize u 122 = u122
  generalize u 123 = u123
  generalize u 124 = u124
  generalize u 125 = u125
  generalize u 126 = u126
  generalize u 127 = u127
  generalize u 128 = u128
  generalize u 129 = u129
  generalize u 130 = u130
  generalize u 131 = u131
  generalize u 132 = u132
  generalize u 133 = u133
  generalize u 134 = u134
  generalize u 135 = u135
  generalize u 136 = u136
  generalize u 137 = u137
  generalize u 138 = u138
  generalize u 139 = u139
  generalize u 140 = u140
  generalize u 141 = u141
  generalize u 142 = u142
  generalize u 143 = u143
  generalize u 144 = u144
  generalize u 145 = u145
  generalize u 146 = u146
  generalize u 147 = u147
  generalize u 148 = u148
  generalize u 149 = u149
  generalize u 150 = u150
  generalize u 151 = u151
  generalize u 152 = u152
  generalize u 153 = u153
  generalize u 154 = u154
  generalize u 155 = u155
  generalize u 156 = u156
  generalize u 157 = u157
  generalize u 158 = u158
  generalize u 159 = u159
  clear u
  obtain ⟨⟨c0, c1, c2, c3⟩, _⟩ := box4 hS
  clear hS
  go_wp2
  exact HQ.out _ ⟨rfl, rfl, rfl, rfl, rfl, rfl, rfl, rfl, rfl, rfl, rfl, rfl, rfl, rfl, rfl, rfl, rfl, rfl⟩ (by first | rfl | (simp; done))
set_option maxHeartbeats 8000000 in
set_option maxRecDepth 100000 in
theorem se_r29 {K : Act → World → Prop} {c : Code} (hc : regOf (Try.f6.body.getD .skip) 29 = some c) (a : Act) {v : Vse} {wq : World}  (hF : Fse a v) (hQ : ∀ a', Fse a' { v with v20 := .int .i64 0 } → K a' wq) :
    Code.wp Try.prog c (Exit.then K fun _ _ _ => False) a wq := by
  have HQ := hide hQ
  clear hQ
  obtain ⟨t', d'⟩ := a
  obtain ⟨v0, v1, v2, v3, v8, v9, v10, v12, v13, v14, v16, v17, v18, v19, v20, v58⟩ := v
  obtain ⟨hs1, hd1, q0, q1, q2, q3, q8, q9, q10, q12, q13, q14, q16, q17, q18, q19, q20, q58⟩ := hF
  obtain ⟨u, hu⟩ := frame_se t' hs1
  simp only at hd1 q0 q1 q2 q3 q8 q9 q10 q12 q13 q14 q16 q17 q18 q19 q20 q58
  subst hu hd1
  have e0 : u 0 = v0 := q0
  have e1 : u 1 = v1 := q1
  have e2 : u 2 = v2 := q2
  have e3 : u 3 = v3 := q3
  have e8 : u 8 = v8 := q8
  have e9 : u 9 = v9 := q9
  have e10 : u 10 = v10 := q10
  have e12 : u 12 = v12 := q12
  have e13 : u 13 = v13 := q13
  have e14 : u 14 = v14 := q14
  have e16 : u 16 = v16 := q16
  have e17 : u 17 = v17 := q17
  have e18 : u 18 = v18 := q18
  have e19 : u 19 = v19 := q19
  have e20 : u 20 = v20 := q20
  have e58 : u 58 = v58 := q58
  rw [e0, e1, e2, e3, e8, e9, e10, e12, e13, e14, e16, e17, e18, e19, e20, e58]
  clear q0 e0 q1 e1 q2 e2 q3 e3 q8 e8 q9 e9 q10 e10 q12 e12 q13 e13 q14 e14 q16 e16 q17 e17 q18 e18 q19 e19 q20 e20 q58 e58 hs1
  simp only [Try.f6, Option.getD_some, regOf] at hc
  injection hc with hc
  subst hc
  generalize u 4 = u4
  generalize u 5 = u5
  generalize u 6 = u6
  generalize u 7 = u7
  generalize u 11 = u11
  generalize u 15 = u15
  generalize u 21 = u21
  generalize u 22 = u22
  generalize u 23 = u23
  generalize u 24 = u24
  generalize u 25 = u25
  generalize u 26 = u26
  generalize u 27 = u27
  generalize u 28 = u28
  generalize u 29 = u29
  generalize u 30 = u30
  generalize u 31 = u31
  generalize u 32 = u32
  generalize u 33 = u33
  generalize u 34 = u34
  generalize u 35 = u35
  generalize u 36 = u36
  generalize u 37 = u37
  generalize u 38 = u38
  generalize u 39 = u39
  generalize u 40 = u40
  generalize u 41 = u41
  generalize u 42 = u42
  generalize u 43 = u43
  generalize u 44 = u44
  generalize u 45 = u45
  generalize u 46 = u46
  generalize u 47 = u47
  generalize u 48 = u48
  generalize u 49 = u49
  generalize u 50 = u50
  generalize u 51 = u51
  generalize u 52 = u52
  generalize u 53 = u53
  generalize u 54 = u54
  generalize u 55 = u55
  generalize u 56 = u56
  generalize u 57 = u57
  generalize u 59 = u59
  generalize u 60 = u60
  generalize u 61 = u61
  generalize u 62 = u62
  generalize u 63 = u63
  generalize u 64 = u64
  generalize u 65 = u65
  generalize u 66 = u66
  generalize u 67 = u67
  generalize u 68 = u68
  generalize u 69 = u69
  generalize u 70 = u70
  generalize u 71 = u71
  generalize u 72 = u72
  generalize u 73 = u73
  generalize u 74 = u74
  generalize u 75 = u75
  generalize u 76 = u76
  generalize u 77 = u77
  generalize u 78 = u78
  generalize u 79 = u79
  generalize u 80 = u80
  generalize u 81 = u81
  generalize u 82 = u82
  generalize u 83 = u83
  generalize u 84 = u84
  generalize u 85 = u85
  generalize u 86 = u86
  generalize u 87 = u87
  generalize u 88 = u88
  generalize u 89 = u89
  generalize u 90 = u90
  generalize u 91 = u91
  generalize u 92 = u92
  generalize u 93 = u93
  generalize u 94 = u94
  generalize u 95 = u95
  generalize u 96 = u96
  generalize u 97 = u97
  generalize u 98 = u98
  generalize u 99 = u99
  generalize u 100 = u100
  generalize u 101 = u101
  generalize u 102 = u102
  generalize u 103 = u103
  generalize u 104 = u104
  generalize u 105 = u105
  generalize u 106 = u106
  generalize u 107 = u107
  generalize u 108 = u108
  generalize u 109 = u109
  generalize u 110 = u110
  generalize u 111 = u111
  generalize u 112 = u112
  generalize u 113 = u113
  generalize u 114 = u114
  generalize u 115 = u115
  generalize u 116 = u116
  generalize u 117 = u117
  generalize u 118 = u118
  generalize u 119 = u119
  generalize u 120 = u120
  generalize u 121 = u121
  generalize u 122 = u122
  generalize u 123 = u123
  generalize u 124 = u124
  generalize u 125 = u125
  generalize u 126 = u126
  generalize u 127 = u127
  generalize u 128 = u128
  generalize u 129 = u129
  generalize u 130 = u130
  generalize u 131 = u131
  generalize u 132 = u132
  generalize u 133 = u133
  generalize u 134 = u134
  generalize u 135 = u135
  generalize u 136 = u136
  generalize u 137 = u137
  generalize u 138 = u138
  generalize u 139 = u139
  generalize u 140 = u140
  generalize u 141 = u141
  generalize u 142 = u142
  generalize u 143 = u143
  generalize u 144 = u144
  generalize u 145 = u145
  generalize u 146 = u146
  generalize u 147 = u147
  generalize u 148 = u148
  generalize u 149 = u149
  generalize u 150 = u150
  generalize u 151 = u151
  generalize u 152 = u152
  generalize u 153 = u153
  generalize u 154 = u154
  generalize u 155 = u155
  generalize u 156 = u156
  generalize u 157 = u157
  generalize u 158 = u158
  generalize u 159 = u159
  clear u
  go_wp2
  exact HQ.out _ ⟨rfl, rfl, rfl, rfl, rfl, rfl, rfl, rfl, rfl, rfl, rfl, rfl, rfl, rfl, rfl, rfl, rfl, rfl⟩
set_option maxHeartbeats 8000000 in
set_option maxRecDepth 100000 in
theorem se_r30 {K : Act → World → Prop} {c : Code} (hc : regOf (Try.f6.body.getD .skip) 30 = some c) (a : Act) {v : Vse} {wq : World} {k ln cp : Nat} {ao : Option Addr} (hF : Fse a v) (h18v : v.v18 = .slice ao ln cp) (h20v : v.v20 = .int .i64 (k : Int)) (hQ : ∀ a', Fse a' v → a'.tmps.getD 147 undef = .bool (decide (k < ln)) → K a' wq) :
    Code.wp Try.prog c (Exit.then K fun _ _ _ => False) a wq := by
  have HQ := hide hQ
  clear hQ
  obtain ⟨t', d'⟩ := a
  obtain ⟨v0, v1, v2, v3, v8, v9, v10, v12, v13, v14, v16, v17, v18, v19, v20, v58⟩ := v
  simp only at h18v h20v HQ
  subst h18v h20v
  obtain ⟨hs1, hd1, q0, q1, q2, q3, q8, q9, q10, q12, q13, q14, q16, q17, q18, q19, q20, q58⟩ := hF
  obtain ⟨u, hu⟩ := frame_se t' hs1
  simp only at hd1 q0 q1 q2 q3 q8 q9 q10 q12 q13 q14 q16 q17 q18 q19 q20 q58
  subst hu hd1
  have e0 : u 0 = v0 := q0
  have e1 : u 1 = v1 := q1
  have e2 : u 2 = v2 := q2
  have e3 : u 3 = v3 := q3
  have e8 : u 8 = v8 := q8
  have e9 : u 9 = v9 := q9
  have e10 : u 10 = v10 := q10
  have e12 : u 12 = v12 := q12
  have e13 : u 13 = v13 := q13
  have e14 : u 14 = v14 := q14
  have e16 : u 16 = v16 := q16
  have e17 : u 17 = v17 := q17
  have e18 : u 18 = .slice ao ln cp := q18
  have e19 : u 19 = v19 := q19
  have e20 : u 20 = .int .i64 (k : Int) := q20
  have e58 : u 58 = v58 := q58
  rw [e0, e1, e2, e3, e8, e9, e10, e12, e13, e14, e16, e17, e18, e19, e20, e58]
  clear q0 e0 q1 e1 q2 e2 q3 e3 q8 e8 q9 e9 q10 e10 q12 e12 q13 e13 q14 e14 q16 e16 q17 e17 q18 e18 q19 e19 q20 e20 q58 e58 hs1
  simp only [Try.f6, Option.getD_some, regOf] at hc
  injection hc with hc
  subst hc
  generalize u 4 = u4
  generalize u 5 = u5
  generalize u 6 = u6
  generalize u 7 = u7
  generalize u 11 = u11
  generalize u 15 = u15
  generalize u 21 = u21
  generalize u 22 = u22
  generalize u 23 = u23
  generalize u 24 = u24
  generalize u 25 = u25
  generalize u 26 = u26
  generalize u 27 = u27
  generalize u 28 = u28
  generalize u 29 = u29
  generalize u 30 = u30
  generalize u 31 = u31
  generalize u 32 = u32
  generalize u 33 = u33
  generalize u 34 = u34
  generalize u 35 = u35
  generalize u 36 = u36
  generalize u 37 = u37
  generalize u 38 = u38
  generalize u 39 = u39
  generalize u 40 = u40
  generalize u 41 = u41
  generalize u 42 = u42
  generalize u 43 = u43
  generalize u 44 = u44
  generalize u 45 = u45
  generalize u 46 = u46
  generalize u 47 = u47
  generalize u 48 = u48
  generalize u 49 = u49
  generalize u 50 = u50
  generalize u 51 = u51
  generalize u 52 = u52
  generalize u 53 = u53
  generalize u 54 = u54
  generalize u 55 = u55
  generalize u 56 = u56
  generalize u 57 = u57
  generalize u 59 = u59
  generalize u 60 = u60
  generalize u 61 = u61
  generalize u 62 = u62
  generalize u 63 = u63
  generalize u 64 = u64
  generalize u 65 = u65
  generalize u 66 = u66
  generalize u 67 = u67
  generalize u 68 = u68
  generalize u 69 = u69
  generalize u 70 = u70
  generalize u 71 = u71
  generalize u 72 = u72
  generalize u 73 = u73
  generalize u 74 = u74
  generalize u 75 = u75
  generalize u 76 = u76
  generalize u 77 = u77
  generalize u 78 = u78
  generalize u 79 = u79
  generalize u 80 = u80
  generalize u 81 = u81
  generalize u 82 = u82
  generalize u 83 = u83
  generalize u 84 = u84
  generalize u 85 = u85
  generalize u 86 = u86
  generalize u 87 = u87
  generalize u 88 = u88
  generalize u 89 = u89
  generalize u 90 = u90
  generalize u 91 = u91
  generalize u 92 = u92
  generalize u 93 = u93
  generalize u 94 = u94
  generalize u 95 = u95
  generalize u 96 = u96
  generalize u 97 = u97
  generalize u 98 = u98
  generalize u 99 = u99
  generalize u 100 = u100
  generalize u 101 = u101
  generalize u 102 = u102
  generalize u 103 = u103
  generalize u 104 = u104
  generalize u 105 = u105
  generalize u 106 = u106
  generalize u 107 = u107
  generalize u 108 = u108
  generalize u 109 = u109
  generalize u 110 = u110
  generalize u 111 = u111
  generalize u 112 = u112
  generalize u 113 = u113
  generalize u 114 = u114
  generalize u 115 = u115
  generalize u 116 = u116
  generalize u 117 = u117
  generalize u 118 = u118
  generalize u 119 = u119
  generalize u 120 = u120
  generalize u 121 = u121
  generalize u 122 = u122
  generalize u 123 = u123
  generalize u 124 = u124
  generalize u 125 = u125
  generalize u 126 = u126
  generalize u 127 = u127
  generalize u 128 = u128
  generalize u 129 = u129
  generalize u 130 = u130
  generalize u 131 = u131
  generalize u 132 = u132
  generalize u 133 = u133
  generalize u 134 = u134
  generalize u 135 = u135
  generalize u 136 = u136
  generalize u 137 = u137
  generalize u 138 = u138
  generalize u 139 = u139
  generalize u 140 = u140
  generalize u 141 = u141
  generalize u 142 = u142
  generalize u 143 = u143
  generalize u 144 = u144
  generalize u 145 = u145
  generalize u 146 = u146
  generalize u 147 = u147
  generalize u 148 = u148
  generalize u 149 = u149
  generalize u 150 = u150
  generalize u 151 = u151
  generalize u 152 = u152
  generalize u 153 = u153
  generalize u 154 = u154
  generalize u 155 = u155
  generalize u 156 = u156
  generalize u 157 = u157
  generalize u 158 = u158
  generalize u 159 = u159
  clear u
  go_wp2
  exact HQ.out _ ⟨rfl, rfl, rfl, rfl, rfl, rfl, rfl, rfl, rfl, rfl, rfl, rfl, rfl, rfl, rfl, rfl, rfl, rfl⟩ (by first | rfl | (simp; done))
set_option maxHeartbeats 8000000 in
set_option maxRecDepth 100000 in
theorem se_r32 {K : Act → World → Prop} {c : Code} (hc : regOf (Try.f6.body.getD .skip) 32 = some c) (a : Act) {v : Vse} {wq : World} {k ln cp b of : Nat} {t : Int} (hF : Fse a v) (h2v : v.v2 = .int .i64 t) (h18v : v.v18 = .slice (some ⟨b, of, none⟩) ln cp) (h20v : v.v20 = .int .i64 (k : Int)) (hk : k < ln) (hc1 : wq.cell? ⟨b, of + k * 5, none⟩ = some (.int .i64 (t + (k : Int)))) (h0 : 0 ≤ t) (h1 : t ≤ 1000) (h2 : k ≤ 1000)
    (hQ : ∀ a', Fse a' v → a'.tmps.getD 158 undef = .bool false → K a' wq) :
    Code.wp Try.prog c (Exit.then K fun _ _ _ => False) a wq := by
  have HQ := hide hQ
  clear hQ
  obtain ⟨t', d'⟩ := a
  obtain ⟨v0, v1, v2, v3, v8, v9, v10, v12, v13, v14, v16, v17, v18, v19, v20, v58⟩ := v
  simp only at h2v h18v h20v HQ
  subst h2v h18v h20v
  obtain ⟨hs1, hd1, q0, q1, q2, q3, q8, q9, q10, q12, q13, q14, q16, q17, q18, q19, q20, q58⟩ := hF
  obtain ⟨u, hu⟩ := frame_se t' hs1
  simp only at hd1 q0 q1 q2 q3 q8 q9 q10 q12 q13 q14 q16 q17 q18 q19 q20 q58
  subst hu hd1
  have e0 : u 0 = v0 := q0
  have e1 : u 1 = v1 := q1
  have e2 : u 2 = .int .i64 t := q2
  have e3 : u 3 = v3 := q3
  have e8 : u 8 = v8 := q8
  have e9 : u 9 = v9 := q9
  have e10 : u 10 = v10 := q10
  have e12 : u 12 = v12 := q12
  have e13 : u 13 = v13 := q13
  have e14 : u 14 = v14 := q14
  have e16 : u 16 = v16 := q16
  have e17 : u 17 = v17 := q17
  have e18 : u 18 = .slice (some ⟨b, of, none⟩) ln cp := q18
  have e19 : u 19 = v19 := q19
  have e20 : u 20 = .int .i64 (k : Int) := q20
  have e58 : u 58 = v58 := q58
  rw [e0, e1, e2, e3, e8, e9, e10, e12, e13, e14, e16, e17, e18, e19, e20, e58]
  clear q0 e0 q1 e1 q2 e2 q3 e3 q8 e8 q9 e9 q10 e10 q12 e12 q13 e13 q14 e14 q16 e16 q17 e17 q18 e18 q19 e19 q20 e20 q58 e58 hs1
  simp only [Try.f6, Option.getD_some, regOf] at hc
  injection hc with hc
  subst hc
  generalize u 4 = u4
  generalize u 5 = u5
  generalize u 6 = u6
  generalize u 7 = u7
  generalize u 11 = u11
  generalize u 15 = u15
  generalize u 21 = u21
  generalize u 22 = u22
  generalize u 23 = u23
  generalize u 24 = u24
  generalize u 25 = u25
  generalize u 26 = u26
  generalize u 27 = u27
  generalize u 28 = u28
  generalize u 29 = u29
  generalize u 30 = u30
  generalize u 31 = u31
  generalize u 32 = u32
  generalize u 33 = u33
  generalize u 34 = u34
  generalize u 35 = u35
  generalize u 36 = u36
  generalize u 37 = u37
  generalize u 38 = u38
  generalize u 39 = u39
  generalize u 40 = u40
  generalize u 41 = u41
  generalize u 42 = u42
  generalize u 43 = u43
  generalize u 44 = u44
  generalize u 45 = u45
  generalize u 46 = u46
  generalize u 47 = u47
  generalize u 48 = u48
  generalize u 49 = u49
  generalize u 50 = u50
  generalize u 51 = u51
  generalize u 52 = u52
  generalize u 53 = u53
  generalize u 54 = u54
  generalize u 55 = u55
  generalize u 56 = u56
  generalize u 57 = u57
  generalize u 59 = u59
  generalize u 60 = u60
  generalize u 61 = u61
  generalize u 62 = u62
  generalize u 63 = u63
  generalize u 64 = u64
  generalize u 65 = u65
  generalize u 66 = u66
  generalize u 67 = u67
  generalize u 68 = u68
  generalize u 69 = u69
  generalize u 70 = u70
  generalize u 71 = u71
  generalize u 72 = u72
  generalize u 73 = u73
  generalize u 74 = u74
  generalize u 75 = u75
  generalize u 76 = u76
  generalize u 77 = u77
  generalize u 78 = u78
  generalize u 79 = u79
  generalize u 80 = u80
  generalize u 81 = u81
  generalize u 82 = u82
  generalize u 83 = u83
  generalize u 84 = u84
  generalize u 85 = u85
  generalize u 86 = u86
  generalize u 87 = u87
  generalize u 88 = u88
  generalize u 89 = u89
  generalize u 90 = u90
  generalize u 91 = u91
  generalize u 92 = u92
  generalize u 93 = u93
  generalize u 94 = u94
  generalize u 95 = u95
  generalize u 96 = u96
  generalize u 97 = u97
  generalize u 98 = u98
  generalize u 99 = u99
  generalize u 100 = u100
  generalize u 101 = u101
  generalize u 102 = u102
  generalize u 103 = u103
  generalize u 104 = u104
  generalize u 105 = u105
  generalize u 106 = u106
  generalize u 107 = u107
  generalize u 108 = u108
  generalize u 109 = u109
  generalize u 110 = u110
  generalize u 111 = u111
  generalize u 112 = u112
  generalize u 113 = u113
  generalize u 114 = u114
  generalize u 115 = u115
  generalize u 116 = u116
  generalize u 117 = u117
  generalize u 118 = u118
  generalize u 119 = u119
  generalize u 120 = u120
  generalize u 121 = u121
  generalize u 122 = u122
  generalize u 123 = u123
  generalize u 124 = u124
  generalize u 125 = u125
  generalize u 126 = u126
  generalize u 127 = u127
  generalize u 128 = u128
  generalize u 129 = u129
  generalize u 130 = u130
  generalize u 131 = u131
  generalize u 132 = u132
  generalize u 133 = u133
  generalize u 134 = u134
  generalize u 135 = u135
  generalize u 136 = u136
  generalize u 137 = u137
  generalize u 138 = u138
  generalize u 139 = u139
  generalize u 140 = u140
  generalize u 141 = u141
  generalize u 142 = u142
  generalize u 143 = u143
  generalize u 144 = u144
  generalize u 145 = u145
  generalize u 146 = u146
  generalize u 147 = u147
  generalize u 148 = u148
  generalize u 149 = u149
  generalize u 150 = u150
  generalize u 151 = u151
  generalize u 152 = u152
  generalize u 153 = u153
  generalize u 154 = u154
  generalize u 155 = u155
  generalize u 156 = u156
  generalize u 157 = u157
  generalize u 158 = u158
  generalize u 159 = u159
  clear u
  have e1 : (k : Int) < (ln : Int) := by omega
  go_wp2
  exact HQ.out _ ⟨rfl, rfl, rfl, rfl, rfl, rfl, rfl, rfl, rfl, rfl, rfl, rfl, rfl, rfl, rfl, rfl, rfl, rfl⟩ (by first | rfl | (simp; done))
set_option maxHeartbeats 8000000 in
set_option maxRecDepth 100000 in
theorem se_r31 {K : Act → World → Prop} {c : Code} (hc : regOf (Try.f6.body.getD .skip) 31 = some c) (a : Act) {v : Vse} {wq : World} {i : Nat} (hF : Fse a v) (h20v : v.v20 = .int .i64 (i : Int)) (hi : i ≤ 1000000)
    (hQ : ∀ a', Fse a' { v with v20 := .int .i64 ((i + 1 : Nat) : Int) } → K a' wq) :
    Code.wp Try.prog c (Exit.then K fun _ _ _ => False) a wq := by
  have HQ := hide hQ
  clear hQ
  obtain ⟨t', d'⟩ := a
  obtain ⟨v0, v1, v2, v3, v8, v9, v10, v12, v13, v14, v16, v17, v18, v19, v20, v58⟩ := v
  simp only at h20v HQ
  subst h20v
  obtain ⟨hs1, hd1, q0, q1, q2, q3, q8, q9, q10, q12, q13, q14, q16, q17, q18, q19, q20, q58⟩ := hF
  obtain ⟨u, hu⟩ := frame_se t' hs1
  simp only at hd1 q0 q1 q2 q3 q8 q9 q10 q12 q13 q14 q16 q17 q18 q19 q20 q58
  subst hu hd1
  have e0 : u 0 = v0 := q0
  have e1 : u 1 = v1 := q1
  have e2 : u 2 = v2 := q2
  have e3 : u 3 = v3 := q3
  have e8 : u 8 = v8 := q8
  have e9 : u 9 = v9 := q9
  have e10 : u 10 = v10 := q10
  have e12 : u 12 = v12 := q12
  have e13 : u 13 = v13 := q13
  have e14 : u 14 = v14 := q14
  have e16 : u 16 = v16 := q16
  have e17 : u 17 = v17 := q17
  have e18 : u 18 = v18 := q18
  have e19 : u 19 = v19 := q19
  have e20 : u 20 = .int .i64 (i : Int) := q20
  have e58 : u 58 = v58 := q58
  rw [e0, e1, e2, e3, e8, e9, e10, e12, e13, e14, e16, e17, e18, e19, e20, e58]
  clear q0 e0 q1 e1 q2 e2 q3 e3 q8 e8 q9 e9 q10 e10 q12 e12 q13 e13 q14 e14 q16 e16 q17 e17 q18 e18 q19 e19 q20 e20 q58 e58 hs1
  simp only [Try.f6, Option.getD_some, regOf] at hc
  injection hc with hc
  subst hc
  generalize u 4 = u4
  generalize u 5 = u5
  generalize u 6 = u6
  generalize u 7 = u7
  generalize u 11 = u11
  generalize u 15 = u15
  generalize u 21 = u21
  generalize u 22 = u22
  generalize u 23 = u23
  generalize u 24 = u24
  generalize u 25 = u25
  generalize u 26 = u26
  generalize u 27 = u27
  generalize u 28 = u28
  generalize u 29 = u29
  generalize u 30 = u30
  generalize u 31 = u31
  generalize u 32 = u32
  generalize u 33 = u33
  generalize u 34 = u34
  generalize u 35 = u35
  generalize u 36 = u36
  generalize u 37 = u37
  generalize u 38 = u38
  generalize u 39 = u39
  generalize u 40 = u40
  generalize u 41 = u41
  generalize u 42 = u42
  generalize u 43 = u43
  generalize u 44 = u44
  generalize u 45 = u45
  generalize u 46 = u46
  generalize u 47 = u47
  generalize u 48 = u48
  generalize u 49 = u49
  generalize u 50 = u50
  generalize u 51 = u51
  generalize u 52 = u52
  generalize u 53 = u53
  generalize u 54 = u54
  generalize u 55 = u55
  generalize u 56 = u56
  generalize u 57 = u57
  generalize u 59 = u59
  generalize u 60 = u60
  generalize u 61 = u61
  generalize u 62 = u62
  generalize u 63 = u63
  generalize u 64 = u64
  generalize u 65 = u65
  generalize u 66 = u66
  generalize u 67 = u67
  generalize u 68 = u68
  generalize u 69 = u69
  generalize u 70 = u70
  generalize u 71 = u71
  generalize u 72 = u72
  generalize u 73 = u73
  generalize u 74 = u74
  generalize u 75 = u75
  generalize u 76 = u76
  generalize u 77 = u77
  generalize u 78 = u78
  generalize u 79 = u79
  generalize u 80 = u80
  generalize u 81 = u81
  generalize u 82 = u82
  generalize u 83 = u83
  generalize u 84 = u84
  generalize u 85 = u85
  generalize u 86 = u86
  generalize u 87 = u87
  generalize u 88 = u88
  generalize u 89 = u89
  generalize u 90 = u90
  generalize u 91 = u91
  generalize u 92 = u92
  generalize u 93 = u93
  generalize u 94 = u94
  generalize u 95 = u95
  generalize u 96 = u96
  generalize u 97 = u97
  generalize u 98 = u98
  generalize u 99 = u99
  generalize u 100 = u100
  generalize u 101 = u101
  generalize u 102 = u102
  generalize u 103 = u103
  generalize u 104 = u104
  generalize u 105 = u105
  generalize u 106 = u106
  generalize u 107 = u107
  generalize u 108 = u108
  generalize u 109 = u109
  generalize u 110 = u110
  generalize u 111 = u111
  generalize u 112 = u112
  generalize u 113 = u113
  generalize u 114 = u114
  generalize u 115 = u115
  generalize u 116 = u116
  generalize u 117 = u117
  generalize u 118 = u118
  generalize u 119 = u119
  generalize u 120 = u120
  generalize u 121 = u121
  generalize u 122 = u122
  generalize u 123 = u123
  generalize u 124 = u124
  generalize u 125 = u125
  generalize u 126 = u126
  generalize u 127 = u127
  generalize u 128 = u128
  generalize u 129 = u129
  generalize u 130 = u130
  generalize u 131 = u131
  generalize u 132 = u132
  generalize u 133 = u133
  generalize u 134 = u134
  generalize u 135 = u135
  generalize u 136 = u136
  generalize u 137 = u137
  generalize u 138 = u138
  generalize u 139 = u139
  generalize u 140 = u140
  generalize u 141 = u141
  generalize u 142 = u142
  generalize u 143 = u143
  generalize u 144 = u144
  generalize u 145 = u145
  generalize u 146 = u146
  generalize u 147 = u147
  generalize u 148 = u148
  generalize u 149 = u149
  generalize u 150 = u150
  generalize u 151 = u151
  generalize u 152 = u152
  generalize u 153 = u153
  generalize u 154 = u154
  generalize u 155 = u155
  generalize u 156 = u156
  generalize u 157 = u157
  generalize u 158 = u158
  generalize u 159 = u159
  clear u
  go_wp2
  exact HQ.out _ ⟨rfl, rfl, rfl, rfl, rfl, rfl, rfl, rfl, rfl, rfl, rfl, rfl, rfl, rfl, rfl, rfl, (by first | rfl | (simp; done) | (go_num; done)), rfl⟩
set_option maxHeartbeats 8000000 in
set_option maxRecDepth 100000 in
theorem se_r34 {K : Act → World → Prop} {c : Code} (hc : regOf (Try.f6.body.getD .skip) 34 = some c) (a : Act) {v : Vse} {wq : World} {b : Bool} (hF : Fse a v) (h9v : v.v9 = .bool b) (hQ : ∀ a', Fse a' { v with v8 := .bool b } → K a' wq) :
    Code.wp Try.prog c (Exit.then K fun _ _ _ => False) a wq := by
  have HQ := hide hQ
  clear hQ
  obtain ⟨t', d'⟩ := a
  obtain ⟨v0, v1, v2, v3, v8, v9, v10, v12, v13, v14, v16, v17, v18, v19, v20, v58⟩ := v
  simp only at h9v HQ
  subst h9v
  obtain ⟨hs1, hd1, q0, q1, q2, q3, q8, q9, q10, q12, q13, q14, q16, q17, q18, q19, q20, q58⟩ := hF
  obtain ⟨u, hu⟩ := frame_se t' hs1
  simp only at hd1 q0 q1 q2 q3 q8 q9 q10 q12 q13 q14 q16 q17 q18 q19 q20 q58
  subst hu hd1
  have e0 : u 0 = v0 := q0
  have e1 : u 1 = v1 := q1
  have e2 : u 2 = v2 := q2
  have e3 : u 3 = v3 := q3
  have e8 : u 8 = v8 := q8
  have e9 : u 9 = .bool b := q9
  have e10 : u 10 = v10 := q10
  have e12 : u 12 = v12 := q12
  have e13 : u 13 = v13 := q13
  have e14 : u 14 = v14 := q14
  have e16 : u 16 = v16 := q16
  have e17 : u 17 = v17 := q17
  have e18 : u 18 = v18 := q18
  have e19 : u 19 = v19 := q19
  have e20 : u 20 = v20 := q20
  have e58 : u 58 = v58 := q58
  rw [e0, e1, e2, e3, e8, e9, e10, e12, e13, e14, e16, e17, e18, e19, e20, e58]
  clear q0 e0 q1 e1 q2 e2 q3 e3 q8 e8 q9 e9 q10 e10 q12 e12 q13 e13 q14 e14 q16 e16 q17 e17 q18 e18 q19 e19 q20 e20 q58 e58 hs1
  simp only [Try.f6, Option.getD_some, regOf] at hc
  injection hc with hc
  subst hc
  generalize u 4 = u4
  generalize u 5 = u5
  generalize u 6 = u6
  generalize u 7 = u7
  generalize u 11 = u11
  generalize u 15 = u15
  generalize u 21 = u21
  generalize u 22 = u22
  generalize u 23 = u23
  generalize u 24 = u24
  generalize u 25 = u25
  generalize u 26 = u26
  generalize u 27 = u27
  generalize u 28 = u28
  generalize u 29 = u29
  generalize u 30 = u30
  generalize u 31 = u31
  generalize u 32 = u32
  generalize u 33 = u33
  generalize u 34 = u34
  generalize u 35 = u35
  generalize u 36 = u36
  generalize u 37 = u37
  generalize u 38 = u38
  generalize u 39 = u39
  generalize u 40 = u40
  generalize u 41 = u41
  generalize u 42 = u42
  generalize u 43 = u43
  generalize u 44 = u44
  generalize u 45 = u45
  generalize u 46 = u46
  generalize u 47 = u47
  generalize u 48 = u48
  generalize u 49 = u49
  generalize u 50 = u50
  generalize u 51 = u51
  generalize u 52 = u52
  generalize u 53 = u53
  generalize u 54 = u54
  generalize u 55 = u55
  generalize u 56 = u56
  generalize u 57 = u57
  generalize u 59 = u59
  generalize u 60 = u60
  generalize u 61 = u61
  generalize u 62 = u62
  generalize u 63 = u63
  generalize u 64 = u64
  generalize u 65 = u65
  generalize u 66 = u66
  generalize u 67 = u67
  generalize u 68 = u68
  generalize u 69 = u69
  generalize u 70 = u70
  generalize u 71 = u71
  generalize u 72 = u72
  generalize u 73 = u73
  generalize u 74 = u74
  generalize u 75 = u75
  generalize u 76 = u76
  generalize u 77 = u77
  generalize u 78 = u78
  generalize u 79 = u79
  generalize u 80 = u80
  generalize u 81 = u81
  generalize u 82 = u82
  generalize u 83 = u83
  generalize u 84 = u84
  generalize u 85 = u85
  generalize u 86 = u86
  generalize u 87 = u87
  generalize u 88 = u88
  generalize u 89 = u89
  generalize u 90 = u90
  generalize u 91 = u91
  generalize u 92 = u92
  generalize u 93 = u93
  generalize u 94 = u94
  generalize u 95 = u95
  generalize u 96 = u96
  generalize u 97 = u97
  generalize u 98 = u98
  generalize u 99 = u99
  generalize u 100 = u100
  generalize u 101 = u101
  generalize u 102 = u102
  generalize u 103 = u103
  generalize u 104 = u104
  generalize u 105 = u105
  generalize u 106 = u106
  generalize u 107 = u107
  generalize u 108 = u108
  generalize u 109 = u109
  generalize u 110 = u110
  generalize u 111 = u111
  generalize u 112 = u112
  generalize u 113 = u113
  generalize u 114 = u114
  generalize u 115 = u115
  generalize u 116 = u116
  generalize u 117 = u117
  generalize u 118 = u118
  generalize u 119 = u119
  generalize u 120 = u120
  generalize u 121 = u121
  generalize u 122 = u122
  generalize u 123 = u123
  generalize u 124 = u124
  generalize u 125 = u125
  generalize u 126 = u126
  generalize u 127 = u127
  generalize u 128 = u128
  generalize u 129 = u129
  generalize u 130 = u130
  generalize u 131 = u131
  generalize u 132 = u132
  generalize u 133 = u133
  generalize u 134 = u134
  generalize u 135 = u135
  generalize u 136 = u136
  generalize u 137 = u137
  generalize u 138 = u138
  generalize u 139 = u139
  generalize u 140 = u140
  generalize u 141 = u141
  generalize u 142 = u142
  generalize u 143 = u143
  generalize u 144 = u144
  generalize u 145 = u145
  generalize u 146 = u146
  generalize u 147 = u147
  generalize u 148 = u148
  generalize u 149 = u149
  generalize u 150 = u150
  generalize u 151 = u151
  generalize u 152 = u152
  generalize u 153 = u153
  generalize u 154 = u154
  generalize u 155 = u155
  generalize u 156 = u156
  generalize u 157 = u157
  generalize u 158 = u158
  generalize u 159 = u159
  clear u
  go_wp2
  exact HQ.out _ ⟨rfl, rfl, rfl, rfl, rfl, rfl, rfl, rfl, rfl, rfl, rfl, rfl, rfl, rfl, rfl, rfl, rfl, rfl⟩
end Go.Proofs.Ytoafjgioknkeiaa.Y
