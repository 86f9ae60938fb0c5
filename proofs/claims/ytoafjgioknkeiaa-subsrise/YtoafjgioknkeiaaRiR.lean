/-
  SubsRise's regions (mkri.py).
-/
import Derived.Test.YtoafjgioknkeiaaAllW
namespace Go.Proofs.Ytoafjgioknkeiaa.Y
open Go.RowKit

attribute [local go_sem ↓] Go.wp_at_zero Go.wp_at_succ
set_option linter.unusedSimpArgs false
set_option linter.unusedVariables false
set_option maxRecDepth 100000 in
theorem frame_ri (t : Array Value) (h : t.size = 189) : ∃ u : Nat → Value, t = List.toArray (u 0 :: u 1 :: u 2 :: u 3 :: u 4 :: u 5 :: u 6 :: u 7 :: u 8 :: u 9 :: u 10 :: u 11 :: u 12 :: u 13 :: u 14 :: u 15 :: u 16 :: u 17 :: u 18 :: u 19 :: u 20 :: u 21 :: u 22 :: u 23 :: u 24 :: u 25 :: u 26 :: u 27 :: u 28 :: u 29 :: u 30 :: u 31 :: u 32 :: u 33 :: u 34 :: u 35 :: u 36 :: u 37 :: u 38 :: u 39 :: u 40 :: u 41 :: u 42 :: u 43 :: u 44 :: u 45 :: u 46 :: u 47 :: u 48 :: u 49 :: u 50 :: u 51 :: u 52 :: u 53 :: u 54 :: u 55 :: u 56 :: u 57 :: u 58 :: u 59 :: u 60 :: u 61 :: u 62 :: u 63 :: u 64 :: u 65 :: u 66 :: u 67 :: u 68 :: u 69 :: u 70 :: u 71 :: u 72 :: u 73 :: u 74 :: u 75 :: u 76 :: u 77 :: u 78 :: u 79 :: u 80 :: u 81 :: u 82 :: u 83 :: u 84 :: u 85 :: u 86 :: u 87 :: u 88 :: u 89 :: u 90 :: u 91 :: u 92 :: u 93 :: u 94 :: u 95 :: u 96 :: u 97 :: u 98 :: u 99 :: u 100 :: u 101 :: u 102 :: u 103 :: u 104 :: u 105 :: u 106 :: u 107 :: u 108 :: u 109 :: u 110 :: u 111 :: u 112 :: u 113 :: u 114 :: u 115 :: u 116 :: u 117 :: u 118 :: u 119 :: u 120 :: u 121 :: u 122 :: u 123 :: u 124 :: u 125 :: u 126 :: u 127 :: u 128 :: u 129 :: u 130 :: u 131 :: u 132 :: u 133 :: u 134 :: u 135 :: u 136 :: u 137 :: u 138 :: u 139 :: u 140 :: u 141 :: u 142 :: u 143 :: u 144 :: u 145 :: u 146 :: u 147 :: u 148 :: u 149 :: u 150 :: u 151 :: u 152 :: u 153 :: u 154 :: u 155 :: u 156 :: u 157 :: u 158 :: u 159 :: u 160 :: u 161 :: u 162 :: u 163 :: u 164 :: u 165 :: u 166 :: u 167 :: u 168 :: u 169 :: u 170 :: u 171 :: u 172 :: u 173 :: u 174 :: u 175 :: u 176 :: u 177 :: u 178 :: u 179 :: u 180 :: u 181 :: u 182 :: u 183 :: u 184 :: u 185 :: u 186 :: u 187 :: u 188 :: []) := by
  refine ⟨fun i => t.getD i undef, ?_⟩
  have e : (List.toArray ((fun i => t.getD i undef) 0 :: (fun i => t.getD i undef) 1 :: (fun i => t.getD i undef) 2 :: (fun i => t.getD i undef) 3 :: (fun i => t.getD i undef) 4 :: (fun i => t.getD i undef) 5 :: (fun i => t.getD i undef) 6 :: (fun i => t.getD i undef) 7 :: (fun i => t.getD i undef) 8 :: (fun i => t.getD i undef) 9 :: (fun i => t.getD i undef) 10 :: (fun i => t.getD i undef) 11 :: (fun i => t.getD i undef) 12 :: (fun i => t.getD i undef) 13 :: (fun i => t.getD i undef) 14 :: (fun i => t.getD i undef) 15 :: (fun i => t.getD i undef) 16 :: (fun i => t.getD i undef) 17 :: (fun i => t.getD i undef) 18 :: (fun i => t.getD i undef) 19 :: (fun i => t.getD i undef) 20 :: (fun i => t.getD i undef) 21 :: (fun i => t.getD i undef) 22 :: (fun i => t.getD i undef) 23 :: (fun i => t.getD i undef) 24 :: (fun i => t.getD i undef) 25 :: (fun i => t.getD i undef) 26 :: (fun i => t.getD i undef) 27 :: (fun i => t.getD i undef) 28 :: (fun i => t.getD i undef) 29 :: (fun i => t.getD i undef) 30 :: (fun i => t.getD i undef) 31 :: (fun i => t.getD i undef) 32 :: (fun i => t.getD i undef) 33 :: (fun i => t.getD i undef) 34 :: (fun i => t.getD i undef) 35 :: (fun i => t.getD i undef) 36 :: (fun i => t.getD i undef) 37 :: (fun i => t.getD i undef) 38 :: (fun i => t.getD i undef) 39 :: (fun i => t.getD i undef) 40 :: (fun i => t.getD i undef) 41 :: (fun i => t.getD i undef) 42 :: (fun i => t.getD i undef) 43 :: (fun i => t.getD i undef) 44 :: (fun i => t.getD i undef) 45 :: (fun i => t.getD i undef) 46 :: (fun i => t.getD i undef) 47 :: (fun i => t.getD i undef) 48 :: (fun i => t.getD i undef) 49 :: (fun i => t.getD i undef) 50 :: (fun i => t.getD i undef) 51 :: (fun i => t.getD i undef) 52 :: (fun i => t.getD i undef) 53 :: (fun i => t.getD i undef) 54 :: (fun i => t.getD i undef) 55 :: (fun i => t.getD i undef) 56 :: (fun i => t.getD i undef) 57 :: (fun i => t.getD i undef) 58 :: (fun i => t.getD i undef) 59 :: (fun i => t.getD i undef) 60 :: (fun i => t.getD i undef) 61 :: (fun i => t.getD i undef) 62 :: (fun i => t.getD i undef) 63 :: (fun i => t.getD i undef) 64 :: (fun i => t.getD i undef) 65 :: (fun i => t.getD i undef) 66 :: (fun i => t.getD i undef) 67 :: (fun i => t.getD i undef) 68 :: (fun i => t.getD i undef) 69 :: (fun i => t.getD i undef) 70 :: (fun i => t.getD i undef) 71 :: (fun i => t.getD i undef) 72 :: (fun i => t.getD i undef) 73 :: (fun i => t.getD i undef) 74 :: (fun i => t.getD i undef) 75 :: (fun i => t.getD i undef) 76 :: (fun i => t.getD i undef) 77 :: (fun i => t.getD i undef) 78 :: (fun i => t.getD i undef) 79 :: (fun i => t.getD i undef) 80 :: (fun i => t.getD i undef) 81 :: (fun i => t.getD i undef) 82 :: (fun i => t.getD i undef) 83 :: (fun i => t.getD i undef) 84 :: (fun i => t.getD i undef) 85 :: (fun i => t.getD i undef) 86 :: (fun i => t.getD i undef) 87 :: (fun i => t.getD i undef) 88 :: (fun i => t.getD i undef) 89 :: (fun i => t.getD i undef) 90 :: (fun i => t.getD i undef) 91 :: (fun i => t.getD i undef) 92 :: (fun i => t.getD i undef) 93 :: (fun i => t.getD i undef) 94 :: (fun i => t.getD i undef) 95 :: (fun i => t.getD i undef) 96 :: (fun i => t.getD i undef) 97 :: (fun i => t.getD i undef) 98 :: (fun i => t.getD i undef) 99 :: (fun i => t.getD i undef) 100 :: (fun i => t.getD i undef) 101 :: (fun i => t.getD i undef) 102 :: (fun i => t.getD i undef) 103 :: (fun i => t.getD i undef) 104 :: (fun i => t.getD i undef) 105 :: (fun i => t.getD i undef) 106 :: (fun i => t.getD i undef) 107 :: (fun i => t.getD i undef) 108 :: (fun i => t.getD i undef) 109 :: (fun i => t.getD i undef) 110 :: (fun i => t.getD i undef) 111 :: (fun i => t.getD i undef) 112 :: (fun i => t.getD i undef) 113 :: (fun i => t.getD i undef) 114 :: (fun i => t.getD i undef) 115 :: (fun i => t.getD i undef) 116 :: (fun i => t.getD i undef) 117 :: (fun i => t.getD i undef) 118 :: (fun i => t.getD i undef) 119 :: (fun i => t.getD i undef) 120 :: (fun i => t.getD i undef) 121 :: (fun i => t.getD i undef) 122 :: (fun i => t.getD i undef) 123 :: (fun i => t.getD i undef) 124 :: (fun i => t.getD i undef) 125 :: (fun i => t.getD i undef) 126 :: (fun i => t.getD i undef) 127 :: (fun i => t.getD i undef) 128 :: (fun i => t.getD i undef) 129 :: (fun i => t.getD i undef) 130 :: (fun i => t.getD i undef) 131 :: (fun i => t.getD i undef) 132 :: (fun i => t.getD i undef) 133 :: (fun i => t.getD i undef) 134 :: (fun i => t.getD i undef) 135 :: (fun i => t.getD i undef) 136 :: (fun i => t.getD i undef) 137 :: (fun i => t.getD i undef) 138 :: (fun i => t.getD i undef) 139 :: (fun i => t.getD i undef) 140 :: (fun i => t.getD i undef) 141 :: (fun i => t.getD i undef) 142 :: (fun i => t.getD i undef) 143 :: (fun i => t.getD i undef) 144 :: (fun i => t.getD i undef) 145 :: (fun i => t.getD i undef) 146 :: (fun i => t.getD i undef) 147 :: (fun i => t.getD i undef) 148 :: (fun i => t.getD i undef) 149 :: (fun i => t.getD i undef) 150 :: (fun i => t.getD i undef) 151 :: (fun i => t.getD i undef) 152 :: (fun i => t.getD i undef) 153 :: (fun i => t.getD i undef) 154 :: (fun i => t.getD i undef) 155 :: (fun i => t.getD i undef) 156 :: (fun i => t.getD i undef) 157 :: (fun i => t.getD i undef) 158 :: (fun i => t.getD i undef) 159 :: (fun i => t.getD i undef) 160 :: (fun i => t.getD i undef) 161 :: (fun i => t.getD i undef) 162 :: (fun i => t.getD i undef) 163 :: (fun i => t.getD i undef) 164 :: (fun i => t.getD i undef) 165 :: (fun i => t.getD i undef) 166 :: (fun i => t.getD i undef) 167 :: (fun i => t.getD i undef) 168 :: (fun i => t.getD i undef) 169 :: (fun i => t.getD i undef) 170 :: (fun i => t.getD i undef) 171 :: (fun i => t.getD i undef) 172 :: (fun i => t.getD i undef) 173 :: (fun i => t.getD i undef) 174 :: (fun i => t.getD i undef) 175 :: (fun i => t.getD i undef) 176 :: (fun i => t.getD i undef) 177 :: (fun i => t.getD i undef) 178 :: (fun i => t.getD i undef) 179 :: (fun i => t.getD i undef) 180 :: (fun i => t.getD i undef) 181 :: (fun i => t.getD i undef) 182 :: (fun i => t.getD i undef) 183 :: (fun i => t.getD i undef) 184 :: (fun i => t.getD i undef) 185 :: (fun i => t.getD i undef) 186 :: (fun i => t.getD i undef) 187 :: (fun i => t.getD i undef) 188 :: []) : Array Value) = ((List.range 189).map fun i => t.getD i undef).toArray := rfl
  refine Eq.trans ?_ e.symm
  apply Array.ext
  · simp [h]
  · intro k h1 h2
    simp [Array.getD, h1]
/-- The slots that matter. -/
structure Vri where
  v0 : Value
  v1 : Value
  v2 : Value
  v6 : Value
  v7 : Value
  v8 : Value
  v10 : Value
  v11 : Value
  v12 : Value
  v13 : Value
  v14 : Value
  v15 : Value
  v16 : Value
  v17 : Value
  v18 : Value
  v19 : Value
  v72 : Value
structure Fri (a : Act) (v : Vri) : Prop where
  size : a.tmps.size = 189
  defers : a.defers = []
  s0 : a.tmps.getD 0 undef = v.v0
  s1 : a.tmps.getD 1 undef = v.v1
  s2 : a.tmps.getD 2 undef = v.v2
  s6 : a.tmps.getD 6 undef = v.v6
  s7 : a.tmps.getD 7 undef = v.v7
  s8 : a.tmps.getD 8 undef = v.v8
  s10 : a.tmps.getD 10 undef = v.v10
  s11 : a.tmps.getD 11 undef = v.v11
  s12 : a.tmps.getD 12 undef = v.v12
  s13 : a.tmps.getD 13 undef = v.v13
  s14 : a.tmps.getD 14 undef = v.v14
  s15 : a.tmps.getD 15 undef = v.v15
  s16 : a.tmps.getD 16 undef = v.v16
  s17 : a.tmps.getD 17 undef = v.v17
  s18 : a.tmps.getD 18 undef = v.v18
  s19 : a.tmps.getD 19 undef = v.v19
  s72 : a.tmps.getD 72 undef = v.v72
set_option maxHeartbeats 8000000 in
set_option maxRecDepth 100000 in
theorem ri_r0 {K : Act → World → Prop} {c : Code} (hc : regOf (Try.f3.body.getD .skip) 0 = some c) (a : Act) {v : Vri} {wq : World}  (hF : Fri a v) (hQ : ∀ a', Fri a' { v with v6 := .bool false } → K a' wq) :
    Code.wp Try.prog c (Exit.then K fun _ _ _ => False) a wq := by
  have HQ := hide hQ
  clear hQ
  obtain ⟨t', d'⟩ := a
  obtain ⟨v0, v1, v2, v6, v7, v8, v10, v11, v12, v13, v14, v15, v16, v17, v18, v19, v72⟩ := v
  obtain ⟨hs1, hd1, q0, q1, q2, q6, q7, q8, q10, q11, q12, q13, q14, q15, q16, q17, q18, q19, q72⟩ := hF
  obtain ⟨u, hu⟩ := frame_ri t' hs1
  simp only at hd1 q0 q1 q2 q6 q7 q8 q10 q11 q12 q13 q14 q15 q16 q17 q18 q19 q72
  subst hu hd1
  have e0 : u 0 = v0 := q0
  have e1 : u 1 = v1 := q1
  have e2 : u 2 = v2 := q2
  have e6 : u 6 = v6 := q6
  have e7 : u 7 = v7 := q7
  have e8 : u 8 = v8 := q8
  have e10 : u 10 = v10 := q10
  have e11 : u 11 = v11 := q11
  have e12 : u 12 = v12 := q12
  have e13 : u 13 = v13 := q13
  have e14 : u 14 = v14 := q14
  have e15 : u 15 = v15 := q15
  have e16 : u 16 = v16 := q16
  have e17 : u 17 = v17 := q17
  have e18 : u 18 = v18 := q18
  have e19 : u 19 = v19 := q19
  have e72 : u 72 = v72 := q72
  rw [e0, e1, e2, e6, e7, e8, e10, e11, e12, e13, e14, e15, e16, e17, e18, e19, e72]
  clear q0 e0 q1 e1 q2 e2 q6 e6 q7 e7 q8 e8 q10 e10 q11 e11 q12 e12 q13 e13 q14 e14 q15 e15 q16 e16 q17 e17 q18 e18 q19 e19 q72 e72 hs1
  simp only [Try.f3, Option.getD_some, regOf] at hc
  injection hc with hc
  subst hc
  generalize u 3 = u3
  generalize u 4 = u4
  generalize u 5 = u5
  generalize u 9 = u9
  generalize u 20 = u20
  generalize u 21 = u21
  generalize u 22 = u22
  generalize u 23 = u23
  generalize u 24 = u24
  generalize u 25 = u25
  generalize u 26 = u26
  generalize u 27 = u27
  generalize u 28 = u28
  generalize u 29 = u29
  generalize u 30 = u30
  generalize u 31 = u31
  generalize u 32 = u32
  generalize u 33 = u33
  generalize u 34 = u34
  generalize u 35 = u35
  generalize u 36 = u36
  generalize u 37 = u37
  generalize u 38 = u38
  generalize u 39 = u39
  generalize u 40 = u40
  generalize u 41 = u41
  generalize u 42 = u42
  generalize u 43 = u43
  generalize u 44 = u44
  generalize u 45 = u45
  generalize u 46 = u46
  generalize u 47 = u47
  generalize u 48 = u48
  generalize u 49 = u49
  generalize u 50 = u50
  generalize u 51 = u51
  generalize u 52 = u52
  generalize u 53 = u53
  generalize u 54 = u54
  generalize u 55 = u55
  generalize u 56 = u56
  generalize u 57 = u57
  generalize u 58 = u58
  generalize u 59 = u59
  generalize u 60 = u60
  generalize u 61 = u61
  generalize u 62 = u62
  generalize u 63 = u63
  generalize u 64 = u64
  generalize u 65 = u65
  generalize u 66 = u66
  generalize u 67 = u67
  generalize u 68 = u68
  generalize u 69 = u69
  generalize u 70 = u70
  generalize u 71 = u71
  generalize u 73 = u73
  generalize u 74 = u74
  generalize u 75 = u75
  generalize u 76 = u76
  generalize u 77 = u77
  generalize u 78 = u78
  generalize u 79 = u79
  generalize u 80 = u80
  generalize u 81 = u81
  generalize u 82 = u82
  generalize u 83 = u83
  generalize u 84 = u84
  generalize u 85 = u85
  generalize u 86 = u86
  generalize u 87 = u87
  generalize u 88 = u88
  generalize u 89 = u89
  generalize u 90 = u90
  generalize u 91 = u91
  generalize u 92 = u92
  generalize u 93 = u93
  generalize u 94 = u94
  generalize u 95 = u95
  generalize u 96 = u96
  generalize u 97 = u97
  generalize u 98 = u98
  generalize u 99 = u99
  generalize u 100 = u100
  generalize u 101 = u101
  generalize u 102 = u102
  generalize u 103 = u103
  generalize u 104 = u104
  generalize u 105 = u105
  generalize u 106 = u106
  generalize u 107 = u107
  generalize u 108 = u108
  generalize u 109 = u109
  generalize u 110 = u110
  generalize u 111 = u111
  generalize u 112 = u112
  generalize u 113 = u113
  generalize u 114 = u114
  generalize u 115 = u115
  generalize u 116 = u116
  generalize u 117 = u117
  generalize u 118 = u118
  generalize u 119 = u119
  generalize u 120 = u120
  generalize u 121 = u121
  generalize u 122 = u122
  generalize u 123 = u123
  generalize u 124 = u124
  generalize u 125 = u125
  generalize u 126 = u126
  generalize u 127 = u127
  generalize u 128 = u128
  generalize u 129 = u129
  generalize u 130 = u130
  generalize u 131 = u131
  generalize u 132 = u132
  generalize u 133 = u133
  generalize u 134 = u134
  generalize u 135 = u135
  generalize u 136 = u136
  generalize u 137 = u137
  generalize u 138 = u138
  generalize u 139 = u139
  generalize u 140 = u140
  generalize u 141 = u141
  generalize u 142 = u142
  generalize u 143 = u143
  generalize u 144 = u144
  generalize u 145 = u145
  generalize u 146 = u146
  generalize u 147 = u147
  generalize u 148 = u148
  generalize u 149 = u149
  generalize u 150 = u150
  generalize u 151 = u151
  generalize u 152 = u152
  generalize u 153 = u153
  generalize u 154 = u154
  generalize u 155 = u155
  generalize u 156 = u156
  generalize u 157 = u157
  generalize u 158 = u158
  generalize u 159 = u159
  generalize u 160 = u160
  generalize u 161 = u161
  generalize u 162 = u162
  generalize u 163 = u163
  generalize u 164 = u164
  generalize u 165 = u165
  generalize u 166 = u166
  generalize u 167 = u167
  generalize u 168 = u168
  generalize u 169 = u169
  generalize u 170 = u170
  generalize u 171 = u171
  generalize u 172 = u172
  generalize u 173 = u173
  generalize u 174 = u174
  generalize u 175 = u175
  generalize u 176 = u176
  generalize u 177 = u177
  generalize u 178 = u178
  generalize u 179 = u179
  generalize u 180 = u180
  generalize u 181 = u181
  generalize u 182 = u182
  generalize u 183 = u183
  generalize u 184 = u184
  generalize u 185 = u185
  generalize u 186 = u186
  generalize u 187 = u187
  generalize u 188 = u188
  clear u
  go_wp2
  exact HQ.out _ ⟨rfl, rfl, rfl, rfl, rfl, rfl, rfl, rfl, rfl, rfl, rfl, rfl, rfl, rfl, rfl, rfl, rfl, rfl, rfl⟩
set_option maxHeartbeats 8000000 in
set_option maxRecDepth 100000 in
theorem ri_r1 {K : Act → World → Prop} {c : Code} (hc : regOf (Try.f3.body.getD .skip) 1 = some c) (a : Act) {v : Vri} {wq : World} {R : World → Prop} (hF : Fri a v) (hE : Calls Try.prog 7 #[] wq fun e w' => e = .returned (.bool true) ∧ R w')
    (hQ : ∀ a' w' , Fri a' { v with v7 := .bool true } → R w' → K a' w') :
    Code.wp Try.prog c (Exit.then K fun _ _ _ => False) a wq := by
  have HQ := hide hQ
  clear hQ
  obtain ⟨t', d'⟩ := a
  obtain ⟨v0, v1, v2, v6, v7, v8, v10, v11, v12, v13, v14, v15, v16, v17, v18, v19, v72⟩ := v
  obtain ⟨hs1, hd1, q0, q1, q2, q6, q7, q8, q10, q11, q12, q13, q14, q15, q16, q17, q18, q19, q72⟩ := hF
  obtain ⟨u, hu⟩ := frame_ri t' hs1
  simp only at hd1 q0 q1 q2 q6 q7 q8 q10 q11 q12 q13 q14 q15 q16 q17 q18 q19 q72
  subst hu hd1
  have e0 : u 0 = v0 := q0
  have e1 : u 1 = v1 := q1
  have e2 : u 2 = v2 := q2
  have e6 : u 6 = v6 := q6
  have e7 : u 7 = v7 := q7
  have e8 : u 8 = v8 := q8
  have e10 : u 10 = v10 := q10
  have e11 : u 11 = v11 := q11
  have e12 : u 12 = v12 := q12
  have e13 : u 13 = v13 := q13
  have e14 : u 14 = v14 := q14
  have e15 : u 15 = v15 := q15
  have e16 : u 16 = v16 := q16
  have e17 : u 17 = v17 := q17
  have e18 : u 18 = v18 := q18
  have e19 : u 19 = v19 := q19
  have e72 : u 72 = v72 := q72
  rw [e0, e1, e2, e6, e7, e8, e10, e11, e12, e13, e14, e15, e16, e17, e18, e19, e72]
  clear q0 e0 q1 e1 q2 e2 q6 e6 q7 e7 q8 e8 q10 e10 q11 e11 q12 e12 q13 e13 q14 e14 q15 e15 q16 e16 q17 e17 q18 e18 q19 e19 q72 e72 hs1
  simp only [Try.f3, Option.getD_some, regOf] at hc
  injection hc with hc
  subst hc
  generalize u 3 = u3
  generalize u 4 = u4
  generalize u 5 = u5
  generalize u 9 = u9
  generalize u 20 = u20
  generalize u 21 = u21
  generalize u 22 = u22
  generalize u 23 = u23
  generalize u 24 = u24
  generalize u 25 = u25
  generalize u 26 = u26
  generalize u 27 = u27
  generalize u 28 = u28
  generalize u 29 = u29
  generalize u 30 = u30
  generalize u 31 = u31
  generalize u 32 = u32
  generalize u 33 = u33
  generalize u 34 = u34
  generalize u 35 = u35
  generalize u 36 = u36
  generalize u 37 = u37
  generalize u 38 = u38
  generalize u 39 = u39
  generalize u 40 = u40
  generalize u 41 = u41
  generalize u 42 = u42
  generalize u 43 = u43
  generalize u 44 = u44
  generalize u 45 = u45
  generalize u 46 = u46
  generalize u 47 = u47
  generalize u 48 = u48
  generalize u 49 = u49
  generalize u 50 = u50
  generalize u 51 = u51
  generalize u 52 = u52
  generalize u 53 = u53
  generalize u 54 = u54
  generalize u 55 = u55
  generalize u 56 = u56
  generalize u 57 = u57
  generalize u 58 = u58
  generalize u 59 = u59
  generalize u 60 = u60
  generalize u 61 = u61
  generalize u 62 = u62
  generalize u 63 = u63
  generalize u 64 = u64
  generalize u 65 = u65
  generalize u 66 = u66
  generalize u 67 = u67
  generalize u 68 = u68
  generalize u 69 = u69
  generalize u 70 = u70
  generalize u 71 = u71
  generalize u 73 = u73
  generalize u 74 = u74
  generalize u 75 = u75
  generalize u 76 = u76
  generalize u 77 = u77
  generalize u 78 = u78
  generalize u 79 = u79
  generalize u 80 = u80
  generalize u 81 = u81
  generalize u 82 = u82
  generalize u 83 = u83
  generalize u 84 = u84
  generalize u 85 = u85
  generalize u 86 = u86
  generalize u 87 = u87
  generalize u 88 = u88
  generalize u 89 = u89
  generalize u 90 = u90
  generalize u 91 = u91
  generalize u 92 = u92
  generalize u 93 = u93
  generalize u 94 = u94
  generalize u 95 = u95
  generalize u 96 = u96
  generalize u 97 = u97
  generalize u 98 = u98
  generalize u 99 = u99
  generalize u 100 = u100
  generalize u 101 = u101
  generalize u 102 = u102
  generalize u 103 = u103
  generalize u 104 = u104
  generalize u 105 = u105
  generalize u 106 = u106
  generalize u 107 = u107
  generalize u 108 = u108
  generalize u 109 = u109
  generalize u 110 = u110
  generalize u 111 = u111
  generalize u 112 = u112
  generalize u 113 = u113
  generalize u 114 = u114
  generalize u 115 = u115
  generalize u 116 = u116
  generalize u 117 = u117
  generalize u 118 = u118
  generalize u 119 = u119
  generalize u 120 = u120
  generalize u 121 = u121
  generalize u 122 = u122
  generalize u 123 = u123
  generalize u 124 = u124
  generalize u 125 = u125
  generalize u 126 = u126
  generalize u 127 = u127
  generalize u 128 = u128
  generalize u 129 = u129
  generalize u 130 = u130
  generalize u 131 = u131
  generalize u 132 = u132
  generalize u 133 = u133
  generalize u 134 = u134
  generalize u 135 = u135
  generalize u 136 = u136
  generalize u 137 = u137
  generalize u 138 = u138
  generalize u 139 = u139
  generalize u 140 = u140
  generalize u 141 = u141
  generalize u 142 = u142
  generalize u 143 = u143
  generalize u 144 = u144
  generalize u 145 = u145
  generalize u 146 = u146
  generalize u 147 = u147
  generalize u 148 = u148
  generalize u 149 = u149
  generalize u 150 = u150
  generalize u 151 = u151
  generalize u 152 = u152
  generalize u 153 = u153
  generalize u 154 = u154
  generalize u 155 = u155
  generalize u 156 = u156
  generalize u 157 = u157
  generalize u 158 = u158
  generalize u 159 = u159
  generalize u 160 = u160
  generalize u 161 = u161
  generalize u 162 = u162
  generalize u 163 = u163
  generalize u 164 = u164
  generalize u 165 = u165
  generalize u 166 = u166
  generalize u 167 = u167
  generalize u 168 = u168
  generalize u 169 = u169
  generalize u 170 = u170
  generalize u 171 = u171
  generalize u 172 = u172
  generalize u 173 = u173
  generalize u 174 = u174
  generalize u 175 = u175
  generalize u 176 = u176
  generalize u 177 = u177
  generalize u 178 = u178
  generalize u 179 = u179
  generalize u 180 = u180
  generalize u 181 = u181
  generalize u 182 = u182
  generalize u 183 = u183
  generalize u 184 = u184
  generalize u 185 = u185
  generalize u 186 = u186
  generalize u 187 = u187
  generalize u 188 = u188
  clear u
  have HE := hide hE
  clear hE
  go_wp2_with (go_at_call 7; refine HE.out.mono ?_; rintro e w1 ⟨rfl, r1⟩; have R1 := hide r1; clear r1)
  exact HQ.out _ _ ⟨rfl, rfl, rfl, rfl, rfl, rfl, rfl, rfl, rfl, rfl, rfl, rfl, rfl, rfl, rfl, rfl, rfl, rfl, rfl⟩ R1.out
set_option maxHeartbeats 8000000 in
set_option maxRecDepth 100000 in
theorem ri_r2 {K : Act → World → Prop} {c : Code} (hc : regOf (Try.f3.body.getD .skip) 2 = some c) (a : Act) {v : Vri} {wq : World} {R : LOC → World → Prop} (hF : Fri a v) (hE : Calls Try.prog 8 #[.string ⟨#[116]⟩] wq fun e w' => ∃ L : LOC, e = .returned (.tuple #[.pointer (some ⟨L.b, 0, none⟩), .int .i64 0]) ∧ R L w')
    (hQ : ∀ a' w' (L : LOC), Fri a' { v with v8 := .pointer (some ⟨L.b, 0, none⟩) } → R L w' → K a' w') :
    Code.wp Try.prog c (Exit.then K fun _ _ _ => False) a wq := by
  have HQ := hide hQ
  clear hQ
  obtain ⟨t', d'⟩ := a
  obtain ⟨v0, v1, v2, v6, v7, v8, v10, v11, v12, v13, v14, v15, v16, v17, v18, v19, v72⟩ := v
  obtain ⟨hs1, hd1, q0, q1, q2, q6, q7, q8, q10, q11, q12, q13, q14, q15, q16, q17, q18, q19, q72⟩ := hF
  obtain ⟨u, hu⟩ := frame_ri t' hs1
  simp only at hd1 q0 q1 q2 q6 q7 q8 q10 q11 q12 q13 q14 q15 q16 q17 q18 q19 q72
  subst hu hd1
  have e0 : u 0 = v0 := q0
  have e1 : u 1 = v1 := q1
  have e2 : u 2 = v2 := q2
  have e6 : u 6 = v6 := q6
  have e7 : u 7 = v7 := q7
  have e8 : u 8 = v8 := q8
  have e10 : u 10 = v10 := q10
  have e11 : u 11 = v11 := q11
  have e12 : u 12 = v12 := q12
  have e13 : u 13 = v13 := q13
  have e14 : u 14 = v14 := q14
  have e15 : u 15 = v15 := q15
  have e16 : u 16 = v16 := q16
  have e17 : u 17 = v17 := q17
  have e18 : u 18 = v18 := q18
  have e19 : u 19 = v19 := q19
  have e72 : u 72 = v72 := q72
  rw [e0, e1, e2, e6, e7, e8, e10, e11, e12, e13, e14, e15, e16, e17, e18, e19, e72]
  clear q0 e0 q1 e1 q2 e2 q6 e6 q7 e7 q8 e8 q10 e10 q11 e11 q12 e12 q13 e13 q14 e14 q15 e15 q16 e16 q17 e17 q18 e18 q19 e19 q72 e72 hs1
  simp only [Try.f3, Option.getD_some, regOf] at hc
  injection hc with hc
  subst hc
  generalize u 3 = u3
  generalize u 4 = u4
  generalize u 5 = u5
  generalize u 9 = u9
  generalize u 20 = u20
  generalize u 21 = u21
  generalize u 22 = u22
  generalize u 23 = u23
  generalize u 24 = u24
  generalize u 25 = u25
  generalize u 26 = u26
  generalize u 27 = u27
  generalize u 28 = u28
  generalize u 29 = u29
  generalize u 30 = u30
  generalize u 31 = u31
  generalize u 32 = u32
  generalize u 33 = u33
  generalize u 34 = u34
  generalize u 35 = u35
  generalize u 36 = u36
  generalize u 37 = u37
  generalize u 38 = u38
  generalize u 39 = u39
  generalize u 40 = u40
  generalize u 41 = u41
  generalize u 42 = u42
  generalize u 43 = u43
  generalize u 44 = u44
  generalize u 45 = u45
  generalize u 46 = u46
  generalize u 47 = u47
  generalize u 48 = u48
  generalize u 49 = u49
  generalize u 50 = u50
  generalize u 51 = u51
  generalize u 52 = u52
  generalize u 53 = u53
  generalize u 54 = u54
  generalize u 55 = u55
  generalize u 56 = u56
  generalize u 57 = u57
  generalize u 58 = u58
  generalize u 59 = u59
  generalize u 60 = u60
  generalize u 61 = u61
  generalize u 62 = u62
  generalize u 63 = u63
  generalize u 64 = u64
  generalize u 65 = u65
  generalize u 66 = u66
  generalize u 67 = u67
  generalize u 68 = u68
  generalize u 69 = u69
  generalize u 70 = u70
  generalize u 71 = u71
  generalize u 73 = u73
  generalize u 74 = u74
  generalize u 75 = u75
  generalize u 76 = u76
  generalize u 77 = u77
  generalize u 78 = u78
  generalize u 79 = u79
  generalize u 80 = u80
  generalize u 81 = u81
  generalize u 82 = u82
  generalize u 83 = u83
  generalize u 84 = u84
  generalize u 85 = u85
  generalize u 86 = u86
  generalize u 87 = u87
  generalize u 88 = u88
  generalize u 89 = u89
  generalize u 90 = u90
  generalize u 91 = u91
  generalize u 92 = u92
  generalize u 93 = u93
  generalize u 94 = u94
  generalize u 95 = u95
  generalize u 96 = u96
  generalize u 97 = u97
  generalize u 98 = u98
  generalize u 99 = u99
  generalize u 100 = u100
  generalize u 101 = u101
  generalize u 102 = u102
  generalize u 103 = u103
  generalize u 104 = u104
  generalize u 105 = u105
  generalize u 106 = u106
  generalize u 107 = u107
  generalize u 108 = u108
  generalize u 109 = u109
  generalize u 110 = u110
  generalize u 111 = u111
  generalize u 112 = u112
  generalize u 113 = u113
  generalize u 114 = u114
  generalize u 115 = u115
  generalize u 116 = u116
  generalize u 117 = u117
  generalize u 118 = u118
  generalize u 119 = u119
  generalize u 120 = u120
  generalize u 121 = u121
  generalize u 122 = u122
  generalize u 123 = u123
  generalize u 124 = u124
  generalize u 125 = u125
  generalize u 126 = u126
  generalize u 127 = u127
  generalize u 128 = u128
  generalize u 129 = u129
  generalize u 130 = u130
  generalize u 131 = u131
  generalize u 132 = u132
  generalize u 133 = u133
  generalize u 134 = u134
  generalize u 135 = u135
  generalize u 136 = u136
  generalize u 137 = u137
  generalize u 138 = u138
  generalize u 139 = u139
  generalize u 140 = u140
  generalize u 141 = u141
  generalize u 142 = u142
  generalize u 143 = u143
  generalize u 144 = u144
  generalize u 145 = u145
  generalize u 146 = u146
  generalize u 147 = u147
  generalize u 148 = u148
  generalize u 149 = u149
  generalize u 150 = u150
  generalize u 151 = u151
  generalize u 152 = u152
  generalize u 153 = u153
  generalize u 154 = u154
  generalize u 155 = u155
  generalize u 156 = u156
  generalize u 157 = u157
  generalize u 158 = u158
  generalize u 159 = u159
  generalize u 160 = u160
  generalize u 161 = u161
  generalize u 162 = u162
  generalize u 163 = u163
  generalize u 164 = u164
  generalize u 165 = u165
  generalize u 166 = u166
  generalize u 167 = u167
  generalize u 168 = u168
  generalize u 169 = u169
  generalize u 170 = u170
  generalize u 171 = u171
  generalize u 172 = u172
  generalize u 173 = u173
  generalize u 174 = u174
  generalize u 175 = u175
  generalize u 176 = u176
  generalize u 177 = u177
  generalize u 178 = u178
  generalize u 179 = u179
  generalize u 180 = u180
  generalize u 181 = u181
  generalize u 182 = u182
  generalize u 183 = u183
  generalize u 184 = u184
  generalize u 185 = u185
  generalize u 186 = u186
  generalize u 187 = u187
  generalize u 188 = u188
  clear u
  have HE := hide hE
  clear hE
  go_wp2_with (go_at_call 8; refine HE.out.mono ?_; rintro e w1 ⟨L, rfl, r1⟩; have R1 := hide r1; clear r1)
  exact HQ.out _ _ L ⟨rfl, rfl, rfl, rfl, rfl, rfl, rfl, rfl, rfl, rfl, rfl, rfl, rfl, rfl, rfl, rfl, rfl, rfl, rfl⟩ R1.out
set_option maxHeartbeats 8000000 in
set_option maxRecDepth 100000 in
theorem ri_r3 {K : Act → World → Prop} {c : Code} (hc : regOf (Try.f3.body.getD .skip) 3 = some c) (a : Act) {v : Vri} {wq : World} {L : LOC} (hF : Fri a v) (h8v : v.v8 = .pointer (some ⟨L.b, 0, none⟩)) (hQ : ∀ a', Fri a' v → a'.tmps.getD 26 undef = .bool false → K a' wq) :
    Code.wp Try.prog c (Exit.then K fun _ _ _ => False) a wq := by
  have HQ := hide hQ
  clear hQ
  obtain ⟨t', d'⟩ := a
  obtain ⟨v0, v1, v2, v6, v7, v8, v10, v11, v12, v13, v14, v15, v16, v17, v18, v19, v72⟩ := v
  simp only at h8v HQ
  subst h8v
  obtain ⟨hs1, hd1, q0, q1, q2, q6, q7, q8, q10, q11, q12, q13, q14, q15, q16, q17, q18, q19, q72⟩ := hF
  obtain ⟨u, hu⟩ := frame_ri t' hs1
  simp only at hd1 q0 q1 q2 q6 q7 q8 q10 q11 q12 q13 q14 q15 q16 q17 q18 q19 q72
  subst hu hd1
  have e0 : u 0 = v0 := q0
  have e1 : u 1 = v1 := q1
  have e2 : u 2 = v2 := q2
  have e6 : u 6 = v6 := q6
  have e7 : u 7 = v7 := q7
  have e8 : u 8 = .pointer (some ⟨L.b, 0, none⟩) := q8
  have e10 : u 10 = v10 := q10
  have e11 : u 11 = v11 := q11
  have e12 : u 12 = v12 := q12
  have e13 : u 13 = v13 := q13
  have e14 : u 14 = v14 := q14
  have e15 : u 15 = v15 := q15
  have e16 : u 16 = v16 := q16
  have e17 : u 17 = v17 := q17
  have e18 : u 18 = v18 := q18
  have e19 : u 19 = v19 := q19
  have e72 : u 72 = v72 := q72
  rw [e0, e1, e2, e6, e7, e8, e10, e11, e12, e13, e14, e15, e16, e17, e18, e19, e72]
  clear q0 e0 q1 e1 q2 e2 q6 e6 q7 e7 q8 e8 q10 e10 q11 e11 q12 e12 q13 e13 q14 e14 q15 e15 q16 e16 q17 e17 q18 e18 q19 e19 q72 e72 hs1
  simp only [Try.f3, Option.getD_some, regOf] at hc
  injection hc with hc
  subst hc
  generalize u 3 = u3
  generalize u 4 = u4
  generalize u 5 = u5
  generalize u 9 = u9
  generalize u 20 = u20
  generalize u 21 = u21
  generalize u 22 = u22
  generalize u 23 = u23
  generalize u 24 = u24
  generalize u 25 = u25
  generalize u 26 = u26
  generalize u 27 = u27
  generalize u 28 = u28
  generalize u 29 = u29
  generalize u 30 = u30
  generalize u 31 = u31
  generalize u 32 = u32
  generalize u 33 = u33
  generalize u 34 = u34
  generalize u 35 = u35
  generalize u 36 = u36
  generalize u 37 = u37
  generalize u 38 = u38
  generalize u 39 = u39
  generalize u 40 = u40
  generalize u 41 = u41
  generalize u 42 = u42
  generalize u 43 = u43
  generalize u 44 = u44
  generalize u 45 = u45
  generalize u 46 = u46
  generalize u 47 = u47
  generalize u 48 = u48
  generalize u 49 = u49
  generalize u 50 = u50
  generalize u 51 = u51
  generalize u 52 = u52
  generalize u 53 = u53
  generalize u 54 = u54
  generalize u 55 = u55
  generalize u 56 = u56
  generalize u 57 = u57
  generalize u 58 = u58
  generalize u 59 = u59
  generalize u 60 = u60
  generalize u 61 = u61
  generalize u 62 = u62
  generalize u 63 = u63
  generalize u 64 = u64
  generalize u 65 = u65
  generalize u 66 = u66
  generalize u 67 = u67
  generalize u 68 = u68
  generalize u 69 = u69
  generalize u 70 = u70
  generalize u 71 = u71
  generalize u 73 = u73
  generalize u 74 = u74
  generalize u 75 = u75
  generalize u 76 = u76
  generalize u 77 = u77
  generalize u 78 = u78
  generalize u 79 = u79
  generalize u 80 = u80
  generalize u 81 = u81
  generalize u 82 = u82
  generalize u 83 = u83
  generalize u 84 = u84
  generalize u 85 = u85
  generalize u 86 = u86
  generalize u 87 = u87
  generalize u 88 = u88
  generalize u 89 = u89
  generalize u 90 = u90
  generalize u 91 = u91
  generalize u 92 = u92
  generalize u 93 = u93
  generalize u 94 = u94
  generalize u 95 = u95
  generalize u 96 = u96
  generalize u 97 = u97
  generalize u 98 = u98
  generalize u 99 = u99
  generalize u 100 = u100
  generalize u 101 = u101
  generalize u 102 = u102
  generalize u 103 = u103
  generalize u 104 = u104
  generalize u 105 = u105
  generalize u 106 = u106
  generalize u 107 = u107
  generalize u 108 = u108
  generalize u 109 = u109
  generalize u 110 = u110
  generalize u 111 = u111
  generalize u 112 = u112
  generalize u 113 = u113
  generalize u 114 = u114
  generalize u 115 = u115
  generalize u 116 = u116
  generalize u 117 = u117
  generalize u 118 = u118
  generalize u 119 = u119
  generalize u 120 = u120
  generalize u 121 = u121
  generalize u 122 = u122
  generalize u 123 = u123
  generalize u 124 = u124
  generalize u 125 = u125
  generalize u 126 = u126
  generalize u 127 = u127
  generalize u 128 = u128
  generalize u 129 = u129
  generalize u 130 = u130
  generalize u 131 = u131
  generalize u 132 = u132
  generalize u 133 = u133
  generalize u 134 = u134
  generalize u 135 = u135
  generalize u 136 = u136
  generalize u 137 = u137
  generalize u 138 = u138
  generalize u 139 = u139
  generalize u 140 = u140
  generalize u 141 = u141
  generalize u 142 = u142
  generalize u 143 = u143
  generalize u 144 = u144
  generalize u 145 = u145
  generalize u 146 = u146
  generalize u 147 = u147
  generalize u 148 = u148
  generalize u 149 = u149
  generalize u 150 = u150
  generalize u 151 = u151
  generalize u 152 = u152
  generalize u 153 = u153
  generalize u 154 = u154
  generalize u 155 = u155
  generalize u 156 = u156
  generalize u 157 = u157
  generalize u 158 = u158
  generalize u 159 = u159
  generalize u 160 = u160
  generalize u 161 = u161
  generalize u 162 = u162
  generalize u 163 = u163
  generalize u 164 = u164
  generalize u 165 = u165
  generalize u 166 = u166
  generalize u 167 = u167
  generalize u 168 = u168
  generalize u 169 = u169
  generalize u 170 = u170
  generalize u 171 = u171
  generalize u 172 = u172
  generalize u 173 = u173
  generalize u 174 = u174
  generalize u 175 = u175
  generalize u 176 = u176
  generalize u 177 = u177
  generalize u 178 = u178
  generalize u 179 = u179
  generalize u 180 = u180
  generalize u 181 = u181
  generalize u 182 = u182
  generalize u 183 = u183
  generalize u 184 = u184
  generalize u 185 = u185
  generalize u 186 = u186
  generalize u 187 = u187
  generalize u 188 = u188
  clear u
  go_wp2
  exact HQ.out _ ⟨rfl, rfl, rfl, rfl, rfl, rfl, rfl, rfl, rfl, rfl, rfl, rfl, rfl, rfl, rfl, rfl, rfl, rfl, rfl⟩ (by first | rfl | (simp; done))
set_option maxHeartbeats 8000000 in
set_option maxRecDepth 100000 in
theorem ri_r5 {K : Act → World → Prop} {c : Code} (hc : regOf (Try.f3.body.getD .skip) 5 = some c) (a : Act) {v : Vri} {wq : World}  (hF : Fri a v) (hQ : ∀ a', Fri a' { v with v10 := .int .i64 0 } → K a' wq) :
    Code.wp Try.prog c (Exit.then K fun _ _ _ => False) a wq := by
  have HQ := hide hQ
  clear hQ
  obtain ⟨t', d'⟩ := a
  obtain ⟨v0, v1, v2, v6, v7, v8, v10, v11, v12, v13, v14, v15, v16, v17, v18, v19, v72⟩ := v
  obtain ⟨hs1, hd1, q0, q1, q2, q6, q7, q8, q10, q11, q12, q13, q14, q15, q16, q17, q18, q19, q72⟩ := hF
  obtain ⟨u, hu⟩ := frame_ri t' hs1
  simp only at hd1 q0 q1 q2 q6 q7 q8 q10 q11 q12 q13 q14 q15 q16 q17 q18 q19 q72
  subst hu hd1
  have e0 : u 0 = v0 := q0
  have e1 : u 1 = v1 := q1
  have e2 : u 2 = v2 := q2
  have e6 : u 6 = v6 := q6
  have e7 : u 7 = v7 := q7
  have e8 : u 8 = v8 := q8
  have e10 : u 10 = v10 := q10
  have e11 : u 11 = v11 := q11
  have e12 : u 12 = v12 := q12
  have e13 : u 13 = v13 := q13
  have e14 : u 14 = v14 := q14
  have e15 : u 15 = v15 := q15
  have e16 : u 16 = v16 := q16
  have e17 : u 17 = v17 := q17
  have e18 : u 18 = v18 := q18
  have e19 : u 19 = v19 := q19
  have e72 : u 72 = v72 := q72
  rw [e0, e1, e2, e6, e7, e8, e10, e11, e12, e13, e14, e15, e16, e17, e18, e19, e72]
  clear q0 e0 q1 e1 q2 e2 q6 e6 q7 e7 q8 e8 q10 e10 q11 e11 q12 e12 q13 e13 q14 e14 q15 e15 q16 e16 q17 e17 q18 e18 q19 e19 q72 e72 hs1
  simp only [Try.f3, Option.getD_some, regOf] at hc
  injection hc with hc
  subst hc
  generalize u 3 = u3
  generalize u 4 = u4
  generalize u 5 = u5
  generalize u 9 = u9
  generalize u 20 = u20
  generalize u 21 = u21
  generalize u 22 = u22
  generalize u 23 = u23
  generalize u 24 = u24
  generalize u 25 = u25
  generalize u 26 = u26
  generalize u 27 = u27
  generalize u 28 = u28
  generalize u 29 = u29
  generalize u 30 = u30
  generalize u 31 = u31
  generalize u 32 = u32
  generalize u 33 = u33
  generalize u 34 = u34
  generalize u 35 = u35
  generalize u 36 = u36
  generalize u 37 = u37
  generalize u 38 = u38
  generalize u 39 = u39
  generalize u 40 = u40
  generalize u 41 = u41
  generalize u 42 = u42
  generalize u 43 = u43
  generalize u 44 = u44
  generalize u 45 = u45
  generalize u 46 = u46
  generalize u 47 = u47
  generalize u 48 = u48
  generalize u 49 = u49
  generalize u 50 = u50
  generalize u 51 = u51
  generalize u 52 = u52
  generalize u 53 = u53
  generalize u 54 = u54
  generalize u 55 = u55
  generalize u 56 = u56
  generalize u 57 = u57
  generalize u 58 = u58
  generalize u 59 = u59
  generalize u 60 = u60
  generalize u 61 = u61
  generalize u 62 = u62
  generalize u 63 = u63
  generalize u 64 = u64
  generalize u 65 = u65
  generalize u 66 = u66
  generalize u 67 = u67
  generalize u 68 = u68
  generalize u 69 = u69
  generalize u 70 = u70
  generalize u 71 = u71
  generalize u 73 = u73
  generalize u 74 = u74
  generalize u 75 = u75
  generalize u 76 = u76
  generalize u 77 = u77
  generalize u 78 = u78
  generalize u 79 = u79
  generalize u 80 = u80
  generalize u 81 = u81
  generalize u 82 = u82
  generalize u 83 = u83
  generalize u 84 = u84
  generalize u 85 = u85
  generalize u 86 = u86
  generalize u 87 = u87
  generalize u 88 = u88
  generalize u 89 = u89
  generalize u 90 = u90
  generalize u 91 = u91
  generalize u 92 = u92
  generalize u 93 = u93
  generalize u 94 = u94
  generalize u 95 = u95
  generalize u 96 = u96
  generalize u 97 = u97
  generalize u 98 = u98
  generalize u 99 = u99
  generalize u 100 = u100
  generalize u 101 = u101
  generalize u 102 = u102
  generalize u 103 = u103
  generalize u 104 = u104
  generalize u 105 = u105
  generalize u 106 = u106
  generalize u 107 = u107
  generalize u 108 = u108
  generalize u 109 = u109
  generalize u 110 = u110
  generalize u 111 = u111
  generalize u 112 = u112
  generalize u 113 = u113
  generalize u 114 = u114
  generalize u 115 = u115
  generalize u 116 = u116
  generalize u 117 = u117
  generalize u 118 = u118
  generalize u 119 = u119
  generalize u 120 = u120
  generalize u 121 = u121
  generalize u 122 = u122
  generalize u 123 = u123
  generalize u 124 = u124
  generalize u 125 = u125
  generalize u 126 = u126
  generalize u 127 = u127
  generalize u 128 = u128
  generalize u 129 = u129
  generalize u 130 = u130
  generalize u 131 = u131
  generalize u 132 = u132
  generalize u 133 = u133
  generalize u 134 = u134
  generalize u 135 = u135
  generalize u 136 = u136
  generalize u 137 = u137
  generalize u 138 = u138
  generalize u 139 = u139
  generalize u 140 = u140
  generalize u 141 = u141
  generalize u 142 = u142
  generalize u 143 = u143
  generalize u 144 = u144
  generalize u 145 = u145
  generalize u 146 = u146
  generalize u 147 = u147
  generalize u 148 = u148
  generalize u 149 = u149
  generalize u 150 = u150
  generalize u 151 = u151
  generalize u 152 = u152
  generalize u 153 = u153
  generalize u 154 = u154
  generalize u 155 = u155
  generalize u 156 = u156
  generalize u 157 = u157
  generalize u 158 = u158
  generalize u 159 = u159
  generalize u 160 = u160
  generalize u 161 = u161
  generalize u 162 = u162
  generalize u 163 = u163
  generalize u 164 = u164
  generalize u 165 = u165
  generalize u 166 = u166
  generalize u 167 = u167
  generalize u 168 = u168
  generalize u 169 = u169
  generalize u 170 = u170
  generalize u 171 = u171
  generalize u 172 = u172
  generalize u 173 = u173
  generalize u 174 = u174
  generalize u 175 = u175
  generalize u 176 = u176
  generalize u 177 = u177
  generalize u 178 = u178
  generalize u 179 = u179
  generalize u 180 = u180
  generalize u 181 = u181
  generalize u 182 = u182
  generalize u 183 = u183
  generalize u 184 = u184
  generalize u 185 = u185
  generalize u 186 = u186
  generalize u 187 = u187
  generalize u 188 = u188
  clear u
  go_wp2
  exact HQ.out _ ⟨rfl, rfl, rfl, rfl, rfl, rfl, rfl, rfl, rfl, rfl, rfl, rfl, rfl, rfl, rfl, rfl, rfl, rfl, rfl⟩
set_option maxHeartbeats 8000000 in
set_option maxRecDepth 100000 in
theorem ri_r6 {K : Act → World → Prop} {c : Code} (hc : regOf (Try.f3.body.getD .skip) 6 = some c) (a : Act) {v : Vri} {wq : World} {m : Int} {i n : Nat} (hF : Fri a v) (h0v : v.v0 = .int .i64 m) (h10v : v.v10 = .int .i64 (i : Int)) (hE : Calls Try.prog 9 #[.int .i64 m, .int .i64 100] wq fun e w' => e = .returned (.int .i64 (n : Int)) ∧ w' = wq)
    (hQ : ∀ a' w' , Fri a' v → a'.tmps.getD 30 undef = .bool (decide (i < n)) → w' = wq → K a' w') :
    Code.wp Try.prog c (Exit.then K fun _ _ _ => False) a wq := by
  have HQ := hide hQ
  clear hQ
  obtain ⟨t', d'⟩ := a
  obtain ⟨v0, v1, v2, v6, v7, v8, v10, v11, v12, v13, v14, v15, v16, v17, v18, v19, v72⟩ := v
  simp only at h0v h10v HQ
  subst h0v h10v
  obtain ⟨hs1, hd1, q0, q1, q2, q6, q7, q8, q10, q11, q12, q13, q14, q15, q16, q17, q18, q19, q72⟩ := hF
  obtain ⟨u, hu⟩ := frame_ri t' hs1
  simp only at hd1 q0 q1 q2 q6 q7 q8 q10 q11 q12 q13 q14 q15 q16 q17 q18 q19 q72
  subst hu hd1
  have e0 : u 0 = .int .i64 m := q0
  have e1 : u 1 = v1 := q1
  have e2 : u 2 = v2 := q2
  have e6 : u 6 = v6 := q6
  have e7 : u 7 = v7 := q7
  have e8 : u 8 = v8 := q8
  have e10 : u 10 = .int .i64 (i : Int) := q10
  have e11 : u 11 = v11 := q11
  have e12 : u 12 = v12 := q12
  have e13 : u 13 = v13 := q13
  have e14 : u 14 = v14 := q14
  have e15 : u 15 = v15 := q15
  have e16 : u 16 = v16 := q16
  have e17 : u 17 = v17 := q17
  have e18 : u 18 = v18 := q18
  have e19 : u 19 = v19 := q19
  have e72 : u 72 = v72 := q72
  rw [e0, e1, e2, e6, e7, e8, e10, e11, e12, e13, e14, e15, e16, e17, e18, e19, e72]
  clear q0 e0 q1 e1 q2 e2 q6 e6 q7 e7 q8 e8 q10 e10 q11 e11 q12 e12 q13 e13 q14 e14 q15 e15 q16 e16 q17 e17 q18 e18 q19 e19 q72 e72 hs1
  simp only [Try.f3, Option.getD_some, regOf] at hc
  injection hc with hc
  subst hc
  generalize u 3 = u3
  generalize u 4 = u4
  generalize u 5 = u5
  generalize u 9 = u9
  generalize u 20 = u20
  generalize u 21 = u21
  generalize u 22 = u22
  generalize u 23 = u23
  generalize u 24 = u24
  generalize u 25 = u25
  generalize u 26 = u26
  generalize u 27 = u27
  generalize u 28 = u28
  generalize u 29 = u29
  generalize u 30 = u30
  generalize u 31 = u31
  generalize u 32 = u32
  generalize u 33 = u33
  generalize u 34 = u34
  generalize u 35 = u35
  generalize u 36 = u36
  generalize u 37 = u37
  generalize u 38 = u38
  generalize u 39 = u39
  generalize u 40 = u40
  generalize u 41 = u41
  generalize u 42 = u42
  generalize u 43 = u43
  generalize u 44 = u44
  generalize u 45 = u45
  generalize u 46 = u46
  generalize u 47 = u47
  generalize u 48 = u48
  generalize u 49 = u49
  generalize u 50 = u50
  generalize u 51 = u51
  generalize u 52 = u52
  generalize u 53 = u53
  generalize u 54 = u54
  generalize u 55 = u55
  generalize u 56 = u56
  generalize u 57 = u57
  generalize u 58 = u58
  generalize u 59 = u59
  generalize u 60 = u60
  generalize u 61 = u61
  generalize u 62 = u62
  generalize u 63 = u63
  generalize u 64 = u64
  generalize u 65 = u65
  generalize u 66 = u66
  generalize u 67 = u67
  generalize u 68 = u68
  generalize u 69 = u69
  generalize u 70 = u70
  generalize u 71 = u71
  generalize u 73 = u73
  generalize u 74 = u74
  generalize u 75 = u75
  generalize u 76 = u76
  generalize u 77 = u77
  generalize u 78 = u78
  generalize u 79 = u79
  generalize u 80 = u80
  generalize u 81 = u81
  generalize u 82 = u82
  generalize u 83 = u83
  generalize u 84 = u84
  generalize u 85 = u85
  generalize u 86 = u86
  generalize u 87 = u87
  generalize u 88 = u88
  generalize u 89 = u89
  generalize u 90 = u90
  generalize u 91 = u91
  generalize u 92 = u92
  generalize u 93 = u93
  generalize u 94 = u94
  generalize u 95 = u95
  generalize u 96 = u96
  generalize u 97 = u97
  generalize u 98 = u98
  generalize u 99 = u99
  generalize u 100 = u100
  generalize u 101 = u101
  generalize u 102 = u102
  generalize u 103 = u103
  generalize u 104 = u104
  generalize u 105 = u105
  generalize u 106 = u106
  generalize u 107 = u107
  generalize u 108 = u108
  generalize u 109 = u109
  generalize u 110 = u110
  generalize u 111 = u111
  generalize u 112 = u112
  generalize u 113 = u113
  generalize u 114 = u114
  generalize u 115 = u115
  generalize u 116 = u116
  generalize u 117 = u117
  generalize u 118 = u118
  generalize u 119 = u119
  generalize u 120 = u120
  generalize u 121 = u121
  generalize u 122 = u122
  generalize u 123 = u123
  generalize u 124 = u124
  generalize u 125 = u125
  generalize u 126 = u126
  generalize u 127 = u127
  generalize u 128 = u128
  generalize u 129 = u129
  generalize u 130 = u130
  generalize u 131 = u131
  generalize u 132 = u132
  generalize u 133 = u133
  generalize u 134 = u134
  generalize u 135 = u135
  generalize u 136 = u136
  generalize u 137 = u137
  generalize u 138 = u138
  generalize u 139 = u139
  generalize u 140 = u140
  generalize u 141 = u141
  generalize u 142 = u142
  generalize u 143 = u143
  generalize u 144 = u144
  generalize u 145 = u145
  generalize u 146 = u146
  generalize u 147 = u147
  generalize u 148 = u148
  generalize u 149 = u149
  generalize u 150 = u150
  generalize u 151 = u151
  generalize u 152 = u152
  generalize u 153 = u153
  generalize u 154 = u154
  generalize u 155 = u155
  generalize u 156 = u156
  generalize u 157 = u157
  generalize u 158 = u158
  generalize u 159 = u159
  generalize u 160 = u160
  generalize u 161 = u161
  generalize u 162 = u162
  generalize u 163 = u163
  generalize u 164 = u164
  generalize u 165 = u165
  generalize u 166 = u166
  generalize u 167 = u167
  generalize u 168 = u168
  generalize u 169 = u169
  generalize u 170 = u170
  generalize u 171 = u171
  generalize u 172 = u172
  generalize u 173 = u173
  generalize u 174 = u174
  generalize u 175 = u175
  generalize u 176 = u176
  generalize u 177 = u177
  generalize u 178 = u178
  generalize u 179 = u179
  generalize u 180 = u180
  generalize u 181 = u181
  generalize u 182 = u182
  generalize u 183 = u183
  generalize u 184 = u184
  generalize u 185 = u185
  generalize u 186 = u186
  generalize u 187 = u187
  generalize u 188 = u188
  clear u
  have HE := hide hE
  clear hE
  go_wp2_with (go_at_call 9; refine HE.out.mono ?_; rintro e w1 ⟨rfl, r1⟩; have R1 := hide r1; clear r1)
  exact HQ.out _ _ ⟨rfl, rfl, rfl, rfl, rfl, rfl, rfl, rfl, rfl, rfl, rfl, rfl, rfl, rfl, rfl, rfl, rfl, rfl, rfl⟩ (by first | rfl | (simp; done)) R1.out
set_option maxHeartbeats 8000000 in
set_option maxRecDepth 100000 in
theorem ri_r7 {K : Act → World → Prop} {c : Code} (hc : regOf (Try.f3.body.getD .skip) 7 = some c) (a : Act) {v : Vri} {wq : World} {L : LOC} {i : Nat} {R : World → Prop} (hF : Fri a v) (h8v : v.v8 = .pointer (some ⟨L.b, 0, none⟩)) (h10v : v.v10 = .int .i64 (i : Int)) (hE : ∀ W kk, kk.size ≤ 100 → Below wq.heap.size wq W → Calls Try.prog 10 #[.pointer (some ⟨L.b, 0, none⟩), .string ⟨#[112]⟩, .int .i64 (i : Int), .string kk, .string ⟨#[]⟩] W fun e w' => (∃ x y : Int, e = .returned (.tuple #[.int .i64 x, .int .i64 y])) ∧ R w')
    (hQ : ∀ a' w', Fri a' v → R w' → K a' w') :
    Code.wp Try.prog c (Exit.then K fun _ _ _ => False) a wq := by
  have HQ := hide hQ
  clear hQ
  obtain ⟨t', d'⟩ := a
  obtain ⟨v0, v1, v2, v6, v7, v8, v10, v11, v12, v13, v14, v15, v16, v17, v18, v19, v72⟩ := v
  simp only at h8v h10v HQ
  subst h8v h10v
  obtain ⟨hs1, hd1, q0, q1, q2, q6, q7, q8, q10, q11, q12, q13, q14, q15, q16, q17, q18, q19, q72⟩ := hF
  obtain ⟨u, hu⟩ := frame_ri t' hs1
  simp only at hd1 q0 q1 q2 q6 q7 q8 q10 q11 q12 q13 q14 q15 q16 q17 q18 q19 q72
  subst hu hd1
  have e0 : u 0 = v0 := q0
  have e1 : u 1 = v1 := q1
  have e2 : u 2 = v2 := q2
  have e6 : u 6 = v6 := q6
  have e7 : u 7 = v7 := q7
  have e8 : u 8 = .pointer (some ⟨L.b, 0, none⟩) := q8
  have e10 : u 10 = .int .i64 (i : Int) := q10
  have e11 : u 11 = v11 := q11
  have e12 : u 12 = v12 := q12
  have e13 : u 13 = v13 := q13
  have e14 : u 14 = v14 := q14
  have e15 : u 15 = v15 := q15
  have e16 : u 16 = v16 := q16
  have e17 : u 17 = v17 := q17
  have e18 : u 18 = v18 := q18
  have e19 : u 19 = v19 := q19
  have e72 : u 72 = v72 := q72
  rw [e0, e1, e2, e6, e7, e8, e10, e11, e12, e13, e14, e15, e16, e17, e18, e19, e72]
  clear q0 e0 q1 e1 q2 e2 q6 e6 q7 e7 q8 e8 q10 e10 q11 e11 q12 e12 q13 e13 q14 e14 q15 e15 q16 e16 q17 e17 q18 e18 q19 e19 q72 e72 hs1
  simp only [Try.f3, Option.getD_some, regOf] at hc
  injection hc with hc
  subst hc
  generalize u 3 = u3
  generalize u 4 = u4
  generalize u 5 = u5
  generalize u 9 = u9
  generalize u 20 = u20
  generalize u 21 = u21
  generalize u 22 = u22
  generalize u 23 = u23
  generalize u 24 = u24
  generalize u 25 = u25
  generalize u 26 = u26
  generalize u 27 = u27
  generalize u 28 = u28
  generalize u 29 = u29
  generalize u 30 = u30
  generalize u 31 = u31
  generalize u 32 = u32
  generalize u 33 = u33
  generalize u 34 = u34
  generalize u 35 = u35
  generalize u 36 = u36
  generalize u 37 = u37
  generalize u 38 = u38
  generalize u 39 = u39
  generalize u 40 = u40
  generalize u 41 = u41
  generalize u 42 = u42
  generalize u 43 = u43
  generalize u 44 = u44
  generalize u 45 = u45
  generalize u 46 = u46
  generalize u 47 = u47
  generalize u 48 = u48
  generalize u 49 = u49
  generalize u 50 = u50
  generalize u 51 = u51
  generalize u 52 = u52
  generalize u 53 = u53
  generalize u 54 = u54
  generalize u 55 = u55
  generalize u 56 = u56
  generalize u 57 = u57
  generalize u 58 = u58
  generalize u 59 = u59
  generalize u 60 = u60
  generalize u 61 = u61
  generalize u 62 = u62
  generalize u 63 = u63
  generalize u 64 = u64
  generalize u 65 = u65
  generalize u 66 = u66
  generalize u 67 = u67
  generalize u 68 = u68
  generalize u 69 = u69
  generalize u 70 = u70
  generalize u 71 = u71
  generalize u 73 = u73
  generalize u 74 = u74
  generalize u 75 = u75
  generalize u 76 = u76
  generalize u 77 = u77
  generalize u 78 = u78
  generalize u 79 = u79
  generalize u 80 = u80
  generalize u 81 = u81
  generalize u 82 = u82
  generalize u 83 = u83
  generalize u 84 = u84
  generalize u 85 = u85
  generalize u 86 = u86
  generalize u 87 = u87
  generalize u 88 = u88
  generalize u 89 = u89
  generalize u 90 = u90
  generalize u 91 = u91
  generalize u 92 = u92
  generalize u 93 = u93
  generalize u 94 = u94
  generalize u 95 = u95
  generalize u 96 = u96
  generalize u 97 = u97
  generalize u 98 = u98
  generalize u 99 = u99
  generalize u 100 = u100
  generalize u 101 = u101
  generalize u 102 = u102
  generalize u 103 = u103
  generalize u 104 = u104
  generalize u 105 = u105
  generalize u 106 = u106
  generalize u 107 = u107
  generalize u 108 = u108
  generalize u 109 = u109
  generalize u 110 = u110
  generalize u 111 = u111
  generalize u 112 = u112
  generalize u 113 = u113
  generalize u 114 = u114
  generalize u 115 = u115
  generalize u 116 = u116
  generalize u 117 = u117
  generalize u 118 = u118
  generalize u 119 = u119
  generalize u 120 = u120
  generalize u 121 = u121
  generalize u 122 = u122
  generalize u 123 = u123
  generalize u 124 = u124
  generalize u 125 = u125
  generalize u 126 = u126
  generalize u 127 = u127
  generalize u 128 = u128
  generalize u 129 = u129
  generalize u 130 = u130
  generalize u 131 = u131
  generalize u 132 = u132
  generalize u 133 = u133
  generalize u 134 = u134
  generalize u 135 = u135
  generalize u 136 = u136
  generalize u 137 = u137
  generalize u 138 = u138
  generalize u 139 = u139
  generalize u 140 = u140
  generalize u 141 = u141
  generalize u 142 = u142
  generalize u 143 = u143
  generalize u 144 = u144
  generalize u 145 = u145
  generalize u 146 = u146
  generalize u 147 = u147
  generalize u 148 = u148
  generalize u 149 = u149
  generalize u 150 = u150
  generalize u 151 = u151
  generalize u 152 = u152
  generalize u 153 = u153
  generalize u 154 = u154
  generalize u 155 = u155
  generalize u 156 = u156
  generalize u 157 = u157
  generalize u 158 = u158
  generalize u 159 = u159
  generalize u 160 = u160
  generalize u 161 = u161
  generalize u 162 = u162
  generalize u 163 = u163
  generalize u 164 = u164
  generalize u 165 = u165
  generalize u 166 = u166
  generalize u 167 = u167
  generalize u 168 = u168
  generalize u 169 = u169
  generalize u 170 = u170
  generalize u 171 = u171
  generalize u 172 = u172
  generalize u 173 = u173
  generalize u 174 = u174
  generalize u 175 = u175
  generalize u 176 = u176
  generalize u 177 = u177
  generalize u 178 = u178
  generalize u 179 = u179
  generalize u 180 = u180
  generalize u 181 = u181
  generalize u 182 = u182
  generalize u 183 = u183
  generalize u 184 = u184
  generalize u 185 = u185
  generalize u 186 = u186
  generalize u 187 = u187
  generalize u 188 = u188
  clear u
  have HE := hide hE
  clear hE
  have hb : Below wq.heap.size wq (wq.alloc (.cells #[.string ⟨#[]⟩, .string ⟨#[107]⟩, .string ⟨#[108]⟩] 9)) := (Below.refl _ _).alloc (Nat.le_refl _) _
  have h3 : i % 3 = 0 ∨ i % 3 = 1 ∨ i % 3 = 2 := by omega
  have e3 : (i : Int).tmod 3 = ((i % 3 : Nat) : Int) := by first | rfl | exact (Int.ofNat_tmod i 3).symm | exact Int.ofNat_tmod i 3
  rcases h3 with h | h | h
  · rw [h] at e3
    have HB := hide hb
    clear hb h
    go_wp2_with (go_at_call 10; refine (HE.out _ ⟨#[]⟩ (by decide) HB.out).mono ?_; rintro e w1 ⟨⟨x, y, rfl⟩, r1⟩; have R1 := hide r1; clear r1)
    exact HQ.out _ _ ⟨rfl, rfl, rfl, rfl, rfl, rfl, rfl, rfl, rfl, rfl, rfl, rfl, rfl, rfl, rfl, rfl, rfl, rfl, rfl⟩ R1.out
  · rw [h] at e3
    have HB := hide hb
    clear hb h
    go_wp2_with (go_at_call 10; refine (HE.out _ ⟨#[107]⟩ (by decide) HB.out).mono ?_; rintro e w1 ⟨⟨x, y, rfl⟩, r1⟩; have R1 := hide r1; clear r1)
    exact HQ.out _ _ ⟨rfl, rfl, rfl, rfl, rfl, rfl, rfl, rfl, rfl, rfl, rfl, rfl, rfl, rfl, rfl, rfl, rfl, rfl, rfl⟩ R1.out
  · rw [h] at e3
    have HB := hide hb
    clear hb h
    go_wp2_with (go_at_call 10; refine (HE.out _ ⟨#[108]⟩ (by decide) HB.out).mono ?_; rintro e w1 ⟨⟨x, y, rfl⟩, r1⟩; have R1 := hide r1; clear r1)
    exact HQ.out _ _ ⟨rfl, rfl, rfl, rfl, rfl, rfl, rfl, rfl, rfl, rfl, rfl, rfl, rfl, rfl, rfl, rfl, rfl, rfl, rfl⟩ R1.out
set_option maxHeartbeats 8000000 in
set_option maxRecDepth 100000 in
theorem ri_r20 {K : Act → World → Prop} {c : Code} (hc : regOf (Try.f3.body.getD .skip) 20 = some c) (a : Act) {v : Vri} {wq : World} {L : LOC} {i : Nat} {R : World → Prop} (hF : Fri a v) (h8v : v.v8 = .pointer (some ⟨L.b, 0, none⟩)) (h10v : v.v10 = .int .i64 (i : Int)) (hE : ∀ W kk, kk.size ≤ 100 → Below wq.heap.size wq W → Calls Try.prog 10 #[.pointer (some ⟨L.b, 0, none⟩), .string ⟨#[112]⟩, .int .i64 (i : Int), .string kk, .string ⟨#[]⟩] W fun e w' => (∃ x y : Int, e = .returned (.tuple #[.int .i64 x, .int .i64 y])) ∧ R w')
    (hQ : ∀ a' w', Fri a' v → R w' → K a' w') :
    Code.wp Try.prog c (Exit.then K fun _ _ _ => False) a wq := by
  have HQ := hide hQ
  clear hQ
  obtain ⟨t', d'⟩ := a
  obtain ⟨v0, v1, v2, v6, v7, v8, v10, v11, v12, v13, v14, v15, v16, v17, v18, v19, v72⟩ := v
  simp only at h8v h10v HQ
  subst h8v h10v
  obtain ⟨hs1, hd1, q0, q1, q2, q6, q7, q8, q10, q11, q12, q13, q14, q15, q16, q17, q18, q19, q72⟩ := hF
  obtain ⟨u, hu⟩ := frame_ri t' hs1
  simp only at hd1 q0 q1 q2 q6 q7 q8 q10 q11 q12 q13 q14 q15 q16 q17 q18 q19 q72
  subst hu hd1
  have e0 : u 0 = v0 := q0
  have e1 : u 1 = v1 := q1
  have e2 : u 2 = v2 := q2
  have e6 : u 6 = v6 := q6
  have e7 : u 7 = v7 := q7
  have e8 : u 8 = .pointer (some ⟨L.b, 0, none⟩) := q8
  have e10 : u 10 = .int .i64 (i : Int) := q10
  have e11 : u 11 = v11 := q11
  have e12 : u 12 = v12 := q12
  have e13 : u 13 = v13 := q13
  have e14 : u 14 = v14 := q14
  have e15 : u 15 = v15 := q15
  have e16 : u 16 = v16 := q16
  have e17 : u 17 = v17 := q17
  have e18 : u 18 = v18 := q18
  have e19 : u 19 = v19 := q19
  have e72 : u 72 = v72 := q72
  rw [e0, e1, e2, e6, e7, e8, e10, e11, e12, e13, e14, e15, e16, e17, e18, e19, e72]
  clear q0 e0 q1 e1 q2 e2 q6 e6 q7 e7 q8 e8 q10 e10 q11 e11 q12 e12 q13 e13 q14 e14 q15 e15 q16 e16 q17 e17 q18 e18 q19 e19 q72 e72 hs1
  simp only [Try.f3, Option.getD_some, regOf] at hc
  injection hc with hc
  subst hc
  generalize u 3 = u3
  generalize u 4 = u4
  generalize u 5 = u5
  generalize u 9 = u9
  generalize u 20 = u20
  generalize u 21 = u21
  generalize u 22 = u22
  generalize u 23 = u23
  generalize u 24 = u24
  generalize u 25 = u25
  generalize u 26 = u26
  generalize u 27 = u27
  generalize u 28 = u28
  generalize u 29 = u29
  generalize u 30 = u30
  generalize u 31 = u31
  generalize u 32 = u32
  generalize u 33 = u33
  generalize u 34 = u34
  generalize u 35 = u35
  generalize u 36 = u36
  generalize u 37 = u37
  generalize u 38 = u38
  generalize u 39 = u39
  generalize u 40 = u40
  generalize u 41 = u41
  generalize u 42 = u42
  generalize u 43 = u43
  generalize u 44 = u44
  generalize u 45 = u45
  generalize u 46 = u46
  generalize u 47 = u47
  generalize u 48 = u48
  generalize u 49 = u49
  generalize u 50 = u50
  generalize u 51 = u51
  generalize u 52 = u52
  generalize u 53 = u53
  generalize u 54 = u54
  generalize u 55 = u55
  generalize u 56 = u56
  generalize u 57 = u57
  generalize u 58 = u58
  generalize u 59 = u59
  generalize u 60 = u60
  generalize u 61 = u61
  generalize u 62 = u62
  generalize u 63 = u63
  generalize u 64 = u64
  generalize u 65 = u65
  generalize u 66 = u66
  generalize u 67 = u67
  generalize u 68 = u68
  generalize u 69 = u69
  generalize u 70 = u70
  generalize u 71 = u71
  generalize u 73 = u73
  generalize u 74 = u74
  generalize u 75 = u75
  generalize u 76 = u76
  generalize u 77 = u77
  generalize u 78 = u78
  generalize u 79 = u79
  generalize u 80 = u80
  generalize u 81 = u81
  generalize u 82 = u82
  generalize u 83 = u83
  generalize u 84 = u84
  generalize u 85 = u85
  generalize u 86 = u86
  generalize u 87 = u87
  generalize u 88 = u88
  generalize u 89 = u89
  generalize u 90 = u90
  generalize u 91 = u91
  generalize u 92 = u92
  generalize u 93 = u93
  generalize u 94 = u94
  generalize u 95 = u95
  generalize u 96 = u96
  generalize u 97 = u97
  generalize u 98 = u98
  generalize u 99 = u99
  generalize u 100 = u100
  generalize u 101 = u101
  generalize u 102 = u102
  generalize u 103 = u103
  generalize u 104 = u104
  generalize u 105 = u105
  generalize u 106 = u106
  generalize u 107 = u107
  generalize u 108 = u108
  generalize u 109 = u109
  generalize u 110 = u110
  generalize u 111 = u111
  generalize u 112 = u112
  generalize u 113 = u113
  generalize u 114 = u114
  generalize u 115 = u115
  generalize u 116 = u116
  generalize u 117 = u117
  generalize u 118 = u118
  generalize u 119 = u119
  generalize u 120 = u120
  generalize u 121 = u121
  generalize u 122 = u122
  generalize u 123 = u123
  generalize u 124 = u124
  generalize u 125 = u125
  generalize u 126 = u126
  generalize u 127 = u127
  generalize u 128 = u128
  generalize u 129 = u129
  generalize u 130 = u130
  generalize u 131 = u131
  generalize u 132 = u132
  generalize u 133 = u133
  generalize u 134 = u134
  generalize u 135 = u135
  generalize u 136 = u136
  generalize u 137 = u137
  generalize u 138 = u138
  generalize u 139 = u139
  generalize u 140 = u140
  generalize u 141 = u141
  generalize u 142 = u142
  generalize u 143 = u143
  generalize u 144 = u144
  generalize u 145 = u145
  generalize u 146 = u146
  generalize u 147 = u147
  generalize u 148 = u148
  generalize u 149 = u149
  generalize u 150 = u150
  generalize u 151 = u151
  generalize u 152 = u152
  generalize u 153 = u153
  generalize u 154 = u154
  generalize u 155 = u155
  generalize u 156 = u156
  generalize u 157 = u157
  generalize u 158 = u158
  generalize u 159 = u159
  generalize u 160 = u160
  generalize u 161 = u161
  generalize u 162 = u162
  generalize u 163 = u163
  generalize u 164 = u164
  generalize u 165 = u165
  generalize u 166 = u166
  generalize u 167 = u167
  generalize u 168 = u168
  generalize u 169 = u169
  generalize u 170 = u170
  generalize u 171 = u171
  generalize u 172 = u172
  generalize u 173 = u173
  generalize u 174 = u174
  generalize u 175 = u175
  generalize u 176 = u176
  generalize u 177 = u177
  generalize u 178 = u178
  generalize u 179 = u179
  generalize u 180 = u180
  generalize u 181 = u181
  generalize u 182 = u182
  generalize u 183 = u183
  generalize u 184 = u184
  generalize u 185 = u185
  generalize u 186 = u186
  generalize u 187 = u187
  generalize u 188 = u188
  clear u
  have HE := hide hE
  clear hE
  have hb : Below wq.heap.size wq (wq.alloc (.cells #[.string ⟨#[]⟩, .string ⟨#[107]⟩, .string ⟨#[108]⟩] 9)) := (Below.refl _ _).alloc (Nat.le_refl _) _
  have h3 : i % 3 = 0 ∨ i % 3 = 1 ∨ i % 3 = 2 := by omega
  have e3 : (i : Int).tmod 3 = ((i % 3 : Nat) : Int) := by first | rfl | exact (Int.ofNat_tmod i 3).symm | exact Int.ofNat_tmod i 3
  rcases h3 with h | h | h
  · rw [h] at e3
    have HB := hide hb
    clear hb h
    go_wp2_with (go_at_call 10; refine (HE.out _ ⟨#[]⟩ (by decide) HB.out).mono ?_; rintro e w1 ⟨⟨x, y, rfl⟩, r1⟩; have R1 := hide r1; clear r1)
    exact HQ.out _ _ ⟨rfl, rfl, rfl, rfl, rfl, rfl, rfl, rfl, rfl, rfl, rfl, rfl, rfl, rfl, rfl, rfl, rfl, rfl, rfl⟩ R1.out
  · rw [h] at e3
    have HB := hide hb
    clear hb h
    go_wp2_with (go_at_call 10; refine (HE.out _ ⟨#[107]⟩ (by decide) HB.out).mono ?_; rintro e w1 ⟨⟨x, y, rfl⟩, r1⟩; have R1 := hide r1; clear r1)
    exact HQ.out _ _ ⟨rfl, rfl, rfl, rfl, rfl, rfl, rfl, rfl, rfl, rfl, rfl, rfl, rfl, rfl, rfl, rfl, rfl, rfl, rfl⟩ R1.out
  · rw [h] at e3
    have HB := hide hb
    clear hb h
    go_wp2_with (go_at_call 10; refine (HE.out _ ⟨#[108]⟩ (by decide) HB.out).mono ?_; rintro e w1 ⟨⟨x, y, rfl⟩, r1⟩; have R1 := hide r1; clear r1)
    exact HQ.out _ _ ⟨rfl, rfl, rfl, rfl, rfl, rfl, rfl, rfl, rfl, rfl, rfl, rfl, rfl, rfl, rfl, rfl, rfl, rfl, rfl⟩ R1.out
set_option maxHeartbeats 8000000 in
set_option maxRecDepth 100000 in
theorem ri_r8 {K : Act → World → Prop} {c : Code} (hc : regOf (Try.f3.body.getD .skip) 8 = some c) (a : Act) {v : Vri} {wq : World} {i : Nat} (hF : Fri a v) (h10v : v.v10 = .int .i64 (i : Int)) (hi : i ≤ 1000000)
    (hQ : ∀ a', Fri a' { v with v10 := .int .i64 ((i + 1 : Nat) : Int) } → K a' wq) :
    Code.wp Try.prog c (Exit.then K fun _ _ _ => False) a wq := by
  have HQ := hide hQ
  clear hQ
  obtain ⟨t', d'⟩ := a
  obtain ⟨v0, v1, v2, v6, v7, v8, v10, v11, v12, v13, v14, v15, v16, v17, v18, v19, v72⟩ := v
  simp only at h10v HQ
  subst h10v
  obtain ⟨hs1, hd1, q0, q1, q2, q6, q7, q8, q10, q11, q12, q13, q14, q15, q16, q17, q18, q19, q72⟩ := hF
  obtain ⟨u, hu⟩ := frame_ri t' hs1
  simp only at hd1 q0 q1 q2 q6 q7 q8 q10 q11 q12 q13 q14 q15 q16 q17 q18 q19 q72
  subst hu hd1
  have e0 : u 0 = v0 := q0
  have e1 : u 1 = v1 := q1
  have e2 : u 2 = v2 := q2
  have e6 : u 6 = v6 := q6
  have e7 : u 7 = v7 := q7
  have e8 : u 8 = v8 := q8
  have e10 : u 10 = .int .i64 (i : Int) := q10
  have e11 : u 11 = v11 := q11
  have e12 : u 12 = v12 := q12
  have e13 : u 13 = v13 := q13
  have e14 : u 14 = v14 := q14
  have e15 : u 15 = v15 := q15
  have e16 : u 16 = v16 := q16
  have e17 : u 17 = v17 := q17
  have e18 : u 18 = v18 := q18
  have e19 : u 19 = v19 := q19
  have e72 : u 72 = v72 := q72
  rw [e0, e1, e2, e6, e7, e8, e10, e11, e12, e13, e14, e15, e16, e17, e18, e19, e72]
  clear q0 e0 q1 e1 q2 e2 q6 e6 q7 e7 q8 e8 q10 e10 q11 e11 q12 e12 q13 e13 q14 e14 q15 e15 q16 e16 q17 e17 q18 e18 q19 e19 q72 e72 hs1
  simp only [Try.f3, Option.getD_some, regOf] at hc
  injection hc with hc
  subst hc
  generalize u 3 = u3
  generalize u 4 = u4
  generalize u 5 = u5
  generalize u 9 = u9
  generalize u 20 = u20
  generalize u 21 = u21
  generalize u 22 = u22
  generalize u 23 = u23
  generalize u 24 = u24
  generalize u 25 = u25
  generalize u 26 = u26
  generalize u 27 = u27
  generalize u 28 = u28
  generalize u 29 = u29
  generalize u 30 = u30
  generalize u 31 = u31
  generalize u 32 = u32
  generalize u 33 = u33
  generalize u 34 = u34
  generalize u 35 = u35
  generalize u 36 = u36
  generalize u 37 = u37
  generalize u 38 = u38
  generalize u 39 = u39
  generalize u 40 = u40
  generalize u 41 = u41
  generalize u 42 = u42
  generalize u 43 = u43
  generalize u 44 = u44
  generalize u 45 = u45
  generalize u 46 = u46
  generalize u 47 = u47
  generalize u 48 = u48
  generalize u 49 = u49
  generalize u 50 = u50
  generalize u 51 = u51
  generalize u 52 = u52
  generalize u 53 = u53
  generalize u 54 = u54
  generalize u 55 = u55
  generalize u 56 = u56
  generalize u 57 = u57
  generalize u 58 = u58
  generalize u 59 = u59
  generalize u 60 = u60
  generalize u 61 = u61
  generalize u 62 = u62
  generalize u 63 = u63
  generalize u 64 = u64
  generalize u 65 = u65
  generalize u 66 = u66
  generalize u 67 = u67
  generalize u 68 = u68
  generalize u 69 = u69
  generalize u 70 = u70
  generalize u 71 = u71
  generalize u 73 = u73
  generalize u 74 = u74
  generalize u 75 = u75
  generalize u 76 = u76
  generalize u 77 = u77
  generalize u 78 = u78
  generalize u 79 = u79
  generalize u 80 = u80
  generalize u 81 = u81
  generalize u 82 = u82
  generalize u 83 = u83
  generalize u 84 = u84
  generalize u 85 = u85
  generalize u 86 = u86
  generalize u 87 = u87
  generalize u 88 = u88
  generalize u 89 = u89
  generalize u 90 = u90
  generalize u 91 = u91
  generalize u 92 = u92
  generalize u 93 = u93
  generalize u 94 = u94
  generalize u 95 = u95
  generalize u 96 = u96
  generalize u 97 = u97
  generalize u 98 = u98
  generalize u 99 = u99
  generalize u 100 = u100
  generalize u 101 = u101
  generalize u 102 = u102
  generalize u 103 = u103
  generalize u 104 = u104
  generalize u 105 = u105
  generalize u 106 = u106
  generalize u 107 = u107
  generalize u 108 = u108
  generalize u 109 = u109
  generalize u 110 = u110
  generalize u 111 = u111
  generalize u 112 = u112
  generalize u 113 = u113
  generalize u 114 = u114
  generalize u 115 = u115
  generalize u 116 = u116
  generalize u 117 = u117
  generalize u 118 = u118
  generalize u 119 = u119
  generalize u 120 = u120
  generalize u 121 = u121
  generalize u 122 = u122
  generalize u 123 = u123
  generalize u 124 = u124
  generalize u 125 = u125
  generalize u 126 = u126
  generalize u 127 = u127
  generalize u 128 = u128
  generalize u 129 = u129
  generalize u 130 = u130
  generalize u 131 = u131
  generalize u 132 = u132
  generalize u 133 = u133
  generalize u 134 = u134
  generalize u 135 = u135
  generalize u 136 = u136
  generalize u 137 = u137
  generalize u 138 = u138
  generalize u 139 = u139
  generalize u 140 = u140
  generalize u 141 = u141
  generalize u 142 = u142
  generalize u 143 = u143
  generalize u 144 = u144
  generalize u 145 = u145
  generalize u 146 = u146
  generalize u 147 = u147
  generalize u 148 = u148
  generalize u 149 = u149
  generalize u 150 = u150
  generalize u 151 = u151
  generalize u 152 = u152
  generalize u 153 = u153
  generalize u 154 = u154
  generalize u 155 = u155
  generalize u 156 = u156
  generalize u 157 = u157
  generalize u 158 = u158
  generalize u 159 = u159
  generalize u 160 = u160
  generalize u 161 = u161
  generalize u 162 = u162
  generalize u 163 = u163
  generalize u 164 = u164
  generalize u 165 = u165
  generalize u 166 = u166
  generalize u 167 = u167
  generalize u 168 = u168
  generalize u 169 = u169
  generalize u 170 = u170
  generalize u 171 = u171
  generalize u 172 = u172
  generalize u 173 = u173
  generalize u 174 = u174
  generalize u 175 = u175
  generalize u 176 = u176
  generalize u 177 = u177
  generalize u 178 = u178
  generalize u 179 = u179
  generalize u 180 = u180
  generalize u 181 = u181
  generalize u 182 = u182
  generalize u 183 = u183
  generalize u 184 = u184
  generalize u 185 = u185
  generalize u 186 = u186
  generalize u 187 = u187
  generalize u 188 = u188
  clear u
  go_wp2
  exact HQ.out _ ⟨rfl, rfl, rfl, rfl, rfl, rfl, rfl, rfl, (by first | rfl | (simp; done) | (go_num; done)), rfl, rfl, rfl, rfl, rfl, rfl, rfl, rfl, rfl, rfl⟩
set_option maxHeartbeats 8000000 in
set_option maxRecDepth 100000 in
theorem ri_r21 {K : Act → World → Prop} {c : Code} (hc : regOf (Try.f3.body.getD .skip) 21 = some c) (a : Act) {v : Vri} {wq : World} {i : Nat} (hF : Fri a v) (h10v : v.v10 = .int .i64 (i : Int)) (hi : i ≤ 1000000)
    (hQ : ∀ a', Fri a' { v with v10 := .int .i64 ((i + 1 : Nat) : Int) } → K a' wq) :
    Code.wp Try.prog c (Exit.then K fun _ _ _ => False) a wq := by
  have HQ := hide hQ
  clear hQ
  obtain ⟨t', d'⟩ := a
  obtain ⟨v0, v1, v2, v6, v7, v8, v10, v11, v12, v13, v14, v15, v16, v17, v18, v19, v72⟩ := v
  simp only at h10v HQ
  subst h10v
  obtain ⟨hs1, hd1, q0, q1, q2, q6, q7, q8, q10, q11, q12, q13, q14, q15, q16, q17, q18, q19, q72⟩ := hF
  obtain ⟨u, hu⟩ := frame_ri t' hs1
  simp only at hd1 q0 q1 q2 q6 q7 q8 q10 q11 q12 q13 q14 q15 q16 q17 q18 q19 q72
  subst hu hd1
  have e0 : u 0 = v0 := q0
  have e1 : u 1 = v1 := q1
  have e2 : u 2 = v2 := q2
  have e6 : u 6 = v6 := q6
  have e7 : u 7 = v7 := q7
  have e8 : u 8 = v8 := q8
  have e10 : u 10 = .int .i64 (i : Int) := q10
  have e11 : u 11 = v11 := q11
  have e12 : u 12 = v12 := q12
  have e13 : u 13 = v13 := q13
  have e14 : u 14 = v14 := q14
  have e15 : u 15 = v15 := q15
  have e16 : u 16 = v16 := q16
  have e17 : u 17 = v17 := q17
  have e18 : u 18 = v18 := q18
  have e19 : u 19 = v19 := q19
  have e72 : u 72 = v72 := q72
  rw [e0, e1, e2, e6, e7, e8, e10, e11, e12, e13, e14, e15, e16, e17, e18, e19, e72]
  clear q0 e0 q1 e1 q2 e2 q6 e6 q7 e7 q8 e8 q10 e10 q11 e11 q12 e12 q13 e13 q14 e14 q15 e15 q16 e16 q17 e17 q18 e18 q19 e19 q72 e72 hs1
  simp only [Try.f3, Option.getD_some, regOf] at hc
  injection hc with hc
  subst hc
  generalize u 3 = u3
  generalize u 4 = u4
  generalize u 5 = u5
  generalize u 9 = u9
  generalize u 20 = u20
  generalize u 21 = u21
  generalize u 22 = u22
  generalize u 23 = u23
  generalize u 24 = u24
  generalize u 25 = u25
  generalize u 26 = u26
  generalize u 27 = u27
  generalize u 28 = u28
  generalize u 29 = u29
  generalize u 30 = u30
  generalize u 31 = u31
  generalize u 32 = u32
  generalize u 33 = u33
  generalize u 34 = u34
  generalize u 35 = u35
  generalize u 36 = u36
  generalize u 37 = u37
  generalize u 38 = u38
  generalize u 39 = u39
  generalize u 40 = u40
  generalize u 41 = u41
  generalize u 42 = u42
  generalize u 43 = u43
  generalize u 44 = u44
  generalize u 45 = u45
  generalize u 46 = u46
  generalize u 47 = u47
  generalize u 48 = u48
  generalize u 49 = u49
  generalize u 50 = u50
  generalize u 51 = u51
  generalize u 52 = u52
  generalize u 53 = u53
  generalize u 54 = u54
  generalize u 55 = u55
  generalize u 56 = u56
  generalize u 57 = u57
  generalize u 58 = u58
  generalize u 59 = u59
  generalize u 60 = u60
  generalize u 61 = u61
  generalize u 62 = u62
  generalize u 63 = u63
  generalize u 64 = u64
  generalize u 65 = u65
  generalize u 66 = u66
  generalize u 67 = u67
  generalize u 68 = u68
  generalize u 69 = u69
  generalize u 70 = u70
  generalize u 71 = u71
  generalize u 73 = u73
  generalize u 74 = u74
  generalize u 75 = u75
  generalize u 76 = u76
  generalize u 77 = u77
  generalize u 78 = u78
  generalize u 79 = u79
  generalize u 80 = u80
  generalize u 81 = u81
  generalize u 82 = u82
  generalize u 83 = u83
  generalize u 84 = u84
  generalize u 85 = u85
  generalize u 86 = u86
  generalize u 87 = u87
  generalize u 88 = u88
  generalize u 89 = u89
  generalize u 90 = u90
  generalize u 91 = u91
  generalize u 92 = u92
  generalize u 93 = u93
  generalize u 94 = u94
  generalize u 95 = u95
  generalize u 96 = u96
  generalize u 97 = u97
  generalize u 98 = u98
  generalize u 99 = u99
  generalize u 100 = u100
  generalize u 101 = u101
  generalize u 102 = u102
  generalize u 103 = u103
  generalize u 104 = u104
  generalize u 105 = u105
  generalize u 106 = u106
  generalize u 107 = u107
  generalize u 108 = u108
  generalize u 109 = u109
  generalize u 110 = u110
  generalize u 111 = u111
  generalize u 112 = u112
  generalize u 113 = u113
  generalize u 114 = u114
  generalize u 115 = u115
  generalize u 116 = u116
  generalize u 117 = u117
  generalize u 118 = u118
  generalize u 119 = u119
  generalize u 120 = u120
  generalize u 121 = u121
  generalize u 122 = u122
  generalize u 123 = u123
  generalize u 124 = u124
  generalize u 125 = u125
  generalize u 126 = u126
  generalize u 127 = u127
  generalize u 128 = u128
  generalize u 129 = u129
  generalize u 130 = u130
  generalize u 131 = u131
  generalize u 132 = u132
  generalize u 133 = u133
  generalize u 134 = u134
  generalize u 135 = u135
  generalize u 136 = u136
  generalize u 137 = u137
  generalize u 138 = u138
  generalize u 139 = u139
  generalize u 140 = u140
  generalize u 141 = u141
  generalize u 142 = u142
  generalize u 143 = u143
  generalize u 144 = u144
  generalize u 145 = u145
  generalize u 146 = u146
  generalize u 147 = u147
  generalize u 148 = u148
  generalize u 149 = u149
  generalize u 150 = u150
  generalize u 151 = u151
  generalize u 152 = u152
  generalize u 153 = u153
  generalize u 154 = u154
  generalize u 155 = u155
  generalize u 156 = u156
  generalize u 157 = u157
  generalize u 158 = u158
  generalize u 159 = u159
  generalize u 160 = u160
  generalize u 161 = u161
  generalize u 162 = u162
  generalize u 163 = u163
  generalize u 164 = u164
  generalize u 165 = u165
  generalize u 166 = u166
  generalize u 167 = u167
  generalize u 168 = u168
  generalize u 169 = u169
  generalize u 170 = u170
  generalize u 171 = u171
  generalize u 172 = u172
  generalize u 173 = u173
  generalize u 174 = u174
  generalize u 175 = u175
  generalize u 176 = u176
  generalize u 177 = u177
  generalize u 178 = u178
  generalize u 179 = u179
  generalize u 180 = u180
  generalize u 181 = u181
  generalize u 182 = u182
  generalize u 183 = u183
  generalize u 184 = u184
  generalize u 185 = u185
  generalize u 186 = u186
  generalize u 187 = u187
  generalize u 188 = u188
  clear u
  go_wp2
  exact HQ.out _ ⟨rfl, rfl, rfl, rfl, rfl, rfl, rfl, rfl, (by first | rfl | (simp; done) | (go_num; done)), rfl, rfl, rfl, rfl, rfl, rfl, rfl, rfl, rfl, rfl⟩
set_option maxHeartbeats 8000000 in
set_option maxRecDepth 100000 in
theorem ri_r33 {K : Act → World → Prop} {c : Code} (hc : regOf (Try.f3.body.getD .skip) 33 = some c) (a : Act) {v : Vri} {wq : World} {i : Nat} (hF : Fri a v) (h18v : v.v18 = .int .i64 (i : Int)) (hi : i ≤ 1000000)
    (hQ : ∀ a', Fri a' { v with v18 := .int .i64 ((i + 1 : Nat) : Int) } → K a' wq) :
    Code.wp Try.prog c (Exit.then K fun _ _ _ => False) a wq := by
  have HQ := hide hQ
  clear hQ
  obtain ⟨t', d'⟩ := a
  obtain ⟨v0, v1, v2, v6, v7, v8, v10, v11, v12, v13, v14, v15, v16, v17, v18, v19, v72⟩ := v
  simp only at h18v HQ
  subst h18v
  obtain ⟨hs1, hd1, q0, q1, q2, q6, q7, q8, q10, q11, q12, q13, q14, q15, q16, q17, q18, q19, q72⟩ := hF
  obtain ⟨u, hu⟩ := frame_ri t' hs1
  simp only at hd1 q0 q1 q2 q6 q7 q8 q10 q11 q12 q13 q14 q15 q16 q17 q18 q19 q72
  subst hu hd1
  have e0 : u 0 = v0 := q0
  have e1 : u 1 = v1 := q1
  have e2 : u 2 = v2 := q2
  have e6 : u 6 = v6 := q6
  have e7 : u 7 = v7 := q7
  have e8 : u 8 = v8 := q8
  have e10 : u 10 = v10 := q10
  have e11 : u 11 = v11 := q11
  have e12 : u 12 = v12 := q12
  have e13 : u 13 = v13 := q13
  have e14 : u 14 = v14 := q14
  have e15 : u 15 = v15 := q15
  have e16 : u 16 = v16 := q16
  have e17 : u 17 = v17 := q17
  have e18 : u 18 = .int .i64 (i : Int) := q18
  have e19 : u 19 = v19 := q19
  have e72 : u 72 = v72 := q72
  rw [e0, e1, e2, e6, e7, e8, e10, e11, e12, e13, e14, e15, e16, e17, e18, e19, e72]
  clear q0 e0 q1 e1 q2 e2 q6 e6 q7 e7 q8 e8 q10 e10 q11 e11 q12 e12 q13 e13 q14 e14 q15 e15 q16 e16 q17 e17 q18 e18 q19 e19 q72 e72 hs1
  simp only [Try.f3, Option.getD_some, regOf] at hc
  injection hc with hc
  subst hc
  generalize u 3 = u3
  generalize u 4 = u4
  generalize u 5 = u5
  generalize u 9 = u9
  generalize u 20 = u20
  generalize u 21 = u21
  generalize u 22 = u22
  generalize u 23 = u23
  generalize u 24 = u24
  generalize u 25 = u25
  generalize u 26 = u26
  generalize u 27 = u27
  generalize u 28 = u28
  generalize u 29 = u29
  generalize u 30 = u30
  generalize u 31 = u31
  generalize u 32 = u32
  generalize u 33 = u33
  generalize u 34 = u34
  generalize u 35 = u35
  generalize u 36 = u36
  generalize u 37 = u37
  generalize u 38 = u38
  generalize u 39 = u39
  generalize u 40 = u40
  generalize u 41 = u41
  generalize u 42 = u42
  generalize u 43 = u43
  generalize u 44 = u44
  generalize u 45 = u45
  generalize u 46 = u46
  generalize u 47 = u47
  generalize u 48 = u48
  generalize u 49 = u49
  generalize u 50 = u50
  generalize u 51 = u51
  generalize u 52 = u52
  generalize u 53 = u53
  generalize u 54 = u54
  generalize u 55 = u55
  generalize u 56 = u56
  generalize u 57 = u57
  generalize u 58 = u58
  generalize u 59 = u59
  generalize u 60 = u60
  generalize u 61 = u61
  generalize u 62 = u62
  generalize u 63 = u63
  generalize u 64 = u64
  generalize u 65 = u65
  generalize u 66 = u66
  generalize u 67 = u67
  generalize u 68 = u68
  generalize u 69 = u69
  generalize u 70 = u70
  generalize u 71 = u71
  generalize u 73 = u73
  generalize u 74 = u74
  generalize u 75 = u75
  generalize u 76 = u76
  generalize u 77 = u77
  generalize u 78 = u78
  generalize u 79 = u79
  generalize u 80 = u80
  generalize u 81 = u81
  generalize u 82 = u82
  generalize u 83 = u83
  generalize u 84 = u84
  generalize u 85 = u85
  generalize u 86 = u86
  generalize u 87 = u87
  generalize u 88 = u88
  generalize u 89 = u89
  generalize u 90 = u90
  generalize u 91 = u91
  generalize u 92 = u92
  generalize u 93 = u93
  generalize u 94 = u94
  generalize u 95 = u95
  generalize u 96 = u96
  generalize u 97 = u97
  generalize u 98 = u98
  generalize u 99 = u99
  generalize u 100 = u100
  generalize u 101 = u101
  generalize u 102 = u102
  generalize u 103 = u103
  generalize u 104 = u104
  generalize u 105 = u105
  generalize u 106 = u106
  generalize u 107 = u107
  generalize u 108 = u108
  generalize u 109 = u109
  generalize u 110 = u110
  generalize u 111 = u111
  generalize u 112 = u112
  generalize u 113 = u113
  generalize u 114 = u114
  generalize u 115 = u115
  generalize u 116 = u116
  generalize u 117 = u117
  generalize u 118 = u118
  generalize u 119 = u119
  generalize u 120 = u120
  generalize u 121 = u121
  generalize u 122 = u122
  generalize u 123 = u123
  generalize u 124 = u124
  generalize u 125 = u125
  generalize u 126 = u126
  generalize u 127 = u127
  generalize u 128 = u128
  generalize u 129 = u129
  generalize u 130 = u130
  generalize u 131 = u131
  generalize u 132 = u132
  generalize u 133 = u133
  generalize u 134 = u134
  generalize u 135 = u135
  generalize u 136 = u136
  generalize u 137 = u137
  generalize u 138 = u138
  generalize u 139 = u139
  generalize u 140 = u140
  generalize u 141 = u141
  generalize u 142 = u142
  generalize u 143 = u143
  generalize u 144 = u144
  generalize u 145 = u145
  generalize u 146 = u146
  generalize u 147 = u147
  generalize u 148 = u148
  generalize u 149 = u149
  generalize u 150 = u150
  generalize u 151 = u151
  generalize u 152 = u152
  generalize u 153 = u153
  generalize u 154 = u154
  generalize u 155 = u155
  generalize u 156 = u156
  generalize u 157 = u157
  generalize u 158 = u158
  generalize u 159 = u159
  generalize u 160 = u160
  generalize u 161 = u161
  generalize u 162 = u162
  generalize u 163 = u163
  generalize u 164 = u164
  generalize u 165 = u165
  generalize u 166 = u166
  generalize u 167 = u167
  generalize u 168 = u168
  generalize u 169 = u169
  generalize u 170 = u170
  generalize u 171 = u171
  generalize u 172 = u172
  generalize u 173 = u173
  generalize u 174 = u174
  generalize u 175 = u175
  generalize u 176 = u176
  generalize u 177 = u177
  generalize u 178 = u178
  generalize u 179 = u179
  generalize u 180 = u180
  generalize u 181 = u181
  generalize u 182 = u182
  generalize u 183 = u183
  generalize u 184 = u184
  generalize u 185 = u185
  generalize u 186 = u186
  generalize u 187 = u187
  generalize u 188 = u188
  clear u
  go_wp2
  exact HQ.out _ ⟨rfl, rfl, rfl, rfl, rfl, rfl, rfl, rfl, rfl, rfl, rfl, rfl, rfl, rfl, rfl, rfl, (by first | rfl | (simp; done) | (go_num; done)), rfl, rfl⟩
set_option maxHeartbeats 8000000 in
set_option maxRecDepth 100000 in
theorem ri_r15 {K : Act → World → Prop} {c : Code} (hc : regOf (Try.f3.body.getD .skip) 15 = some c) (a : Act) {v : Vri} {wq : World} {i : Nat} (hF : Fri a v) (h14v : v.v14 = .int .i64 (i : Int)) (hi : i ≤ 1000000)
    (hQ : ∀ a', Fri a' { v with v14 := .int .i64 ((i + 1 : Nat) : Int) } → K a' wq) :
    Code.wp Try.prog c (Exit.then K fun _ _ _ => False) a wq := by
  have HQ := hide hQ
  clear hQ
  obtain ⟨t', d'⟩ := a
  obtain ⟨v0, v1, v2, v6, v7, v8, v10, v11, v12, v13, v14, v15, v16, v17, v18, v19, v72⟩ := v
  simp only at h14v HQ
  subst h14v
  obtain ⟨hs1, hd1, q0, q1, q2, q6, q7, q8, q10, q11, q12, q13, q14, q15, q16, q17, q18, q19, q72⟩ := hF
  obtain ⟨u, hu⟩ := frame_ri t' hs1
  simp only at hd1 q0 q1 q2 q6 q7 q8 q10 q11 q12 q13 q14 q15 q16 q17 q18 q19 q72
  subst hu hd1
  have e0 : u 0 = v0 := q0
  have e1 : u 1 = v1 := q1
  have e2 : u 2 = v2 := q2
  have e6 : u 6 = v6 := q6
  have e7 : u 7 = v7 := q7
  have e8 : u 8 = v8 := q8
  have e10 : u 10 = v10 := q10
  have e11 : u 11 = v11 := q11
  have e12 : u 12 = v12 := q12
  have e13 : u 13 = v13 := q13
  have e14 : u 14 = .int .i64 (i : Int) := q14
  have e15 : u 15 = v15 := q15
  have e16 : u 16 = v16 := q16
  have e17 : u 17 = v17 := q17
  have e18 : u 18 = v18 := q18
  have e19 : u 19 = v19 := q19
  have e72 : u 72 = v72 := q72
  rw [e0, e1, e2, e6, e7, e8, e10, e11, e12, e13, e14, e15, e16, e17, e18, e19, e72]
  clear q0 e0 q1 e1 q2 e2 q6 e6 q7 e7 q8 e8 q10 e10 q11 e11 q12 e12 q13 e13 q14 e14 q15 e15 q16 e16 q17 e17 q18 e18 q19 e19 q72 e72 hs1
  simp only [Try.f3, Option.getD_some, regOf] at hc
  injection hc with hc
  subst hc
  generalize u 3 = u3
  generalize u 4 = u4
  generalize u 5 = u5
  generalize u 9 = u9
  generalize u 20 = u20
  generalize u 21 = u21
  generalize u 22 = u22
  generalize u 23 = u23
  generalize u 24 = u24
  generalize u 25 = u25
  generalize u 26 = u26
  generalize u 27 = u27
  generalize u 28 = u28
  generalize u 29 = u29
  generalize u 30 = u30
  generalize u 31 = u31
  generalize u 32 = u32
  generalize u 33 = u33
  generalize u 34 = u34
  generalize u 35 = u35
  generalize u 36 = u36
  generalize u 37 = u37
  generalize u 38 = u38
  generalize u 39 = u39
  generalize u 40 = u40
  generalize u 41 = u41
  generalize u 42 = u42
  generalize u 43 = u43
  generalize u 44 = u44
  generalize u 45 = u45
  generalize u 46 = u46
  generalize u 47 = u47
  generalize u 48 = u48
  generalize u 49 = u49
  generalize u 50 = u50
  generalize u 51 = u51
  generalize u 52 = u52
  generalize u 53 = u53
  generalize u 54 = u54
  generalize u 55 = u55
  generalize u 56 = u56
  generalize u 57 = u57
  generalize u 58 = u58
  generalize u 59 = u59
  generalize u 60 = u60
  generalize u 61 = u61
  generalize u 62 = u62
  generalize u 63 = u63
  generalize u 64 = u64
  generalize u 65 = u65
  generalize u 66 = u66
  generalize u 67 = u67
  generalize u 68 = u68
  generalize u 69 = u69
  generalize u 70 = u70
  generalize u 71 = u71
  generalize u 73 = u73
  generalize u 74 = u74
  generalize u 75 = u75
  generalize u 76 = u76
  generalize u 77 = u77
  generalize u 78 = u78
  generalize u 79 = u79
  generalize u 80 = u80
  generalize u 81 = u81
  generalize u 82 = u82
  generalize u 83 = u83
  generalize u 84 = u84
  generalize u 85 = u85
  generalize u 86 = u86
  generalize u 87 = u87
  generalize u 88 = u88
  generalize u 89 = u89
  generalize u 90 = u90
  generalize u 91 = u91
  generalize u 92 = u92
  generalize u 93 = u93
  generalize u 94 = u94
  generalize u 95 = u95
  generalize u 96 = u96
  generalize u 97 = u97
  generalize u 98 = u98
  generalize u 99 = u99
  generalize u 100 = u100
  generalize u 101 = u101
  generalize u 102 = u102
  generalize u 103 = u103
  generalize u 104 = u104
  generalize u 105 = u105
  generalize u 106 = u106
  generalize u 107 = u107
  generalize u 108 = u108
  generalize u 109 = u109
  generalize u 110 = u110
  generalize u 111 = u111
  generalize u 112 = u112
  generalize u 113 = u113
  generalize u 114 = u114
  generalize u 115 = u115
  generalize u 116 = u116
  generalize u 117 = u117
  generalize u 118 = u118
  generalize u 119 = u119
  generalize u 120 = u120
  generalize u 121 = u121
  generalize u 122 = u122
  generalize u 123 = u123
  generalize u 124 = u124
  generalize u 125 = u125
  generalize u 126 = u126
  generalize u 127 = u127
  generalize u 128 = u128
  generalize u 129 = u129
  generalize u 130 = u130
  generalize u 131 = u131
  generalize u 132 = u132
  generalize u 133 = u133
  generalize u 134 = u134
  generalize u 135 = u135
  generalize u 136 = u136
  generalize u 137 = u137
  generalize u 138 = u138
  generalize u 139 = u139
  generalize u 140 = u140
  generalize u 141 = u141
  generalize u 142 = u142
  generalize u 143 = u143
  generalize u 144 = u144
  generalize u 145 = u145
  generalize u 146 = u146
  generalize u 147 = u147
  generalize u 148 = u148
  generalize u 149 = u149
  generalize u 150 = u150
  generalize u 151 = u151
  generalize u 152 = u152
  generalize u 153 = u153
  generalize u 154 = u154
  generalize u 155 = u155
  generalize u 156 = u156
  generalize u 157 = u157
  generalize u 158 = u158
  generalize u 159 = u159
  generalize u 160 = u160
  generalize u 161 = u161
  generalize u 162 = u162
  generalize u 163 = u163
  generalize u 164 = u164
  generalize u 165 = u165
  generalize u 166 = u166
  generalize u 167 = u167
  generalize u 168 = u168
  generalize u 169 = u169
  generalize u 170 = u170
  generalize u 171 = u171
  generalize u 172 = u172
  generalize u 173 = u173
  generalize u 174 = u174
  generalize u 175 = u175
  generalize u 176 = u176
  generalize u 177 = u177
  generalize u 178 = u178
  generalize u 179 = u179
  generalize u 180 = u180
  generalize u 181 = u181
  generalize u 182 = u182
  generalize u 183 = u183
  generalize u 184 = u184
  generalize u 185 = u185
  generalize u 186 = u186
  generalize u 187 = u187
  generalize u 188 = u188
  clear u
  go_wp2
  exact HQ.out _ ⟨rfl, rfl, rfl, rfl, rfl, rfl, rfl, rfl, rfl, rfl, rfl, rfl, (by first | rfl | (simp; done) | (go_num; done)), rfl, rfl, rfl, rfl, rfl, rfl⟩
set_option maxHeartbeats 8000000 in
set_option maxRecDepth 100000 in
theorem ri_r9 {K : Act → World → Prop} {c : Code} (hc : regOf (Try.f3.body.getD .skip) 9 = some c) (a : Act) {v : Vri} {wq : World} {L : LOC} {m xf xp : Int} {yn yt : ByteArray} {yc yx cd : Int} (hF : Fri a v) (h1v : v.v1 = .int .i64 m) (h8v : v.v8 = .pointer (some ⟨L.b, 0, none⟩)) (q0 : 0 ≤ xf) (q1 : xf ≤ 1000000) (hE1 : Calls Try.prog 12 #[.pointer (some ⟨L.b, 0, none⟩)] wq fun e w' => e = .returned (.int .i64 xf) ∧ w' = wq) (hE2 : Calls Try.prog 9 #[.int .i64 m, .int .i64 (xf + 1)] wq fun e w' => e = .returned (.int .i64 xp) ∧ w' = wq) (hE3 : Calls Try.prog 11 #[.string ⟨#[115]⟩, .pointer (some ⟨L.b, 0, none⟩), .int .i64 xp] wq fun e w' => e = .returned (.tuple #[.agg #[.string yn, .string yt, .int .i64 yc, .int .i64 yx], .int .i64 cd]) ∧ Below wq.heap.size wq w')
    (hQ : ∀ a' w1, Fri a' { v with v11 := .pointer (some ⟨w1.heap.size, 0, none⟩), v12 := .int .i64 cd } → Below wq.heap.size wq w1 → K a' (w1.alloc (.cells #[.string yn, .string yt, .int .i64 yc, .int .i64 yx] 33))) :
    Code.wp Try.prog c (Exit.then K fun _ _ _ => False) a wq := by
  have HQ := hide hQ
  clear hQ
  obtain ⟨t', d'⟩ := a
  obtain ⟨v0, v1, v2, v6, v7, v8, v10, v11, v12, v13, v14, v15, v16, v17, v18, v19, v72⟩ := v
  simp only at h1v h8v HQ
  subst h1v h8v
  obtain ⟨hs1, hd1, q0, q1, q2, q6, q7, q8, q10, q11, q12, q13, q14, q15, q16, q17, q18, q19, q72⟩ := hF
  obtain ⟨u, hu⟩ := frame_ri t' hs1
  simp only at hd1 q0 q1 q2 q6 q7 q8 q10 q11 q12 q13 q14 q15 q16 q17 q18 q19 q72
  subst hu hd1
  have e0 : u 0 = v0 := q0
  have e1 : u 1 = .int .i64 m := q1
  have e2 : u 2 = v2 := q2
  have e6 : u 6 = v6 := q6
  have e7 : u 7 = v7 := q7
  have e8 : u 8 = .pointer (some ⟨L.b, 0, none⟩) := q8
  have e10 : u 10 = v10 := q10
  have e11 : u 11 = v11 := q11
  have e12 : u 12 = v12 := q12
  have e13 : u 13 = v13 := q13
  have e14 : u 14 = v14 := q14
  have e15 : u 15 = v15 := q15
  have e16 : u 16 = v16 := q16
  have e17 : u 17 = v17 := q17
  have e18 : u 18 = v18 := q18
  have e19 : u 19 = v19 := q19
  have e72 : u 72 = v72 := q72
  rw [e0, e1, e2, e6, e7, e8, e10, e11, e12, e13, e14, e15, e16, e17, e18, e19, e72]
  clear q0 e0 q1 e1 q2 e2 q6 e6 q7 e7 q8 e8 q10 e10 q11 e11 q12 e12 q13 e13 q14 e14 q15 e15 q16 e16 q17 e17 q18 e18 q19 e19 q72 e72 hs1
  simp only [Try.f3, Option.getD_some, regOf] at hc
  injection hc with hc
  subst hc
  generalize u 3 = u3
  generalize u 4 = u4
  generalize u 5 = u5
  generalize u 9 = u9
  generalize u 20 = u20
  generalize u 21 = u21
  generalize u 22 = u22
  generalize u 23 = u23
  generalize u 24 = u24
  generalize u 25 = u25
  generalize u 26 = u26
  generalize u 27 = u27
  generalize u 28 = u28
  generalize u 29 = u29
  generalize u 30 = u30
  generalize u 31 = u31
  generalize u 32 = u32
  generalize u 33 = u33
  generalize u 34 = u34
  generalize u 35 = u35
  generalize u 36 = u36
  generalize u 37 = u37
  generalize u 38 = u38
  generalize u 39 = u39
  generalize u 40 = u40
  generalize u 41 = u41
  generalize u 42 = u42
  generalize u 43 = u43
  generalize u 44 = u44
  generalize u 45 = u45
  generalize u 46 = u46
  generalize u 47 = u47
  generalize u 48 = u48
  generalize u 49 = u49
  generalize u 50 = u50
  generalize u 51 = u51
  generalize u 52 = u52
  generalize u 53 = u53
  generalize u 54 = u54
  generalize u 55 = u55
  generalize u 56 = u56
  generalize u 57 = u57
  generalize u 58 = u58
  generalize u 59 = u59
  generalize u 60 = u60
  generalize u 61 = u61
  generalize u 62 = u62
  generalize u 63 = u63
  generalize u 64 = u64
  generalize u 65 = u65
  generalize u 66 = u66
  generalize u 67 = u67
  generalize u 68 = u68
  generalize u 69 = u69
  generalize u 70 = u70
  generalize u 71 = u71
  generalize u 73 = u73
  generalize u 74 = u74
  generalize u 75 = u75
  generalize u 76 = u76
  generalize u 77 = u77
  generalize u 78 = u78
  generalize u 79 = u79
  generalize u 80 = u80
  generalize u 81 = u81
  generalize u 82 = u82
  generalize u 83 = u83
  generalize u 84 = u84
  generalize u 85 = u85
  generalize u 86 = u86
  generalize u 87 = u87
  generalize u 88 = u88
  generalize u 89 = u89
  generalize u 90 = u90
  generalize u 91 = u91
  generalize u 92 = u92
  generalize u 93 = u93
  generalize u 94 = u94
  generalize u 95 = u95
  generalize u 96 = u96
  generalize u 97 = u97
  generalize u 98 = u98
  generalize u 99 = u99
  generalize u 100 = u100
  generalize u 101 = u101
  generalize u 102 = u102
  generalize u 103 = u103
  generalize u 104 = u104
  generalize u 105 = u105
  generalize u 106 = u106
  generalize u 107 = u107
  generalize u 108 = u108
  generalize u 109 = u109
  generalize u 110 = u110
  generalize u 111 = u111
  generalize u 112 = u112
  generalize u 113 = u113
  generalize u 114 = u114
  generalize u 115 = u115
  generalize u 116 = u116
  generalize u 117 = u117
  generalize u 118 = u118
  generalize u 119 = u119
  generalize u 120 = u120
  generalize u 121 = u121
  generalize u 122 = u122
  generalize u 123 = u123
  generalize u 124 = u124
  generalize u 125 = u125
  generalize u 126 = u126
  generalize u 127 = u127
  generalize u 128 = u128
  generalize u 129 = u129
  generalize u 130 = u130
  generalize u 131 = u131
  generalize u 132 = u132
  generalize u 133 = u133
  generalize u 134 = u134
  generalize u 135 = u135
  generalize u 136 = u136
  generalize u 137 = u137
  generalize u 138 = u138
  generalize u 139 = u139
  generalize u 140 = u140
  generalize u 141 = u141
  generalize u 142 = u142
  generalize u 143 = u143
  generalize u 144 = u144
  generalize u 145 = u145
  generalize u 146 = u146
  generalize u 147 = u147
  generalize u 148 = u148
  generalize u 149 = u149
  generalize u 150 = u150
  generalize u 151 = u151
  generalize u 152 = u152
  generalize u 153 = u153
  generalize u 154 = u154
  generalize u 155 = u155
  generalize u 156 = u156
  generalize u 157 = u157
  generalize u 158 = u158
  generalize u 159 = u159
  generalize u 160 = u160
  generalize u 161 = u161
  generalize u 162 = u162
  generalize u 163 = u163
  generalize u 164 = u164
  generalize u 165 = u165
  generalize u 166 = u166
  generalize u 167 = u167
  generalize u 168 = u168
  generalize u 169 = u169
  generalize u 170 = u170
  generalize u 171 = u171
  generalize u 172 = u172
  generalize u 173 = u173
  generalize u 174 = u174
  generalize u 175 = u175
  generalize u 176 = u176
  generalize u 177 = u177
  generalize u 178 = u178
  generalize u 179 = u179
  generalize u 180 = u180
  generalize u 181 = u181
  generalize u 182 = u182
  generalize u 183 = u183
  generalize u 184 = u184
  generalize u 185 = u185
  generalize u 186 = u186
  generalize u 187 = u187
  generalize u 188 = u188
  clear u
  have H1 := hide hE1
  have H2 := hide hE2
  have H3 := hide hE3
  clear hE1 hE2 hE3
  go_wp2_with (first | (go_at_call 12; refine H1.out.mono ?_; rintro e w1 ⟨rfl, r1⟩; obtain rfl := r1.symm) | (go_at_call 9; refine H2.out.mono ?_; rintro e w2 ⟨rfl, r2⟩; obtain rfl := r2.symm) | (go_at_call 11; refine H3.out.mono ?_; rintro e w3 ⟨rfl, b3⟩; have B3 := hide b3; clear b3))
  exact HQ.out _ _ ⟨rfl, rfl, rfl, rfl, rfl, rfl, rfl, rfl, rfl, rfl, rfl, rfl, rfl, rfl, rfl, rfl, rfl, rfl, rfl⟩ B3.out
set_option maxHeartbeats 8000000 in
set_option maxRecDepth 100000 in
theorem ri_r10 {K : Act → World → Prop} {c : Code} (hc : regOf (Try.f3.body.getD .skip) 10 = some c) (a : Act) {v : Vri} {wq : World} {cd : Int} (hF : Fri a v) (h12v : v.v12 = .int .i64 cd) (hQ : ∀ a', Fri a' v → a'.tmps.getD 52 undef = .bool (!(cd == 0)) → K a' wq) :
    Code.wp Try.prog c (Exit.then K fun _ _ _ => False) a wq := by
  have HQ := hide hQ
  clear hQ
  obtain ⟨t', d'⟩ := a
  obtain ⟨v0, v1, v2, v6, v7, v8, v10, v11, v12, v13, v14, v15, v16, v17, v18, v19, v72⟩ := v
  simp only at h12v HQ
  subst h12v
  obtain ⟨hs1, hd1, q0, q1, q2, q6, q7, q8, q10, q11, q12, q13, q14, q15, q16, q17, q18, q19, q72⟩ := hF
  obtain ⟨u, hu⟩ := frame_ri t' hs1
  simp only at hd1 q0 q1 q2 q6 q7 q8 q10 q11 q12 q13 q14 q15 q16 q17 q18 q19 q72
  subst hu hd1
  have e0 : u 0 = v0 := q0
  have e1 : u 1 = v1 := q1
  have e2 : u 2 = v2 := q2
  have e6 : u 6 = v6 := q6
  have e7 : u 7 = v7 := q7
  have e8 : u 8 = v8 := q8
  have e10 : u 10 = v10 := q10
  have e11 : u 11 = v11 := q11
  have e12 : u 12 = .int .i64 cd := q12
  have e13 : u 13 = v13 := q13
  have e14 : u 14 = v14 := q14
  have e15 : u 15 = v15 := q15
  have e16 : u 16 = v16 := q16
  have e17 : u 17 = v17 := q17
  have e18 : u 18 = v18 := q18
  have e19 : u 19 = v19 := q19
  have e72 : u 72 = v72 := q72
  rw [e0, e1, e2, e6, e7, e8, e10, e11, e12, e13, e14, e15, e16, e17, e18, e19, e72]
  clear q0 e0 q1 e1 q2 e2 q6 e6 q7 e7 q8 e8 q10 e10 q11 e11 q12 e12 q13 e13 q14 e14 q15 e15 q16 e16 q17 e17 q18 e18 q19 e19 q72 e72 hs1
  simp only [Try.f3, Option.getD_some, regOf] at hc
  injection hc with hc
  subst hc
  generalize u 3 = u3
  generalize u 4 = u4
  generalize u 5 = u5
  generalize u 9 = u9
  generalize u 20 = u20
  generalize u 21 = u21
  generalize u 22 = u22
  generalize u 23 = u23
  generalize u 24 = u24
  generalize u 25 = u25
  generalize u 26 = u26
  generalize u 27 = u27
  generalize u 28 = u28
  generalize u 29 = u29
  generalize u 30 = u30
  generalize u 31 = u31
  generalize u 32 = u32
  generalize u 33 = u33
  generalize u 34 = u34
  generalize u 35 = u35
  generalize u 36 = u36
  generalize u 37 = u37
  generalize u 38 = u38
  generalize u 39 = u39
  generalize u 40 = u40
  generalize u 41 = u41
  generalize u 42 = u42
  generalize u 43 = u43
  generalize u 44 = u44
  generalize u 45 = u45
  generalize u 46 = u46
  generalize u 47 = u47
  generalize u 48 = u48
  generalize u 49 = u49
  generalize u 50 = u50
  generalize u 51 = u51
  generalize u 52 = u52
  generalize u 53 = u53
  generalize u 54 = u54
  generalize u 55 = u55
  generalize u 56 = u56
  generalize u 57 = u57
  generalize u 58 = u58
  generalize u 59 = u59
  generalize u 60 = u60
  generalize u 61 = u61
  generalize u 62 = u62
  generalize u 63 = u63
  generalize u 64 = u64
  generalize u 65 = u65
  generalize u 66 = u66
  generalize u 67 = u67
  generalize u 68 = u68
  generalize u 69 = u69
  generalize u 70 = u70
  generalize u 71 = u71
  generalize u 73 = u73
  generalize u 74 = u74
  generalize u 75 = u75
  generalize u 76 = u76
  generalize u 77 = u77
  generalize u 78 = u78
  generalize u 79 = u79
  generalize u 80 = u80
  generalize u 81 = u81
  generalize u 82 = u82
  generalize u 83 = u83
  generalize u 84 = u84
  generalize u 85 = u85
  generalize u 86 = u86
  generalize u 87 = u87
  generalize u 88 = u88
  generalize u 89 = u89
  generalize u 90 = u90
  generalize u 91 = u91
  generalize u 92 = u92
  generalize u 93 = u93
  generalize u 94 = u94
  generalize u 95 = u95
  generalize u 96 = u96
  generalize u 97 = u97
  generalize u 98 = u98
  generalize u 99 = u99
  generalize u 100 = u100
  generalize u 101 = u101
  generalize u 102 = u102
  generalize u 103 = u103
  generalize u 104 = u104
  generalize u 105 = u105
  generalize u 106 = u106
  generalize u 107 = u107
  generalize u 108 = u108
  generalize u 109 = u109
  generalize u 110 = u110
  generalize u 111 = u111
  generalize u 112 = u112
  generalize u 113 = u113
  generalize u 114 = u114
  generalize u 115 = u115
  generalize u 116 = u116
  generalize u 117 = u117
  generalize u 118 = u118
  generalize u 119 = u119
  generalize u 120 = u120
  generalize u 121 = u121
  generalize u 122 = u122
  generalize u 123 = u123
  generalize u 124 = u124
  generalize u 125 = u125
  generalize u 126 = u126
  generalize u 127 = u127
  generalize u 128 = u128
  generalize u 129 = u129
  generalize u 130 = u130
  generalize u 131 = u131
  generalize u 132 = u132
  generalize u 133 = u133
  generalize u 134 = u134
  generalize u 135 = u135
  generalize u 136 = u136
  generalize u 137 = u137
  generalize u 138 = u138
  generalize u 139 = u139
  generalize u 140 = u140
  generalize u 141 = u141
  generalize u 142 = u142
  generalize u 143 = u143
  generalize u 144 = u144
  generalize u 145 = u145
  generalize u 146 = u146
  generalize u 147 = u147
  generalize u 148 = u148
  generalize u 149 = u149
  generalize u 150 = u150
  generalize u 151 = u151
  generalize u 152 = u152
  generalize u 153 = u153
  generalize u 154 = u154
  generalize u 155 = u155
  generalize u 156 = u156
  generalize u 157 = u157
  generalize u 158 = u158
  generalize u 159 = u159
  generalize u 160 = u160
  generalize u 161 = u161
  generalize u 162 = u162
  generalize u 163 = u163
  generalize u 164 = u164
  generalize u 165 = u165
  generalize u 166 = u166
  generalize u 167 = u167
  generalize u 168 = u168
  generalize u 169 = u169
  generalize u 170 = u170
  generalize u 171 = u171
  generalize u 172 = u172
  generalize u 173 = u173
  generalize u 174 = u174
  generalize u 175 = u175
  generalize u 176 = u176
  generalize u 177 = u177
  generalize u 178 = u178
  generalize u 179 = u179
  generalize u 180 = u180
  generalize u 181 = u181
  generalize u 182 = u182
  generalize u 183 = u183
  generalize u 184 = u184
  generalize u 185 = u185
  generalize u 186 = u186
  generalize u 187 = u187
  generalize u 188 = u188
  clear u
  go_wp2
  exact HQ.out _ ⟨rfl, rfl, rfl, rfl, rfl, rfl, rfl, rfl, rfl, rfl, rfl, rfl, rfl, rfl, rfl, rfl, rfl, rfl, rfl⟩ (by first | rfl | (simp; done))
set_option maxHeartbeats 8000000 in
set_option maxRecDepth 100000 in
theorem ri_r12 {K : Act → World → Prop} {c : Code} (hc : regOf (Try.f3.body.getD .skip) 12 = some c) (a : Act) {v : Vri} {wq : World} {sb : Nat} {xn xt : ByteArray} {xc y : Int} (hF : Fri a v) (h11v : v.v11 = .pointer (some ⟨sb, 0, none⟩)) (hS : wq.heap[sb]? = some (.cells #[.string xn, .string xt, .int .i64 xc, .int .i64 (y + 1)] 33 (0, 0))) (q0 : -1 ≤ y) (q1 : y ≤ 1000000)
    (hQ : ∀ a', Fri a' { v with v13 := .int .i64 y } → K a' wq) :
    Code.wp Try.prog c (Exit.then K fun _ _ _ => False) a wq := by
  have HQ := hide hQ
  clear hQ
  obtain ⟨t', d'⟩ := a
  obtain ⟨v0, v1, v2, v6, v7, v8, v10, v11, v12, v13, v14, v15, v16, v17, v18, v19, v72⟩ := v
  simp only at h11v HQ
  subst h11v
  obtain ⟨hs1, hd1, q0, q1, q2, q6, q7, q8, q10, q11, q12, q13, q14, q15, q16, q17, q18, q19, q72⟩ := hF
  obtain ⟨u, hu⟩ := frame_ri t' hs1
  simp only at hd1 q0 q1 q2 q6 q7 q8 q10 q11 q12 q13 q14 q15 q16 q17 q18 q19 q72
  subst hu hd1
  have e0 : u 0 = v0 := q0
  have e1 : u 1 = v1 := q1
  have e2 : u 2 = v2 := q2
  have e6 : u 6 = v6 := q6
  have e7 : u 7 = v7 := q7
  have e8 : u 8 = v8 := q8
  have e10 : u 10 = v10 := q10
  have e11 : u 11 = .pointer (some ⟨sb, 0, none⟩) := q11
  have e12 : u 12 = v12 := q12
  have e13 : u 13 = v13 := q13
  have e14 : u 14 = v14 := q14
  have e15 : u 15 = v15 := q15
  have e16 : u 16 = v16 := q16
  have e17 : u 17 = v17 := q17
  have e18 : u 18 = v18 := q18
  have e19 : u 19 = v19 := q19
  have e72 : u 72 = v72 := q72
  rw [e0, e1, e2, e6, e7, e8, e10, e11, e12, e13, e14, e15, e16, e17, e18, e19, e72]
  clear q0 e0 q1 e1 q2 e2 q6 e6 q7 e7 q8 e8 q10 e10 q11 e11 q12 e12 q13 e13 q14 e14 q15 e15 q16 e16 q17 e17 q18 e18 q19 e19 q72 e72 hs1
  simp only [Try.f3, Option.getD_some, regOf] at hc
  injection hc with hc
  subst hc
  generalize u 3 = u3
  generalize u 4 = u4
  generalize u 5 = u5
  generalize u 9 = u9
  generalize u 20 = u20
  generalize u 21 = u21
  generalize u 22 = u22
  generalize u 23 = u23
  generalize u 24 = u24
  generalize u 25 = u25
  generalize u 26 = u26
  generalize u 27 = u27
  generalize u 28 = u28
  generalize u 29 = u29
  generalize u 30 = u30
  generalize u 31 = u31
  generalize u 32 = u32
  generalize u 33 = u33
  generalize u 34 = u34
  generalize u 35 = u35
  generalize u 36 = u36
  generalize u 37 = u37
  generalize u 38 = u38
  generalize u 39 = u39
  generalize u 40 = u40
  generalize u 41 = u41
  generalize u 42 = u42
  generalize u 43 = u43
  generalize u 44 = u44
  generalize u 45 = u45
  generalize u 46 = u46
  generalize u 47 = u47
  generalize u 48 = u48
  generalize u 49 = u49
  generalize u 50 = u50
  generalize u 51 = u51
  generalize u 52 = u52
  generalize u 53 = u53
  generalize u 54 = u54
  generalize u 55 = u55
  generalize u 56 = u56
  generalize u 57 = u57
  generalize u 58 = u58
  generalize u 59 = u59
  generalize u 60 = u60
  generalize u 61 = u61
  generalize u 62 = u62
  generalize u 63 = u63
  generalize u 64 = u64
  generalize u 65 = u65
  generalize u 66 = u66
  generalize u 67 = u67
  generalize u 68 = u68
  generalize u 69 = u69
  generalize u 70 = u70
  generalize u 71 = u71
  generalize u 73 = u73
  generalize u 74 = u74
  generalize u 75 = u75
  generalize u 76 = u76
  generalize u 77 = u77
  generalize u 78 = u78
  generalize u 79 = u79
  generalize u 80 = u80
  generalize u 81 = u81
  generalize u 82 = u82
  generalize u 83 = u83
  generalize u 84 = u84
  generalize u 85 = u85
  generalize u 86 = u86
  generalize u 87 = u87
  generalize u 88 = u88
  generalize u 89 = u89
  generalize u 90 = u90
  generalize u 91 = u91
  generalize u 92 = u92
  generalize u 93 = u93
  generalize u 94 = u94
  generalize u 95 = u95
  generalize u 96 = u96
  generalize u 97 = u97
  generalize u 98 = u98
  generalize u 99 = u99
  generalize u 100 = u100
  generalize u 101 = u101
  generalize u 102 = u102
  generalize u 103 = u103
  generalize u 104 = u104
  generalize u 105 = u105
  generalize u 106 = u106
  generalize u 107 = u107
  generalize u 108 = u108
  generalize u 109 = u109
  generalize u 110 = u110
  generalize u 111 = u111
  generalize u 112 = u112
  generalize u 113 = u113
  generalize u 114 = u114
  generalize u 115 = u115
  generalize u 116 = u116
  generalize u 117 = u117
  generalize u 118 = u118
  generalize u 119 = u119
  generalize u 120 = u120
  generalize u 121 = u121
  generalize u 122 = u122
  generalize u 123 = u123
  generalize u 124 = u124
  generalize u 125 = u125
  generalize u 126 = u126
  generalize u 127 = u127
  generalize u 128 = u128
  generalize u 129 = u129
  generalize u 130 = u130
  generalize u 131 = u131
  generalize u 132 = u132
  generalize u 133 = u133
  generalize u 134 = u134
  generalize u 135 = u135
  generalize u 136 = u136
  generalize u 137 = u137
  generalize u 138 = u138
  generalize u 139 = u139
  generalize u 140 = u140
  generalize u 141 = u141
  generalize u 142 = u142
  generalize u 143 = u143
  generalize u 144 = u144
  generalize u 145 = u145
  generalize u 146 = u146
  generalize u 147 = u147
  generalize u 148 = u148
  generalize u 149 = u149
  generalize u 150 = u150
  generalize u 151 = u151
  generalize u 152 = u152
  generalize u 153 = u153
  generalize u 154 = u154
  generalize u 155 = u155
  generalize u 156 = u156
  generalize u 157 = u157
  generalize u 158 = u158
  generalize u 159 = u159
  generalize u 160 = u160
  generalize u 161 = u161
  generalize u 162 = u162
  generalize u 163 = u163
  generalize u 164 = u164
  generalize u 165 = u165
  generalize u 166 = u166
  generalize u 167 = u167
  generalize u 168 = u168
  generalize u 169 = u169
  generalize u 170 = u170
  generalize u 171 = u171
  generalize u 172 = u172
  generalize u 173 = u173
  generalize u 174 = u174
  generalize u 175 = u175
  generalize u 176 = u176
  generalize u 177 = u177
  generalize u 178 = u178
  generalize u 179 = u179
  generalize u 180 = u180
  generalize u 181 = u181
  generalize u 182 = u182
  generalize u 183 = u183
  generalize u 184 = u184
  generalize u 185 = u185
  generalize u 186 = u186
  generalize u 187 = u187
  generalize u 188 = u188
  clear u
  obtain ⟨⟨c0, c1, c2, c3⟩, _⟩ := box4 hS
  clear hS
  go_wp2
  exact HQ.out _ ⟨rfl, rfl, rfl, rfl, rfl, rfl, rfl, rfl, rfl, rfl, rfl, rfl, rfl, rfl, rfl, rfl, rfl, rfl, rfl⟩
set_option maxHeartbeats 8000000 in
set_option maxRecDepth 100000 in
theorem ri_r13 {K : Act → World → Prop} {c : Code} (hc : regOf (Try.f3.body.getD .skip) 13 = some c) (a : Act) {v : Vri} {wq : World}  (hF : Fri a v) (hQ : ∀ a', Fri a' { v with v14 := .int .i64 0 } → K a' wq) :
    Code.wp Try.prog c (Exit.then K fun _ _ _ => False) a wq := by
  have HQ := hide hQ
  clear hQ
  obtain ⟨t', d'⟩ := a
  obtain ⟨v0, v1, v2, v6, v7, v8, v10, v11, v12, v13, v14, v15, v16, v17, v18, v19, v72⟩ := v
  obtain ⟨hs1, hd1, q0, q1, q2, q6, q7, q8, q10, q11, q12, q13, q14, q15, q16, q17, q18, q19, q72⟩ := hF
  obtain ⟨u, hu⟩ := frame_ri t' hs1
  simp only at hd1 q0 q1 q2 q6 q7 q8 q10 q11 q12 q13 q14 q15 q16 q17 q18 q19 q72
  subst hu hd1
  have e0 : u 0 = v0 := q0
  have e1 : u 1 = v1 := q1
  have e2 : u 2 = v2 := q2
  have e6 : u 6 = v6 := q6
  have e7 : u 7 = v7 := q7
  have e8 : u 8 = v8 := q8
  have e10 : u 10 = v10 := q10
  have e11 : u 11 = v11 := q11
  have e12 : u 12 = v12 := q12
  have e13 : u 13 = v13 := q13
  have e14 : u 14 = v14 := q14
  have e15 : u 15 = v15 := q15
  have e16 : u 16 = v16 := q16
  have e17 : u 17 = v17 := q17
  have e18 : u 18 = v18 := q18
  have e19 : u 19 = v19 := q19
  have e72 : u 72 = v72 := q72
  rw [e0, e1, e2, e6, e7, e8, e10, e11, e12, e13, e14, e15, e16, e17, e18, e19, e72]
  clear q0 e0 q1 e1 q2 e2 q6 e6 q7 e7 q8 e8 q10 e10 q11 e11 q12 e12 q13 e13 q14 e14 q15 e15 q16 e16 q17 e17 q18 e18 q19 e19 q72 e72 hs1
  simp only [Try.f3, Option.getD_some, regOf] at hc
  injection hc with hc
  subst hc
  generalize u 3 = u3
  generalize u 4 = u4
  generalize u 5 = u5
  generalize u 9 = u9
  generalize u 20 = u20
  generalize u 21 = u21
  generalize u 22 = u22
  generalize u 23 = u23
  generalize u 24 = u24
  generalize u 25 = u25
  generalize u 26 = u26
  generalize u 27 = u27
  generalize u 28 = u28
  generalize u 29 = u29
  generalize u 30 = u30
  generalize u 31 = u31
  generalize u 32 = u32
  generalize u 33 = u33
  generalize u 34 = u34
  generalize u 35 = u35
  generalize u 36 = u36
  generalize u 37 = u37
  generalize u 38 = u38
  generalize u 39 = u39
  generalize u 40 = u40
  generalize u 41 = u41
  generalize u 42 = u42
  generalize u 43 = u43
  generalize u 44 = u44
  generalize u 45 = u45
  generalize u 46 = u46
  generalize u 47 = u47
  generalize u 48 = u48
  generalize u 49 = u49
  generalize u 50 = u50
  generalize u 51 = u51
  generalize u 52 = u52
  generalize u 53 = u53
  generalize u 54 = u54
  generalize u 55 = u55
  generalize u 56 = u56
  generalize u 57 = u57
  generalize u 58 = u58
  generalize u 59 = u59
  generalize u 60 = u60
  generalize u 61 = u61
  generalize u 62 = u62
  generalize u 63 = u63
  generalize u 64 = u64
  generalize u 65 = u65
  generalize u 66 = u66
  generalize u 67 = u67
  generalize u 68 = u68
  generalize u 69 = u69
  generalize u 70 = u70
  generalize u 71 = u71
  generalize u 73 = u73
  generalize u 74 = u74
  generalize u 75 = u75
  generalize u 76 = u76
  generalize u 77 = u77
  generalize u 78 = u78
  generalize u 79 = u79
  generalize u 80 = u80
  generalize u 81 = u81
  generalize u 82 = u82
  generalize u 83 = u83
  generalize u 84 = u84
  generalize u 85 = u85
  generalize u 86 = u86
  generalize u 87 = u87
  generalize u 88 = u88
  generalize u 89 = u89
  generalize u 90 = u90
  generalize u 91 = u91
  generalize u 92 = u92
  generalize u 93 = u93
  generalize u 94 = u94
  generalize u 95 = u95
  generalize u 96 = u96
  generalize u 97 = u97
  generalize u 98 = u98
  generalize u 99 = u99
  generalize u 100 = u100
  generalize u 101 = u101
  generalize u 102 = u102
  generalize u 103 = u103
  generalize u 104 = u104
  generalize u 105 = u105
  generalize u 106 = u106
  generalize u 107 = u107
  generalize u 108 = u108
  generalize u 109 = u109
  generalize u 110 = u110
  generalize u 111 = u111
  generalize u 112 = u112
  generalize u 113 = u113
  generalize u 114 = u114
  generalize u 115 = u115
  generalize u 116 = u116
  generalize u 117 = u117
  generalize u 118 = u118
  generalize u 119 = u119
  generalize u 120 = u120
  generalize u 121 = u121
  generalize u 122 = u122
  generalize u 123 = u123
  generalize u 124 = u124
  generalize u 125 = u125
  generalize u 126 = u126
  generalize u 127 = u127
  generalize u 128 = u128
  generalize u 129 = u129
  generalize u 130 = u130
  generalize u 131 = u131
  generalize u 132 = u132
  generalize u 133 = u133
  generalize u 134 = u134
  generalize u 135 = u135
  generalize u 136 = u136
  generalize u 137 = u137
  generalize u 138 = u138
  generalize u 139 = u139
  generalize u 140 = u140
  generalize u 141 = u141
  generalize u 142 = u142
  generalize u 143 = u143
  generalize u 144 = u144
  generalize u 145 = u145
  generalize u 146 = u146
  generalize u 147 = u147
  generalize u 148 = u148
  generalize u 149 = u149
  generalize u 150 = u150
  generalize u 151 = u151
  generalize u 152 = u152
  generalize u 153 = u153
  generalize u 154 = u154
  generalize u 155 = u155
  generalize u 156 = u156
  generalize u 157 = u157
  generalize u 158 = u158
  generalize u 159 = u159
  generalize u 160 = u160
  generalize u 161 = u161
  generalize u 162 = u162
  generalize u 163 = u163
  generalize u 164 = u164
  generalize u 165 = u165
  generalize u 166 = u166
  generalize u 167 = u167
  generalize u 168 = u168
  generalize u 169 = u169
  generalize u 170 = u170
  generalize u 171 = u171
  generalize u 172 = u172
  generalize u 173 = u173
  generalize u 174 = u174
  generalize u 175 = u175
  generalize u 176 = u176
  generalize u 177 = u177
  generalize u 178 = u178
  generalize u 179 = u179
  generalize u 180 = u180
  generalize u 181 = u181
  generalize u 182 = u182
  generalize u 183 = u183
  generalize u 184 = u184
  generalize u 185 = u185
  generalize u 186 = u186
  generalize u 187 = u187
  generalize u 188 = u188
  clear u
  go_wp2
  exact HQ.out _ ⟨rfl, rfl, rfl, rfl, rfl, rfl, rfl, rfl, rfl, rfl, rfl, rfl, rfl, rfl, rfl, rfl, rfl, rfl, rfl⟩
set_option maxHeartbeats 8000000 in
set_option maxRecDepth 100000 in
theorem ri_r14 {K : Act → World → Prop} {c : Code} (hc : regOf (Try.f3.body.getD .skip) 14 = some c) (a : Act) {v : Vri} {wq : World} {ao : Option Addr} {nq cap iq : Nat} (hF : Fri a v) (h2v : v.v2 = .slice ao nq cap) (h14v : v.v14 = .int .i64 (iq : Int)) (hQ : ∀ a', Fri a' v → a'.tmps.getD 63 undef = .bool (decide (iq < nq) && decide (iq < 100)) → K a' wq) :
    Code.wp Try.prog c (Exit.then K fun _ _ _ => False) a wq := by
  have HQ := hide hQ
  clear hQ
  obtain ⟨t', d'⟩ := a
  obtain ⟨v0, v1, v2, v6, v7, v8, v10, v11, v12, v13, v14, v15, v16, v17, v18, v19, v72⟩ := v
  simp only at h2v h14v HQ
  subst h2v h14v
  obtain ⟨hs1, hd1, q0, q1, q2, q6, q7, q8, q10, q11, q12, q13, q14, q15, q16, q17, q18, q19, q72⟩ := hF
  obtain ⟨u, hu⟩ := frame_ri t' hs1
  simp only at hd1 q0 q1 q2 q6 q7 q8 q10 q11 q12 q13 q14 q15 q16 q17 q18 q19 q72
  subst hu hd1
  have e0 : u 0 = v0 := q0
  have e1 : u 1 = v1 := q1
  have e2 : u 2 = .slice ao nq cap := q2
  have e6 : u 6 = v6 := q6
  have e7 : u 7 = v7 := q7
  have e8 : u 8 = v8 := q8
  have e10 : u 10 = v10 := q10
  have e11 : u 11 = v11 := q11
  have e12 : u 12 = v12 := q12
  have e13 : u 13 = v13 := q13
  have e14 : u 14 = .int .i64 (iq : Int) := q14
  have e15 : u 15 = v15 := q15
  have e16 : u 16 = v16 := q16
  have e17 : u 17 = v17 := q17
  have e18 : u 18 = v18 := q18
  have e19 : u 19 = v19 := q19
  have e72 : u 72 = v72 := q72
  rw [e0, e1, e2, e6, e7, e8, e10, e11, e12, e13, e14, e15, e16, e17, e18, e19, e72]
  clear q0 e0 q1 e1 q2 e2 q6 e6 q7 e7 q8 e8 q10 e10 q11 e11 q12 e12 q13 e13 q14 e14 q15 e15 q16 e16 q17 e17 q18 e18 q19 e19 q72 e72 hs1
  simp only [Try.f3, Option.getD_some, regOf] at hc
  injection hc with hc
  subst hc
  generalize u 3 = u3
  generalize u 4 = u4
  generalize u 5 = u5
  generalize u 9 = u9
  generalize u 20 = u20
  generalize u 21 = u21
  generalize u 22 = u22
  generalize u 23 = u23
  generalize u 24 = u24
  generalize u 25 = u25
  generalize u 26 = u26
  generalize u 27 = u27
  generalize u 28 = u28
  generalize u 29 = u29
  generalize u 30 = u30
  generalize u 31 = u31
  generalize u 32 = u32
  generalize u 33 = u33
  generalize u 34 = u34
  generalize u 35 = u35
  generalize u 36 = u36
  generalize u 37 = u37
  generalize u 38 = u38
  generalize u 39 = u39
  generalize u 40 = u40
  generalize u 41 = u41
  generalize u 42 = u42
  generalize u 43 = u43
  generalize u 44 = u44
  generalize u 45 = u45
  generalize u 46 = u46
  generalize u 47 = u47
  generalize u 48 = u48
  generalize u 49 = u49
  generalize u 50 = u50
  generalize u 51 = u51
  generalize u 52 = u52
  generalize u 53 = u53
  generalize u 54 = u54
  generalize u 55 = u55
  generalize u 56 = u56
  generalize u 57 = u57
  generalize u 58 = u58
  generalize u 59 = u59
  generalize u 60 = u60
  generalize u 61 = u61
  generalize u 62 = u62
  generalize u 63 = u63
  generalize u 64 = u64
  generalize u 65 = u65
  generalize u 66 = u66
  generalize u 67 = u67
  generalize u 68 = u68
  generalize u 69 = u69
  generalize u 70 = u70
  generalize u 71 = u71
  generalize u 73 = u73
  generalize u 74 = u74
  generalize u 75 = u75
  generalize u 76 = u76
  generalize u 77 = u77
  generalize u 78 = u78
  generalize u 79 = u79
  generalize u 80 = u80
  generalize u 81 = u81
  generalize u 82 = u82
  generalize u 83 = u83
  generalize u 84 = u84
  generalize u 85 = u85
  generalize u 86 = u86
  generalize u 87 = u87
  generalize u 88 = u88
  generalize u 89 = u89
  generalize u 90 = u90
  generalize u 91 = u91
  generalize u 92 = u92
  generalize u 93 = u93
  generalize u 94 = u94
  generalize u 95 = u95
  generalize u 96 = u96
  generalize u 97 = u97
  generalize u 98 = u98
  generalize u 99 = u99
  generalize u 100 = u100
  generalize u 101 = u101
  generalize u 102 = u102
  generalize u 103 = u103
  generalize u 104 = u104
  generalize u 105 = u105
  generalize u 106 = u106
  generalize u 107 = u107
  generalize u 108 = u108
  generalize u 109 = u109
  generalize u 110 = u110
  generalize u 111 = u111
  generalize u 112 = u112
  generalize u 113 = u113
  generalize u 114 = u114
  generalize u 115 = u115
  generalize u 116 = u116
  generalize u 117 = u117
  generalize u 118 = u118
  generalize u 119 = u119
  generalize u 120 = u120
  generalize u 121 = u121
  generalize u 122 = u122
  generalize u 123 = u123
  generalize u 124 = u124
  generalize u 125 = u125
  generalize u 126 = u126
  generalize u 127 = u127
  generalize u 128 = u128
  generalize u 129 = u129
  generalize u 130 = u130
  generalize u 131 = u131
  generalize u 132 = u132
  generalize u 133 = u133
  generalize u 134 = u134
  generalize u 135 = u135
  generalize u 136 = u136
  generalize u 137 = u137
  generalize u 138 = u138
  generalize u 139 = u139
  generalize u 140 = u140
  generalize u 141 = u141
  generalize u 142 = u142
  generalize u 143 = u143
  generalize u 144 = u144
  generalize u 145 = u145
  generalize u 146 = u146
  generalize u 147 = u147
  generalize u 148 = u148
  generalize u 149 = u149
  generalize u 150 = u150
  generalize u 151 = u151
  generalize u 152 = u152
  generalize u 153 = u153
  generalize u 154 = u154
  generalize u 155 = u155
  generalize u 156 = u156
  generalize u 157 = u157
  generalize u 158 = u158
  generalize u 159 = u159
  generalize u 160 = u160
  generalize u 161 = u161
  generalize u 162 = u162
  generalize u 163 = u163
  generalize u 164 = u164
  generalize u 165 = u165
  generalize u 166 = u166
  generalize u 167 = u167
  generalize u 168 = u168
  generalize u 169 = u169
  generalize u 170 = u170
  generalize u 171 = u171
  generalize u 172 = u172
  generalize u 173 = u173
  generalize u 174 = u174
  generalize u 175 = u175
  generalize u 176 = u176
  generalize u 177 = u177
  generalize u 178 = u178
  generalize u 179 = u179
  generalize u 180 = u180
  generalize u 181 = u181
  generalize u 182 = u182
  generalize u 183 = u183
  generalize u 184 = u184
  generalize u 185 = u185
  generalize u 186 = u186
  generalize u 187 = u187
  generalize u 188 = u188
  clear u
  by_cases h1 : iq < nq
  · have g1 : (iq : Int) < (nq : Int) := by omega
    by_cases h2 : iq < 100
    · rw [decide_eq_true h1, decide_eq_true h2] at HQ
      have g2 : (iq : Int) < 100 := by omega
      go_wp2
      exact HQ.out _ ⟨rfl, rfl, rfl, rfl, rfl, rfl, rfl, rfl, rfl, rfl, rfl, rfl, rfl, rfl, rfl, rfl, rfl, rfl, rfl⟩ (by first | rfl | (simp; done) | (simp; omega))
    · rw [decide_eq_true h1, decide_eq_false h2] at HQ
      have g2 : ¬ (iq : Int) < 100 := by omega
      go_wp2
      exact HQ.out _ ⟨rfl, rfl, rfl, rfl, rfl, rfl, rfl, rfl, rfl, rfl, rfl, rfl, rfl, rfl, rfl, rfl, rfl, rfl, rfl⟩ (by first | rfl | (simp; done) | (simp; omega))
  · rw [decide_eq_false h1] at HQ
    have g1 : ¬ (iq : Int) < (nq : Int) := by omega
    go_wp2
    exact HQ.out _ ⟨rfl, rfl, rfl, rfl, rfl, rfl, rfl, rfl, rfl, rfl, rfl, rfl, rfl, rfl, rfl, rfl, rfl, rfl, rfl⟩ (by first | rfl | (simp; done) | (simp; omega))
set_option maxHeartbeats 8000000 in
set_option maxRecDepth 100000 in
theorem ri_r16 {K : Act → World → Prop} {c : Code} (hc : regOf (Try.f3.body.getD .skip) 16 = some c) (a : Act) {v : Vri} {wq : World} {kk m : Int} {bq oq nq cq iq : Nat} (hF : Fri a v) (h2v : v.v2 = .slice (some ⟨bq, oq, none⟩) nq cq) (h14v : v.v14 = .int .i64 (iq : Int)) (hi : iq < nq) (hc0 : wq.cell? ⟨bq, oq + iq * 2, none⟩ = some (.int .i64 kk)) (hc1 : wq.cell? ⟨bq, oq + iq * 2 + 1, none⟩ = some (.int .i64 m))
    (hQ : ∀ a', Fri a' { v with v15 := .pointer (some ⟨wq.heap.size, 0, none⟩) } → K a' (wq.alloc (.cells #[.int .i64 kk, .int .i64 m] 38))) :
    Code.wp Try.prog c (Exit.then K fun _ _ _ => False) a wq := by
  have HQ := hide hQ
  clear hQ
  obtain ⟨t', d'⟩ := a
  obtain ⟨v0, v1, v2, v6, v7, v8, v10, v11, v12, v13, v14, v15, v16, v17, v18, v19, v72⟩ := v
  simp only at h2v h14v HQ
  subst h2v h14v
  obtain ⟨hs1, hd1, q0, q1, q2, q6, q7, q8, q10, q11, q12, q13, q14, q15, q16, q17, q18, q19, q72⟩ := hF
  obtain ⟨u, hu⟩ := frame_ri t' hs1
  simp only at hd1 q0 q1 q2 q6 q7 q8 q10 q11 q12 q13 q14 q15 q16 q17 q18 q19 q72
  subst hu hd1
  have e0 : u 0 = v0 := q0
  have e1 : u 1 = v1 := q1
  have e2 : u 2 = .slice (some ⟨bq, oq, none⟩) nq cq := q2
  have e6 : u 6 = v6 := q6
  have e7 : u 7 = v7 := q7
  have e8 : u 8 = v8 := q8
  have e10 : u 10 = v10 := q10
  have e11 : u 11 = v11 := q11
  have e12 : u 12 = v12 := q12
  have e13 : u 13 = v13 := q13
  have e14 : u 14 = .int .i64 (iq : Int) := q14
  have e15 : u 15 = v15 := q15
  have e16 : u 16 = v16 := q16
  have e17 : u 17 = v17 := q17
  have e18 : u 18 = v18 := q18
  have e19 : u 19 = v19 := q19
  have e72 : u 72 = v72 := q72
  rw [e0, e1, e2, e6, e7, e8, e10, e11, e12, e13, e14, e15, e16, e17, e18, e19, e72]
  clear q0 e0 q1 e1 q2 e2 q6 e6 q7 e7 q8 e8 q10 e10 q11 e11 q12 e12 q13 e13 q14 e14 q15 e15 q16 e16 q17 e17 q18 e18 q19 e19 q72 e72 hs1
  simp only [Try.f3, Option.getD_some, regOf] at hc
  injection hc with hc
  subst hc
  generalize u 3 = u3
  generalize u 4 = u4
  generalize u 5 = u5
  generalize u 9 = u9
  generalize u 20 = u20
  generalize u 21 = u21
  generalize u 22 = u22
  generalize u 23 = u23
  generalize u 24 = u24
  generalize u 25 = u25
  generalize u 26 = u26
  generalize u 27 = u27
  generalize u 28 = u28
  generalize u 29 = u29
  generalize u 30 = u30
  generalize u 31 = u31
  generalize u 32 = u32
  generalize u 33 = u33
  generalize u 34 = u34
  generalize u 35 = u35
  generalize u 36 = u36
  generalize u 37 = u37
  generalize u 38 = u38
  generalize u 39 = u39
  generalize u 40 = u40
  generalize u 41 = u41
  generalize u 42 = u42
  generalize u 43 = u43
  generalize u 44 = u44
  generalize u 45 = u45
  generalize u 46 = u46
  generalize u 47 = u47
  generalize u 48 = u48
  generalize u 49 = u49
  generalize u 50 = u50
  generalize u 51 = u51
  generalize u 52 = u52
  generalize u 53 = u53
  generalize u 54 = u54
  generalize u 55 = u55
  generalize u 56 = u56
  generalize u 57 = u57
  generalize u 58 = u58
  generalize u 59 = u59
  generalize u 60 = u60
  generalize u 61 = u61
  generalize u 62 = u62
  generalize u 63 = u63
  generalize u 64 = u64
  generalize u 65 = u65
  generalize u 66 = u66
  generalize u 67 = u67
  generalize u 68 = u68
  generalize u 69 = u69
  generalize u 70 = u70
  generalize u 71 = u71
  generalize u 73 = u73
  generalize u 74 = u74
  generalize u 75 = u75
  generalize u 76 = u76
  generalize u 77 = u77
  generalize u 78 = u78
  generalize u 79 = u79
  generalize u 80 = u80
  generalize u 81 = u81
  generalize u 82 = u82
  generalize u 83 = u83
  generalize u 84 = u84
  generalize u 85 = u85
  generalize u 86 = u86
  generalize u 87 = u87
  generalize u 88 = u88
  generalize u 89 = u89
  generalize u 90 = u90
  generalize u 91 = u91
  generalize u 92 = u92
  generalize u 93 = u93
  generalize u 94 = u94
  generalize u 95 = u95
  generalize u 96 = u96
  generalize u 97 = u97
  generalize u 98 = u98
  generalize u 99 = u99
  generalize u 100 = u100
  generalize u 101 = u101
  generalize u 102 = u102
  generalize u 103 = u103
  generalize u 104 = u104
  generalize u 105 = u105
  generalize u 106 = u106
  generalize u 107 = u107
  generalize u 108 = u108
  generalize u 109 = u109
  generalize u 110 = u110
  generalize u 111 = u111
  generalize u 112 = u112
  generalize u 113 = u113
  generalize u 114 = u114
  generalize u 115 = u115
  generalize u 116 = u116
  generalize u 117 = u117
  generalize u 118 = u118
  generalize u 119 = u119
  generalize u 120 = u120
  generalize u 121 = u121
  generalize u 122 = u122
  generalize u 123 = u123
  generalize u 124 = u124
  generalize u 125 = u125
  generalize u 126 = u126
  generalize u 127 = u127
  generalize u 128 = u128
  generalize u 129 = u129
  generalize u 130 = u130
  generalize u 131 = u131
  generalize u 132 = u132
  generalize u 133 = u133
  generalize u 134 = u134
  generalize u 135 = u135
  generalize u 136 = u136
  generalize u 137 = u137
  generalize u 138 = u138
  generalize u 139 = u139
  generalize u 140 = u140
  generalize u 141 = u141
  generalize u 142 = u142
  generalize u 143 = u143
  generalize u 144 = u144
  generalize u 145 = u145
  generalize u 146 = u146
  generalize u 147 = u147
  generalize u 148 = u148
  generalize u 149 = u149
  generalize u 150 = u150
  generalize u 151 = u151
  generalize u 152 = u152
  generalize u 153 = u153
  generalize u 154 = u154
  generalize u 155 = u155
  generalize u 156 = u156
  generalize u 157 = u157
  generalize u 158 = u158
  generalize u 159 = u159
  generalize u 160 = u160
  generalize u 161 = u161
  generalize u 162 = u162
  generalize u 163 = u163
  generalize u 164 = u164
  generalize u 165 = u165
  generalize u 166 = u166
  generalize u 167 = u167
  generalize u 168 = u168
  generalize u 169 = u169
  generalize u 170 = u170
  generalize u 171 = u171
  generalize u 172 = u172
  generalize u 173 = u173
  generalize u 174 = u174
  generalize u 175 = u175
  generalize u 176 = u176
  generalize u 177 = u177
  generalize u 178 = u178
  generalize u 179 = u179
  generalize u 180 = u180
  generalize u 181 = u181
  generalize u 182 = u182
  generalize u 183 = u183
  generalize u 184 = u184
  generalize u 185 = u185
  generalize u 186 = u186
  generalize u 187 = u187
  generalize u 188 = u188
  clear u
  have e1 : (iq : Int) < (nq : Int) := by omega
  go_wp2
  exact HQ.out _ ⟨rfl, rfl, rfl, rfl, rfl, rfl, rfl, rfl, rfl, rfl, rfl, rfl, rfl, rfl, rfl, rfl, rfl, rfl, rfl⟩
set_option maxHeartbeats 8000000 in
set_option maxRecDepth 100000 in
theorem ri_r17 {K : Act → World → Prop} {c : Code} (hc : regOf (Try.f3.body.getD .skip) 17 = some c) (a : Act) {v : Vri} {wq : World} {kk pk : Int} {db : Nat} (hF : Fri a v) (h15v : v.v15 = .pointer (some ⟨db, 0, none⟩)) (hD : wq.cell? ⟨db, 0, none⟩ = some (.int .i64 kk)) (hE : Calls Try.prog 9 #[.int .i64 kk, .int .i64 7] wq fun e w' => e = .returned (.int .i64 pk) ∧ w' = wq)
    (hQ : ∀ a' w', Fri a' { v with v72 := .int .i64 pk } → w' = wq → K a' w') :
    Code.wp Try.prog c (Exit.then K fun _ _ _ => False) a wq := by
  have HQ := hide hQ
  clear hQ
  obtain ⟨t', d'⟩ := a
  obtain ⟨v0, v1, v2, v6, v7, v8, v10, v11, v12, v13, v14, v15, v16, v17, v18, v19, v72⟩ := v
  simp only at h15v HQ
  subst h15v
  obtain ⟨hs1, hd1, q0, q1, q2, q6, q7, q8, q10, q11, q12, q13, q14, q15, q16, q17, q18, q19, q72⟩ := hF
  obtain ⟨u, hu⟩ := frame_ri t' hs1
  simp only at hd1 q0 q1 q2 q6 q7 q8 q10 q11 q12 q13 q14 q15 q16 q17 q18 q19 q72
  subst hu hd1
  have e0 : u 0 = v0 := q0
  have e1 : u 1 = v1 := q1
  have e2 : u 2 = v2 := q2
  have e6 : u 6 = v6 := q6
  have e7 : u 7 = v7 := q7
  have e8 : u 8 = v8 := q8
  have e10 : u 10 = v10 := q10
  have e11 : u 11 = v11 := q11
  have e12 : u 12 = v12 := q12
  have e13 : u 13 = v13 := q13
  have e14 : u 14 = v14 := q14
  have e15 : u 15 = .pointer (some ⟨db, 0, none⟩) := q15
  have e16 : u 16 = v16 := q16
  have e17 : u 17 = v17 := q17
  have e18 : u 18 = v18 := q18
  have e19 : u 19 = v19 := q19
  have e72 : u 72 = v72 := q72
  rw [e0, e1, e2, e6, e7, e8, e10, e11, e12, e13, e14, e15, e16, e17, e18, e19, e72]
  clear q0 e0 q1 e1 q2 e2 q6 e6 q7 e7 q8 e8 q10 e10 q11 e11 q12 e12 q13 e13 q14 e14 q15 e15 q16 e16 q17 e17 q18 e18 q19 e19 q72 e72 hs1
  simp only [Try.f3, Option.getD_some, regOf] at hc
  injection hc with hc
  subst hc
  generalize u 3 = u3
  generalize u 4 = u4
  generalize u 5 = u5
  generalize u 9 = u9
  generalize u 20 = u20
  generalize u 21 = u21
  generalize u 22 = u22
  generalize u 23 = u23
  generalize u 24 = u24
  generalize u 25 = u25
  generalize u 26 = u26
  generalize u 27 = u27
  generalize u 28 = u28
  generalize u 29 = u29
  generalize u 30 = u30
  generalize u 31 = u31
  generalize u 32 = u32
  generalize u 33 = u33
  generalize u 34 = u34
  generalize u 35 = u35
  generalize u 36 = u36
  generalize u 37 = u37
  generalize u 38 = u38
  generalize u 39 = u39
  generalize u 40 = u40
  generalize u 41 = u41
  generalize u 42 = u42
  generalize u 43 = u43
  generalize u 44 = u44
  generalize u 45 = u45
  generalize u 46 = u46
  generalize u 47 = u47
  generalize u 48 = u48
  generalize u 49 = u49
  generalize u 50 = u50
  generalize u 51 = u51
  generalize u 52 = u52
  generalize u 53 = u53
  generalize u 54 = u54
  generalize u 55 = u55
  generalize u 56 = u56
  generalize u 57 = u57
  generalize u 58 = u58
  generalize u 59 = u59
  generalize u 60 = u60
  generalize u 61 = u61
  generalize u 62 = u62
  generalize u 63 = u63
  generalize u 64 = u64
  generalize u 65 = u65
  generalize u 66 = u66
  generalize u 67 = u67
  generalize u 68 = u68
  generalize u 69 = u69
  generalize u 70 = u70
  generalize u 71 = u71
  generalize u 73 = u73
  generalize u 74 = u74
  generalize u 75 = u75
  generalize u 76 = u76
  generalize u 77 = u77
  generalize u 78 = u78
  generalize u 79 = u79
  generalize u 80 = u80
  generalize u 81 = u81
  generalize u 82 = u82
  generalize u 83 = u83
  generalize u 84 = u84
  generalize u 85 = u85
  generalize u 86 = u86
  generalize u 87 = u87
  generalize u 88 = u88
  generalize u 89 = u89
  generalize u 90 = u90
  generalize u 91 = u91
  generalize u 92 = u92
  generalize u 93 = u93
  generalize u 94 = u94
  generalize u 95 = u95
  generalize u 96 = u96
  generalize u 97 = u97
  generalize u 98 = u98
  generalize u 99 = u99
  generalize u 100 = u100
  generalize u 101 = u101
  generalize u 102 = u102
  generalize u 103 = u103
  generalize u 104 = u104
  generalize u 105 = u105
  generalize u 106 = u106
  generalize u 107 = u107
  generalize u 108 = u108
  generalize u 109 = u109
  generalize u 110 = u110
  generalize u 111 = u111
  generalize u 112 = u112
  generalize u 113 = u113
  generalize u 114 = u114
  generalize u 115 = u115
  generalize u 116 = u116
  generalize u 117 = u117
  generalize u 118 = u118
  generalize u 119 = u119
  generalize u 120 = u120
  generalize u 121 = u121
  generalize u 122 = u122
  generalize u 123 = u123
  generalize u 124 = u124
  generalize u 125 = u125
  generalize u 126 = u126
  generalize u 127 = u127
  generalize u 128 = u128
  generalize u 129 = u129
  generalize u 130 = u130
  generalize u 131 = u131
  generalize u 132 = u132
  generalize u 133 = u133
  generalize u 134 = u134
  generalize u 135 = u135
  generalize u 136 = u136
  generalize u 137 = u137
  generalize u 138 = u138
  generalize u 139 = u139
  generalize u 140 = u140
  generalize u 141 = u141
  generalize u 142 = u142
  generalize u 143 = u143
  generalize u 144 = u144
  generalize u 145 = u145
  generalize u 146 = u146
  generalize u 147 = u147
  generalize u 148 = u148
  generalize u 149 = u149
  generalize u 150 = u150
  generalize u 151 = u151
  generalize u 152 = u152
  generalize u 153 = u153
  generalize u 154 = u154
  generalize u 155 = u155
  generalize u 156 = u156
  generalize u 157 = u157
  generalize u 158 = u158
  generalize u 159 = u159
  generalize u 160 = u160
  generalize u 161 = u161
  generalize u 162 = u162
  generalize u 163 = u163
  generalize u 164 = u164
  generalize u 165 = u165
  generalize u 166 = u166
  generalize u 167 = u167
  generalize u 168 = u168
  generalize u 169 = u169
  generalize u 170 = u170
  generalize u 171 = u171
  generalize u 172 = u172
  generalize u 173 = u173
  generalize u 174 = u174
  generalize u 175 = u175
  generalize u 176 = u176
  generalize u 177 = u177
  generalize u 178 = u178
  generalize u 179 = u179
  generalize u 180 = u180
  generalize u 181 = u181
  generalize u 182 = u182
  generalize u 183 = u183
  generalize u 184 = u184
  generalize u 185 = u185
  generalize u 186 = u186
  generalize u 187 = u187
  generalize u 188 = u188
  clear u
  have HE := hide hE
  clear hE
  go_wp2_with (go_at_call 9; refine HE.out.mono ?_; rintro e w1 ⟨rfl, r1⟩; have R1 := hide r1; clear r1)
  exact HQ.out _ _ ⟨rfl, rfl, rfl, rfl, rfl, rfl, rfl, rfl, rfl, rfl, rfl, rfl, rfl, rfl, rfl, rfl, rfl, rfl, rfl⟩ R1.out
set_option maxHeartbeats 8000000 in
set_option maxRecDepth 100000 in
theorem ri_r19 {K : Act → World → Prop} {c : Code} (hc : regOf (Try.f3.body.getD .skip) 19 = some c) (a : Act) {v : Vri} {wq : World} {pk : Int} (hF : Fri a v) (h72v : v.v72 = .int .i64 pk) (hQ : ∀ a', Fri a' v → a'.tmps.getD 77 undef = .bool (pk == 0) → K a' wq) :
    Code.wp Try.prog c (Exit.then K fun _ _ _ => False) a wq := by
  have HQ := hide hQ
  clear hQ
  obtain ⟨t', d'⟩ := a
  obtain ⟨v0, v1, v2, v6, v7, v8, v10, v11, v12, v13, v14, v15, v16, v17, v18, v19, v72⟩ := v
  simp only at h72v HQ
  subst h72v
  obtain ⟨hs1, hd1, q0, q1, q2, q6, q7, q8, q10, q11, q12, q13, q14, q15, q16, q17, q18, q19, q72⟩ := hF
  obtain ⟨u, hu⟩ := frame_ri t' hs1
  simp only at hd1 q0 q1 q2 q6 q7 q8 q10 q11 q12 q13 q14 q15 q16 q17 q18 q19 q72
  subst hu hd1
  have e0 : u 0 = v0 := q0
  have e1 : u 1 = v1 := q1
  have e2 : u 2 = v2 := q2
  have e6 : u 6 = v6 := q6
  have e7 : u 7 = v7 := q7
  have e8 : u 8 = v8 := q8
  have e10 : u 10 = v10 := q10
  have e11 : u 11 = v11 := q11
  have e12 : u 12 = v12 := q12
  have e13 : u 13 = v13 := q13
  have e14 : u 14 = v14 := q14
  have e15 : u 15 = v15 := q15
  have e16 : u 16 = v16 := q16
  have e17 : u 17 = v17 := q17
  have e18 : u 18 = v18 := q18
  have e19 : u 19 = v19 := q19
  have e72 : u 72 = .int .i64 pk := q72
  rw [e0, e1, e2, e6, e7, e8, e10, e11, e12, e13, e14, e15, e16, e17, e18, e19, e72]
  clear q0 e0 q1 e1 q2 e2 q6 e6 q7 e7 q8 e8 q10 e10 q11 e11 q12 e12 q13 e13 q14 e14 q15 e15 q16 e16 q17 e17 q18 e18 q19 e19 q72 e72 hs1
  simp only [Try.f3, Option.getD_some, regOf] at hc
  injection hc with hc
  subst hc
  generalize u 3 = u3
  generalize u 4 = u4
  generalize u 5 = u5
  generalize u 9 = u9
  generalize u 20 = u20
  generalize u 21 = u21
  generalize u 22 = u22
  generalize u 23 = u23
  generalize u 24 = u24
  generalize u 25 = u25
  generalize u 26 = u26
  generalize u 27 = u27
  generalize u 28 = u28
  generalize u 29 = u29
  generalize u 30 = u30
  generalize u 31 = u31
  generalize u 32 = u32
  generalize u 33 = u33
  generalize u 34 = u34
  generalize u 35 = u35
  generalize u 36 = u36
  generalize u 37 = u37
  generalize u 38 = u38
  generalize u 39 = u39
  generalize u 40 = u40
  generalize u 41 = u41
  generalize u 42 = u42
  generalize u 43 = u43
  generalize u 44 = u44
  generalize u 45 = u45
  generalize u 46 = u46
  generalize u 47 = u47
  generalize u 48 = u48
  generalize u 49 = u49
  generalize u 50 = u50
  generalize u 51 = u51
  generalize u 52 = u52
  generalize u 53 = u53
  generalize u 54 = u54
  generalize u 55 = u55
  generalize u 56 = u56
  generalize u 57 = u57
  generalize u 58 = u58
  generalize u 59 = u59
  generalize u 60 = u60
  generalize u 61 = u61
  generalize u 62 = u62
  generalize u 63 = u63
  generalize u 64 = u64
  generalize u 65 = u65
  generalize u 66 = u66
  generalize u 67 = u67
  generalize u 68 = u68
  generalize u 69 = u69
  generalize u 70 = u70
  generalize u 71 = u71
  generalize u 73 = u73
  generalize u 74 = u74
  generalize u 75 = u75
  generalize u 76 = u76
  generalize u 77 = u77
  generalize u 78 = u78
  generalize u 79 = u79
  generalize u 80 = u80
  generalize u 81 = u81
  generalize u 82 = u82
  generalize u 83 = u83
  generalize u 84 = u84
  generalize u 85 = u85
  generalize u 86 = u86
  generalize u 87 = u87
  generalize u 88 = u88
  generalize u 89 = u89
  generalize u 90 = u90
  generalize u 91 = u91
  generalize u 92 = u92
  generalize u 93 = u93
  generalize u 94 = u94
  generalize u 95 = u95
  generalize u 96 = u96
  generalize u 97 = u97
  generalize u 98 = u98
  generalize u 99 = u99
  generalize u 100 = u100
  generalize u 101 = u101
  generalize u 102 = u102
  generalize u 103 = u103
  generalize u 104 = u104
  generalize u 105 = u105
  generalize u 106 = u106
  generalize u 107 = u107
  generalize u 108 = u108
  generalize u 109 = u109
  generalize u 110 = u110
  generalize u 111 = u111
  generalize u 112 = u112
  generalize u 113 = u113
  generalize u 114 = u114
  generalize u 115 = u115
  generalize u 116 = u116
  generalize u 117 = u117
  generalize u 118 = u118
  generalize u 119 = u119
  generalize u 120 = u120
  generalize u 121 = u121
  generalize u 122 = u122
  generalize u 123 = u123
  generalize u 124 = u124
  generalize u 125 = u125
  generalize u 126 = u126
  generalize u 127 = u127
  generalize u 128 = u128
  generalize u 129 = u129
  generalize u 130 = u130
  generalize u 131 = u131
  generalize u 132 = u132
  generalize u 133 = u133
  generalize u 134 = u134
  generalize u 135 = u135
  generalize u 136 = u136
  generalize u 137 = u137
  generalize u 138 = u138
  generalize u 139 = u139
  generalize u 140 = u140
  generalize u 141 = u141
  generalize u 142 = u142
  generalize u 143 = u143
  generalize u 144 = u144
  generalize u 145 = u145
  generalize u 146 = u146
  generalize u 147 = u147
  generalize u 148 = u148
  generalize u 149 = u149
  generalize u 150 = u150
  generalize u 151 = u151
  generalize u 152 = u152
  generalize u 153 = u153
  generalize u 154 = u154
  generalize u 155 = u155
  generalize u 156 = u156
  generalize u 157 = u157
  generalize u 158 = u158
  generalize u 159 = u159
  generalize u 160 = u160
  generalize u 161 = u161
  generalize u 162 = u162
  generalize u 163 = u163
  generalize u 164 = u164
  generalize u 165 = u165
  generalize u 166 = u166
  generalize u 167 = u167
  generalize u 168 = u168
  generalize u 169 = u169
  generalize u 170 = u170
  generalize u 171 = u171
  generalize u 172 = u172
  generalize u 173 = u173
  generalize u 174 = u174
  generalize u 175 = u175
  generalize u 176 = u176
  generalize u 177 = u177
  generalize u 178 = u178
  generalize u 179 = u179
  generalize u 180 = u180
  generalize u 181 = u181
  generalize u 182 = u182
  generalize u 183 = u183
  generalize u 184 = u184
  generalize u 185 = u185
  generalize u 186 = u186
  generalize u 187 = u187
  generalize u 188 = u188
  clear u
  go_wp2
  exact HQ.out _ ⟨rfl, rfl, rfl, rfl, rfl, rfl, rfl, rfl, rfl, rfl, rfl, rfl, rfl, rfl, rfl, rfl, rfl, rfl, rfl⟩ (by first | rfl | (simp; done))
set_option maxHeartbeats 8000000 in
set_option maxRecDepth 100000 in
theorem ri_r22 {K : Act → World → Prop} {c : Code} (hc : regOf (Try.f3.body.getD .skip) 22 = some c) (a : Act) {v : Vri} {wq : World} {pk : Int} (hF : Fri a v) (h72v : v.v72 = .int .i64 pk) (hQ : ∀ a', Fri a' v → a'.tmps.getD 89 undef = .bool (pk == 1) → K a' wq) :
    Code.wp Try.prog c (Exit.then K fun _ _ _ => False) a wq := by
  have HQ := hide hQ
  clear hQ
  obtain ⟨t', d'⟩ := a
  obtain ⟨v0, v1, v2, v6, v7, v8, v10, v11, v12, v13, v14, v15, v16, v17, v18, v19, v72⟩ := v
  simp only at h72v HQ
  subst h72v
  obtain ⟨hs1, hd1, q0, q1, q2, q6, q7, q8, q10, q11, q12, q13, q14, q15, q16, q17, q18, q19, q72⟩ := hF
  obtain ⟨u, hu⟩ := frame_ri t' hs1
  simp only at hd1 q0 q1 q2 q6 q7 q8 q10 q11 q12 q13 q14 q15 q16 q17 q18 q19 q72
  subst hu hd1
  have e0 : u 0 = v0 := q0
  have e1 : u 1 = v1 := q1
  have e2 : u 2 = v2 := q2
  have e6 : u 6 = v6 := q6
  have e7 : u 7 = v7 := q7
  have e8 : u 8 = v8 := q8
  have e10 : u 10 = v10 := q10
  have e11 : u 11 = v11 := q11
  have e12 : u 12 = v12 := q12
  have e13 : u 13 = v13 := q13
  have e14 : u 14 = v14 := q14
  have e15 : u 15 = v15 := q15
  have e16 : u 16 = v16 := q16
  have e17 : u 17 = v17 := q17
  have e18 : u 18 = v18 := q18
  have e19 : u 19 = v19 := q19
  have e72 : u 72 = .int .i64 pk := q72
  rw [e0, e1, e2, e6, e7, e8, e10, e11, e12, e13, e14, e15, e16, e17, e18, e19, e72]
  clear q0 e0 q1 e1 q2 e2 q6 e6 q7 e7 q8 e8 q10 e10 q11 e11 q12 e12 q13 e13 q14 e14 q15 e15 q16 e16 q17 e17 q18 e18 q19 e19 q72 e72 hs1
  simp only [Try.f3, Option.getD_some, regOf] at hc
  injection hc with hc
  subst hc
  generalize u 3 = u3
  generalize u 4 = u4
  generalize u 5 = u5
  generalize u 9 = u9
  generalize u 20 = u20
  generalize u 21 = u21
  generalize u 22 = u22
  generalize u 23 = u23
  generalize u 24 = u24
  generalize u 25 = u25
  generalize u 26 = u26
  generalize u 27 = u27
  generalize u 28 = u28
  generalize u 29 = u29
  generalize u 30 = u30
  generalize u 31 = u31
  generalize u 32 = u32
  generalize u 33 = u33
  generalize u 34 = u34
  generalize u 35 = u35
  generalize u 36 = u36
  generalize u 37 = u37
  generalize u 38 = u38
  generalize u 39 = u39
  generalize u 40 = u40
  generalize u 41 = u41
  generalize u 42 = u42
  generalize u 43 = u43
  generalize u 44 = u44
  generalize u 45 = u45
  generalize u 46 = u46
  generalize u 47 = u47
  generalize u 48 = u48
  generalize u 49 = u49
  generalize u 50 = u50
  generalize u 51 = u51
  generalize u 52 = u52
  generalize u 53 = u53
  generalize u 54 = u54
  generalize u 55 = u55
  generalize u 56 = u56
  generalize u 57 = u57
  generalize u 58 = u58
  generalize u 59 = u59
  generalize u 60 = u60
  generalize u 61 = u61
  generalize u 62 = u62
  generalize u 63 = u63
  generalize u 64 = u64
  generalize u 65 = u65
  generalize u 66 = u66
  generalize u 67 = u67
  generalize u 68 = u68
  generalize u 69 = u69
  generalize u 70 = u70
  generalize u 71 = u71
  generalize u 73 = u73
  generalize u 74 = u74
  generalize u 75 = u75
  generalize u 76 = u76
  generalize u 77 = u77
  generalize u 78 = u78
  generalize u 79 = u79
  generalize u 80 = u80
  generalize u 81 = u81
  generalize u 82 = u82
  generalize u 83 = u83
  generalize u 84 = u84
  generalize u 85 = u85
  generalize u 86 = u86
  generalize u 87 = u87
  generalize u 88 = u88
  generalize u 89 = u89
  generalize u 90 = u90
  generalize u 91 = u91
  generalize u 92 = u92
  generalize u 93 = u93
  generalize u 94 = u94
  generalize u 95 = u95
  generalize u 96 = u96
  generalize u 97 = u97
  generalize u 98 = u98
  generalize u 99 = u99
  generalize u 100 = u100
  generalize u 101 = u101
  generalize u 102 = u102
  generalize u 103 = u103
  generalize u 104 = u104
  generalize u 105 = u105
  generalize u 106 = u106
  generalize u 107 = u107
  generalize u 108 = u108
  generalize u 109 = u109
  generalize u 110 = u110
  generalize u 111 = u111
  generalize u 112 = u112
  generalize u 113 = u113
  generalize u 114 = u114
  generalize u 115 = u115
  generalize u 116 = u116
  generalize u 117 = u117
  generalize u 118 = u118
  generalize u 119 = u119
  generalize u 120 = u120
  generalize u 121 = u121
  generalize u 122 = u122
  generalize u 123 = u123
  generalize u 124 = u124
  generalize u 125 = u125
  generalize u 126 = u126
  generalize u 127 = u127
  generalize u 128 = u128
  generalize u 129 = u129
  generalize u 130 = u130
  generalize u 131 = u131
  generalize u 132 = u132
  generalize u 133 = u133
  generalize u 134 = u134
  generalize u 135 = u135
  generalize u 136 = u136
  generalize u 137 = u137
  generalize u 138 = u138
  generalize u 139 = u139
  generalize u 140 = u140
  generalize u 141 = u141
  generalize u 142 = u142
  generalize u 143 = u143
  generalize u 144 = u144
  generalize u 145 = u145
  generalize u 146 = u146
  generalize u 147 = u147
  generalize u 148 = u148
  generalize u 149 = u149
  generalize u 150 = u150
  generalize u 151 = u151
  generalize u 152 = u152
  generalize u 153 = u153
  generalize u 154 = u154
  generalize u 155 = u155
  generalize u 156 = u156
  generalize u 157 = u157
  generalize u 158 = u158
  generalize u 159 = u159
  generalize u 160 = u160
  generalize u 161 = u161
  generalize u 162 = u162
  generalize u 163 = u163
  generalize u 164 = u164
  generalize u 165 = u165
  generalize u 166 = u166
  generalize u 167 = u167
  generalize u 168 = u168
  generalize u 169 = u169
  generalize u 170 = u170
  generalize u 171 = u171
  generalize u 172 = u172
  generalize u 173 = u173
  generalize u 174 = u174
  generalize u 175 = u175
  generalize u 176 = u176
  generalize u 177 = u177
  generalize u 178 = u178
  generalize u 179 = u179
  generalize u 180 = u180
  generalize u 181 = u181
  generalize u 182 = u182
  generalize u 183 = u183
  generalize u 184 = u184
  generalize u 185 = u185
  generalize u 186 = u186
  generalize u 187 = u187
  generalize u 188 = u188
  clear u
  go_wp2
  exact HQ.out _ ⟨rfl, rfl, rfl, rfl, rfl, rfl, rfl, rfl, rfl, rfl, rfl, rfl, rfl, rfl, rfl, rfl, rfl, rfl, rfl⟩ (by first | rfl | (simp; done))
set_option maxHeartbeats 8000000 in
set_option maxRecDepth 100000 in
theorem ri_r25 {K : Act → World → Prop} {c : Code} (hc : regOf (Try.f3.body.getD .skip) 25 = some c) (a : Act) {v : Vri} {wq : World} {pk : Int} (hF : Fri a v) (h72v : v.v72 = .int .i64 pk) (hQ : ∀ a', Fri a' v → a'.tmps.getD 96 undef = .bool (pk == 2) → K a' wq) :
    Code.wp Try.prog c (Exit.then K fun _ _ _ => False) a wq := by
  have HQ := hide hQ
  clear hQ
  obtain ⟨t', d'⟩ := a
  obtain ⟨v0, v1, v2, v6, v7, v8, v10, v11, v12, v13, v14, v15, v16, v17, v18, v19, v72⟩ := v
  simp only at h72v HQ
  subst h72v
  obtain ⟨hs1, hd1, q0, q1, q2, q6, q7, q8, q10, q11, q12, q13, q14, q15, q16, q17, q18, q19, q72⟩ := hF
  obtain ⟨u, hu⟩ := frame_ri t' hs1
  simp only at hd1 q0 q1 q2 q6 q7 q8 q10 q11 q12 q13 q14 q15 q16 q17 q18 q19 q72
  subst hu hd1
  have e0 : u 0 = v0 := q0
  have e1 : u 1 = v1 := q1
  have e2 : u 2 = v2 := q2
  have e6 : u 6 = v6 := q6
  have e7 : u 7 = v7 := q7
  have e8 : u 8 = v8 := q8
  have e10 : u 10 = v10 := q10
  have e11 : u 11 = v11 := q11
  have e12 : u 12 = v12 := q12
  have e13 : u 13 = v13 := q13
  have e14 : u 14 = v14 := q14
  have e15 : u 15 = v15 := q15
  have e16 : u 16 = v16 := q16
  have e17 : u 17 = v17 := q17
  have e18 : u 18 = v18 := q18
  have e19 : u 19 = v19 := q19
  have e72 : u 72 = .int .i64 pk := q72
  rw [e0, e1, e2, e6, e7, e8, e10, e11, e12, e13, e14, e15, e16, e17, e18, e19, e72]
  clear q0 e0 q1 e1 q2 e2 q6 e6 q7 e7 q8 e8 q10 e10 q11 e11 q12 e12 q13 e13 q14 e14 q15 e15 q16 e16 q17 e17 q18 e18 q19 e19 q72 e72 hs1
  simp only [Try.f3, Option.getD_some, regOf] at hc
  injection hc with hc
  subst hc
  generalize u 3 = u3
  generalize u 4 = u4
  generalize u 5 = u5
  generalize u 9 = u9
  generalize u 20 = u20
  generalize u 21 = u21
  generalize u 22 = u22
  generalize u 23 = u23
  generalize u 24 = u24
  generalize u 25 = u25
  generalize u 26 = u26
  generalize u 27 = u27
  generalize u 28 = u28
  generalize u 29 = u29
  generalize u 30 = u30
  generalize u 31 = u31
  generalize u 32 = u32
  generalize u 33 = u33
  generalize u 34 = u34
  generalize u 35 = u35
  generalize u 36 = u36
  generalize u 37 = u37
  generalize u 38 = u38
  generalize u 39 = u39
  generalize u 40 = u40
  generalize u 41 = u41
  generalize u 42 = u42
  generalize u 43 = u43
  generalize u 44 = u44
  generalize u 45 = u45
  generalize u 46 = u46
  generalize u 47 = u47
  generalize u 48 = u48
  generalize u 49 = u49
  generalize u 50 = u50
  generalize u 51 = u51
  generalize u 52 = u52
  generalize u 53 = u53
  generalize u 54 = u54
  generalize u 55 = u55
  generalize u 56 = u56
  generalize u 57 = u57
  generalize u 58 = u58
  generalize u 59 = u59
  generalize u 60 = u60
  generalize u 61 = u61
  generalize u 62 = u62
  generalize u 63 = u63
  generalize u 64 = u64
  generalize u 65 = u65
  generalize u 66 = u66
  generalize u 67 = u67
  generalize u 68 = u68
  generalize u 69 = u69
  generalize u 70 = u70
  generalize u 71 = u71
  generalize u 73 = u73
  generalize u 74 = u74
  generalize u 75 = u75
  generalize u 76 = u76
  generalize u 77 = u77
  generalize u 78 = u78
  generalize u 79 = u79
  generalize u 80 = u80
  generalize u 81 = u81
  generalize u 82 = u82
  generalize u 83 = u83
  generalize u 84 = u84
  generalize u 85 = u85
  generalize u 86 = u86
  generalize u 87 = u87
  generalize u 88 = u88
  generalize u 89 = u89
  generalize u 90 = u90
  generalize u 91 = u91
  generalize u 92 = u92
  generalize u 93 = u93
  generalize u 94 = u94
  generalize u 95 = u95
  generalize u 96 = u96
  generalize u 97 = u97
  generalize u 98 = u98
  generalize u 99 = u99
  generalize u 100 = u100
  generalize u 101 = u101
  generalize u 102 = u102
  generalize u 103 = u103
  generalize u 104 = u104
  generalize u 105 = u105
  generalize u 106 = u106
  generalize u 107 = u107
  generalize u 108 = u108
  generalize u 109 = u109
  generalize u 110 = u110
  generalize u 111 = u111
  generalize u 112 = u112
  generalize u 113 = u113
  generalize u 114 = u114
  generalize u 115 = u115
  generalize u 116 = u116
  generalize u 117 = u117
  generalize u 118 = u118
  generalize u 119 = u119
  generalize u 120 = u120
  generalize u 121 = u121
  generalize u 122 = u122
  generalize u 123 = u123
  generalize u 124 = u124
  generalize u 125 = u125
  generalize u 126 = u126
  generalize u 127 = u127
  generalize u 128 = u128
  generalize u 129 = u129
  generalize u 130 = u130
  generalize u 131 = u131
  generalize u 132 = u132
  generalize u 133 = u133
  generalize u 134 = u134
  generalize u 135 = u135
  generalize u 136 = u136
  generalize u 137 = u137
  generalize u 138 = u138
  generalize u 139 = u139
  generalize u 140 = u140
  generalize u 141 = u141
  generalize u 142 = u142
  generalize u 143 = u143
  generalize u 144 = u144
  generalize u 145 = u145
  generalize u 146 = u146
  generalize u 147 = u147
  generalize u 148 = u148
  generalize u 149 = u149
  generalize u 150 = u150
  generalize u 151 = u151
  generalize u 152 = u152
  generalize u 153 = u153
  generalize u 154 = u154
  generalize u 155 = u155
  generalize u 156 = u156
  generalize u 157 = u157
  generalize u 158 = u158
  generalize u 159 = u159
  generalize u 160 = u160
  generalize u 161 = u161
  generalize u 162 = u162
  generalize u 163 = u163
  generalize u 164 = u164
  generalize u 165 = u165
  generalize u 166 = u166
  generalize u 167 = u167
  generalize u 168 = u168
  generalize u 169 = u169
  generalize u 170 = u170
  generalize u 171 = u171
  generalize u 172 = u172
  generalize u 173 = u173
  generalize u 174 = u174
  generalize u 175 = u175
  generalize u 176 = u176
  generalize u 177 = u177
  generalize u 178 = u178
  generalize u 179 = u179
  generalize u 180 = u180
  generalize u 181 = u181
  generalize u 182 = u182
  generalize u 183 = u183
  generalize u 184 = u184
  generalize u 185 = u185
  generalize u 186 = u186
  generalize u 187 = u187
  generalize u 188 = u188
  clear u
  go_wp2
  exact HQ.out _ ⟨rfl, rfl, rfl, rfl, rfl, rfl, rfl, rfl, rfl, rfl, rfl, rfl, rfl, rfl, rfl, rfl, rfl, rfl, rfl⟩ (by first | rfl | (simp; done))
set_option maxHeartbeats 8000000 in
set_option maxRecDepth 100000 in
theorem ri_r37 {K : Act → World → Prop} {c : Code} (hc : regOf (Try.f3.body.getD .skip) 37 = some c) (a : Act) {v : Vri} {wq : World} {pk : Int} (hF : Fri a v) (h72v : v.v72 = .int .i64 pk) (hQ : ∀ a', Fri a' v → a'.tmps.getD 144 undef = .bool (pk == 3) → K a' wq) :
    Code.wp Try.prog c (Exit.then K fun _ _ _ => False) a wq := by
  have HQ := hide hQ
  clear hQ
  obtain ⟨t', d'⟩ := a
  obtain ⟨v0, v1, v2, v6, v7, v8, v10, v11, v12, v13, v14, v15, v16, v17, v18, v19, v72⟩ := v
  simp only at h72v HQ
  subst h72v
  obtain ⟨hs1, hd1, q0, q1, q2, q6, q7, q8, q10, q11, q12, q13, q14, q15, q16, q17, q18, q19, q72⟩ := hF
  obtain ⟨u, hu⟩ := frame_ri t' hs1
  simp only at hd1 q0 q1 q2 q6 q7 q8 q10 q11 q12 q13 q14 q15 q16 q17 q18 q19 q72
  subst hu hd1
  have e0 : u 0 = v0 := q0
  have e1 : u 1 = v1 := q1
  have e2 : u 2 = v2 := q2
  have e6 : u 6 = v6 := q6
  have e7 : u 7 = v7 := q7
  have e8 : u 8 = v8 := q8
  have e10 : u 10 = v10 := q10
  have e11 : u 11 = v11 := q11
  have e12 : u 12 = v12 := q12
  have e13 : u 13 = v13 := q13
  have e14 : u 14 = v14 := q14
  have e15 : u 15 = v15 := q15
  have e16 : u 16 = v16 := q16
  have e17 : u 17 = v17 := q17
  have e18 : u 18 = v18 := q18
  have e19 : u 19 = v19 := q19
  have e72 : u 72 = .int .i64 pk := q72
  rw [e0, e1, e2, e6, e7, e8, e10, e11, e12, e13, e14, e15, e16, e17, e18, e19, e72]
  clear q0 e0 q1 e1 q2 e2 q6 e6 q7 e7 q8 e8 q10 e10 q11 e11 q12 e12 q13 e13 q14 e14 q15 e15 q16 e16 q17 e17 q18 e18 q19 e19 q72 e72 hs1
  simp only [Try.f3, Option.getD_some, regOf] at hc
  injection hc with hc
  subst hc
  generalize u 3 = u3
  generalize u 4 = u4
  generalize u 5 = u5
  generalize u 9 = u9
  generalize u 20 = u20
  generalize u 21 = u21
  generalize u 22 = u22
  generalize u 23 = u23
  generalize u 24 = u24
  generalize u 25 = u25
  generalize u 26 = u26
  generalize u 27 = u27
  generalize u 28 = u28
  generalize u 29 = u29
  generalize u 30 = u30
  generalize u 31 = u31
  generalize u 32 = u32
  generalize u 33 = u33
  generalize u 34 = u34
  generalize u 35 = u35
  generalize u 36 = u36
  generalize u 37 = u37
  generalize u 38 = u38
  generalize u 39 = u39
  generalize u 40 = u40
  generalize u 41 = u41
  generalize u 42 = u42
  generalize u 43 = u43
  generalize u 44 = u44
  generalize u 45 = u45
  generalize u 46 = u46
  generalize u 47 = u47
  generalize u 48 = u48
  generalize u 49 = u49
  generalize u 50 = u50
  generalize u 51 = u51
  generalize u 52 = u52
  generalize u 53 = u53
  generalize u 54 = u54
  generalize u 55 = u55
  generalize u 56 = u56
  generalize u 57 = u57
  generalize u 58 = u58
  generalize u 59 = u59
  generalize u 60 = u60
  generalize u 61 = u61
  generalize u 62 = u62
  generalize u 63 = u63
  generalize u 64 = u64
  generalize u 65 = u65
  generalize u 66 = u66
  generalize u 67 = u67
  generalize u 68 = u68
  generalize u 69 = u69
  generalize u 70 = u70
  generalize u 71 = u71
  generalize u 73 = u73
  generalize u 74 = u74
  generalize u 75 = u75
  generalize u 76 = u76
  generalize u 77 = u77
  generalize u 78 = u78
  generalize u 79 = u79
  generalize u 80 = u80
  generalize u 81 = u81
  generalize u 82 = u82
  generalize u 83 = u83
  generalize u 84 = u84
  generalize u 85 = u85
  generalize u 86 = u86
  generalize u 87 = u87
  generalize u 88 = u88
  generalize u 89 = u89
  generalize u 90 = u90
  generalize u 91 = u91
  generalize u 92 = u92
  generalize u 93 = u93
  generalize u 94 = u94
  generalize u 95 = u95
  generalize u 96 = u96
  generalize u 97 = u97
  generalize u 98 = u98
  generalize u 99 = u99
  generalize u 100 = u100
  generalize u 101 = u101
  generalize u 102 = u102
  generalize u 103 = u103
  generalize u 104 = u104
  generalize u 105 = u105
  generalize u 106 = u106
  generalize u 107 = u107
  generalize u 108 = u108
  generalize u 109 = u109
  generalize u 110 = u110
  generalize u 111 = u111
  generalize u 112 = u112
  generalize u 113 = u113
  generalize u 114 = u114
  generalize u 115 = u115
  generalize u 116 = u116
  generalize u 117 = u117
  generalize u 118 = u118
  generalize u 119 = u119
  generalize u 120 = u120
  generalize u 121 = u121
  generalize u 122 = u122
  generalize u 123 = u123
  generalize u 124 = u124
  generalize u 125 = u125
  generalize u 126 = u126
  generalize u 127 = u127
  generalize u 128 = u128
  generalize u 129 = u129
  generalize u 130 = u130
  generalize u 131 = u131
  generalize u 132 = u132
  generalize u 133 = u133
  generalize u 134 = u134
  generalize u 135 = u135
  generalize u 136 = u136
  generalize u 137 = u137
  generalize u 138 = u138
  generalize u 139 = u139
  generalize u 140 = u140
  generalize u 141 = u141
  generalize u 142 = u142
  generalize u 143 = u143
  generalize u 144 = u144
  generalize u 145 = u145
  generalize u 146 = u146
  generalize u 147 = u147
  generalize u 148 = u148
  generalize u 149 = u149
  generalize u 150 = u150
  generalize u 151 = u151
  generalize u 152 = u152
  generalize u 153 = u153
  generalize u 154 = u154
  generalize u 155 = u155
  generalize u 156 = u156
  generalize u 157 = u157
  generalize u 158 = u158
  generalize u 159 = u159
  generalize u 160 = u160
  generalize u 161 = u161
  generalize u 162 = u162
  generalize u 163 = u163
  generalize u 164 = u164
  generalize u 165 = u165
  generalize u 166 = u166
  generalize u 167 = u167
  generalize u 168 = u168
  generalize u 169 = u169
  generalize u 170 = u170
  generalize u 171 = u171
  generalize u 172 = u172
  generalize u 173 = u173
  generalize u 174 = u174
  generalize u 175 = u175
  generalize u 176 = u176
  generalize u 177 = u177
  generalize u 178 = u178
  generalize u 179 = u179
  generalize u 180 = u180
  generalize u 181 = u181
  generalize u 182 = u182
  generalize u 183 = u183
  generalize u 184 = u184
  generalize u 185 = u185
  generalize u 186 = u186
  generalize u 187 = u187
  generalize u 188 = u188
  clear u
  go_wp2
  exact HQ.out _ ⟨rfl, rfl, rfl, rfl, rfl, rfl, rfl, rfl, rfl, rfl, rfl, rfl, rfl, rfl, rfl, rfl, rfl, rfl, rfl⟩ (by first | rfl | (simp; done))
set_option maxHeartbeats 8000000 in
set_option maxRecDepth 100000 in
theorem ri_r39 {K : Act → World → Prop} {c : Code} (hc : regOf (Try.f3.body.getD .skip) 39 = some c) (a : Act) {v : Vri} {wq : World} {pk : Int} (hF : Fri a v) (h72v : v.v72 = .int .i64 pk) (hQ : ∀ a', Fri a' v → a'.tmps.getD 153 undef = .bool (pk == 4) → K a' wq) :
    Code.wp Try.prog c (Exit.then K fun _ _ _ => False) a wq := by
  have HQ := hide hQ
  clear hQ
  obtain ⟨t', d'⟩ := a
  obtain ⟨v0, v1, v2, v6, v7, v8, v10, v11, v12, v13, v14, v15, v16, v17, v18, v19, v72⟩ := v
  simp only at h72v HQ
  subst h72v
  obtain ⟨hs1, hd1, q0, q1, q2, q6, q7, q8, q10, q11, q12, q13, q14, q15, q16, q17, q18, q19, q72⟩ := hF
  obtain ⟨u, hu⟩ := frame_ri t' hs1
  simp only at hd1 q0 q1 q2 q6 q7 q8 q10 q11 q12 q13 q14 q15 q16 q17 q18 q19 q72
  subst hu hd1
  have e0 : u 0 = v0 := q0
  have e1 : u 1 = v1 := q1
  have e2 : u 2 = v2 := q2
  have e6 : u 6 = v6 := q6
  have e7 : u 7 = v7 := q7
  have e8 : u 8 = v8 := q8
  have e10 : u 10 = v10 := q10
  have e11 : u 11 = v11 := q11
  have e12 : u 12 = v12 := q12
  have e13 : u 13 = v13 := q13
  have e14 : u 14 = v14 := q14
  have e15 : u 15 = v15 := q15
  have e16 : u 16 = v16 := q16
  have e17 : u 17 = v17 := q17
  have e18 : u 18 = v18 := q18
  have e19 : u 19 = v19 := q19
  have e72 : u 72 = .int .i64 pk := q72
  rw [e0, e1, e2, e6, e7, e8, e10, e11, e12, e13, e14, e15, e16, e17, e18, e19, e72]
  clear q0 e0 q1 e1 q2 e2 q6 e6 q7 e7 q8 e8 q10 e10 q11 e11 q12 e12 q13 e13 q14 e14 q15 e15 q16 e16 q17 e17 q18 e18 q19 e19 q72 e72 hs1
  simp only [Try.f3, Option.getD_some, regOf] at hc
  injection hc with hc
  subst hc
  generalize u 3 = u3
  generalize u 4 = u4
  generalize u 5 = u5
  generalize u 9 = u9
  generalize u 20 = u20
  generalize u 21 = u21
  generalize u 22 = u22
  generalize u 23 = u23
  generalize u 24 = u24
  generalize u 25 = u25
  generalize u 26 = u26
  generalize u 27 = u27
  generalize u 28 = u28
  generalize u 29 = u29
  generalize u 30 = u30
  generalize u 31 = u31
  generalize u 32 = u32
  generalize u 33 = u33
  generalize u 34 = u34
  generalize u 35 = u35
  generalize u 36 = u36
  generalize u 37 = u37
  generalize u 38 = u38
  generalize u 39 = u39
  generalize u 40 = u40
  generalize u 41 = u41
  generalize u 42 = u42
  generalize u 43 = u43
  generalize u 44 = u44
  generalize u 45 = u45
  generalize u 46 = u46
  generalize u 47 = u47
  generalize u 48 = u48
  generalize u 49 = u49
  generalize u 50 = u50
  generalize u 51 = u51
  generalize u 52 = u52
  generalize u 53 = u53
  generalize u 54 = u54
  generalize u 55 = u55
  generalize u 56 = u56
  generalize u 57 = u57
  generalize u 58 = u58
  generalize u 59 = u59
  generalize u 60 = u60
  generalize u 61 = u61
  generalize u 62 = u62
  generalize u 63 = u63
  generalize u 64 = u64
  generalize u 65 = u65
  generalize u 66 = u66
  generalize u 67 = u67
  generalize u 68 = u68
  generalize u 69 = u69
  generalize u 70 = u70
  generalize u 71 = u71
  generalize u 73 = u73
  generalize u 74 = u74
  generalize u 75 = u75
  generalize u 76 = u76
  generalize u 77 = u77
  generalize u 78 = u78
  generalize u 79 = u79
  generalize u 80 = u80
  generalize u 81 = u81
  generalize u 82 = u82
  generalize u 83 = u83
  generalize u 84 = u84
  generalize u 85 = u85
  generalize u 86 = u86
  generalize u 87 = u87
  generalize u 88 = u88
  generalize u 89 = u89
  generalize u 90 = u90
  generalize u 91 = u91
  generalize u 92 = u92
  generalize u 93 = u93
  generalize u 94 = u94
  generalize u 95 = u95
  generalize u 96 = u96
  generalize u 97 = u97
  generalize u 98 = u98
  generalize u 99 = u99
  generalize u 100 = u100
  generalize u 101 = u101
  generalize u 102 = u102
  generalize u 103 = u103
  generalize u 104 = u104
  generalize u 105 = u105
  generalize u 106 = u106
  generalize u 107 = u107
  generalize u 108 = u108
  generalize u 109 = u109
  generalize u 110 = u110
  generalize u 111 = u111
  generalize u 112 = u112
  generalize u 113 = u113
  generalize u 114 = u114
  generalize u 115 = u115
  generalize u 116 = u116
  generalize u 117 = u117
  generalize u 118 = u118
  generalize u 119 = u119
  generalize u 120 = u120
  generalize u 121 = u121
  generalize u 122 = u122
  generalize u 123 = u123
  generalize u 124 = u124
  generalize u 125 = u125
  generalize u 126 = u126
  generalize u 127 = u127
  generalize u 128 = u128
  generalize u 129 = u129
  generalize u 130 = u130
  generalize u 131 = u131
  generalize u 132 = u132
  generalize u 133 = u133
  generalize u 134 = u134
  generalize u 135 = u135
  generalize u 136 = u136
  generalize u 137 = u137
  generalize u 138 = u138
  generalize u 139 = u139
  generalize u 140 = u140
  generalize u 141 = u141
  generalize u 142 = u142
  generalize u 143 = u143
  generalize u 144 = u144
  generalize u 145 = u145
  generalize u 146 = u146
  generalize u 147 = u147
  generalize u 148 = u148
  generalize u 149 = u149
  generalize u 150 = u150
  generalize u 151 = u151
  generalize u 152 = u152
  generalize u 153 = u153
  generalize u 154 = u154
  generalize u 155 = u155
  generalize u 156 = u156
  generalize u 157 = u157
  generalize u 158 = u158
  generalize u 159 = u159
  generalize u 160 = u160
  generalize u 161 = u161
  generalize u 162 = u162
  generalize u 163 = u163
  generalize u 164 = u164
  generalize u 165 = u165
  generalize u 166 = u166
  generalize u 167 = u167
  generalize u 168 = u168
  generalize u 169 = u169
  generalize u 170 = u170
  generalize u 171 = u171
  generalize u 172 = u172
  generalize u 173 = u173
  generalize u 174 = u174
  generalize u 175 = u175
  generalize u 176 = u176
  generalize u 177 = u177
  generalize u 178 = u178
  generalize u 179 = u179
  generalize u 180 = u180
  generalize u 181 = u181
  generalize u 182 = u182
  generalize u 183 = u183
  generalize u 184 = u184
  generalize u 185 = u185
  generalize u 186 = u186
  generalize u 187 = u187
  generalize u 188 = u188
  clear u
  go_wp2
  exact HQ.out _ ⟨rfl, rfl, rfl, rfl, rfl, rfl, rfl, rfl, rfl, rfl, rfl, rfl, rfl, rfl, rfl, rfl, rfl, rfl, rfl⟩ (by first | rfl | (simp; done))
set_option maxHeartbeats 8000000 in
set_option maxRecDepth 100000 in
theorem ri_r44 {K : Act → World → Prop} {c : Code} (hc : regOf (Try.f3.body.getD .skip) 44 = some c) (a : Act) {v : Vri} {wq : World} {pk : Int} (hF : Fri a v) (h72v : v.v72 = .int .i64 pk) (hQ : ∀ a', Fri a' v → a'.tmps.getD 168 undef = .bool (pk == 5) → K a' wq) :
    Code.wp Try.prog c (Exit.then K fun _ _ _ => False) a wq := by
  have HQ := hide hQ
  clear hQ
  obtain ⟨t', d'⟩ := a
  obtain ⟨v0, v1, v2, v6, v7, v8, v10, v11, v12, v13, v14, v15, v16, v17, v18, v19, v72⟩ := v
  simp only at h72v HQ
  subst h72v
  obtain ⟨hs1, hd1, q0, q1, q2, q6, q7, q8, q10, q11, q12, q13, q14, q15, q16, q17, q18, q19, q72⟩ := hF
  obtain ⟨u, hu⟩ := frame_ri t' hs1
  simp only at hd1 q0 q1 q2 q6 q7 q8 q10 q11 q12 q13 q14 q15 q16 q17 q18 q19 q72
  subst hu hd1
  have e0 : u 0 = v0 := q0
  have e1 : u 1 = v1 := q1
  have e2 : u 2 = v2 := q2
  have e6 : u 6 = v6 := q6
  have e7 : u 7 = v7 := q7
  have e8 : u 8 = v8 := q8
  have e10 : u 10 = v10 := q10
  have e11 : u 11 = v11 := q11
  have e12 : u 12 = v12 := q12
  have e13 : u 13 = v13 := q13
  have e14 : u 14 = v14 := q14
  have e15 : u 15 = v15 := q15
  have e16 : u 16 = v16 := q16
  have e17 : u 17 = v17 := q17
  have e18 : u 18 = v18 := q18
  have e19 : u 19 = v19 := q19
  have e72 : u 72 = .int .i64 pk := q72
  rw [e0, e1, e2, e6, e7, e8, e10, e11, e12, e13, e14, e15, e16, e17, e18, e19, e72]
  clear q0 e0 q1 e1 q2 e2 q6 e6 q7 e7 q8 e8 q10 e10 q11 e11 q12 e12 q13 e13 q14 e14 q15 e15 q16 e16 q17 e17 q18 e18 q19 e19 q72 e72 hs1
  simp only [Try.f3, Option.getD_some, regOf] at hc
  injection hc with hc
  subst hc
  generalize u 3 = u3
  generalize u 4 = u4
  generalize u 5 = u5
  generalize u 9 = u9
  generalize u 20 = u20
  generalize u 21 = u21
  generalize u 22 = u22
  generalize u 23 = u23
  generalize u 24 = u24
  generalize u 25 = u25
  generalize u 26 = u26
  generalize u 27 = u27
  generalize u 28 = u28
  generalize u 29 = u29
  generalize u 30 = u30
  generalize u 31 = u31
  generalize u 32 = u32
  generalize u 33 = u33
  generalize u 34 = u34
  generalize u 35 = u35
  generalize u 36 = u36
  generalize u 37 = u37
  generalize u 38 = u38
  generalize u 39 = u39
  generalize u 40 = u40
  generalize u 41 = u41
  generalize u 42 = u42
  generalize u 43 = u43
  generalize u 44 = u44
  generalize u 45 = u45
  generalize u 46 = u46
  generalize u 47 = u47
  generalize u 48 = u48
  generalize u 49 = u49
  generalize u 50 = u50
  generalize u 51 = u51
  generalize u 52 = u52
  generalize u 53 = u53
  generalize u 54 = u54
  generalize u 55 = u55
  generalize u 56 = u56
  generalize u 57 = u57
  generalize u 58 = u58
  generalize u 59 = u59
  generalize u 60 = u60
  generalize u 61 = u61
  generalize u 62 = u62
  generalize u 63 = u63
  generalize u 64 = u64
  generalize u 65 = u65
  generalize u 66 = u66
  generalize u 67 = u67
  generalize u 68 = u68
  generalize u 69 = u69
  generalize u 70 = u70
  generalize u 71 = u71
  generalize u 73 = u73
  generalize u 74 = u74
  generalize u 75 = u75
  generalize u 76 = u76
  generalize u 77 = u77
  generalize u 78 = u78
  generalize u 79 = u79
  generalize u 80 = u80
  generalize u 81 = u81
  generalize u 82 = u82
  generalize u 83 = u83
  generalize u 84 = u84
  generalize u 85 = u85
  generalize u 86 = u86
  generalize u 87 = u87
  generalize u 88 = u88
  generalize u 89 = u89
  generalize u 90 = u90
  generalize u 91 = u91
  generalize u 92 = u92
  generalize u 93 = u93
  generalize u 94 = u94
  generalize u 95 = u95
  generalize u 96 = u96
  generalize u 97 = u97
  generalize u 98 = u98
  generalize u 99 = u99
  generalize u 100 = u100
  generalize u 101 = u101
  generalize u 102 = u102
  generalize u 103 = u103
  generalize u 104 = u104
  generalize u 105 = u105
  generalize u 106 = u106
  generalize u 107 = u107
  generalize u 108 = u108
  generalize u 109 = u109
  generalize u 110 = u110
  generalize u 111 = u111
  generalize u 112 = u112
  generalize u 113 = u113
  generalize u 114 = u114
  generalize u 115 = u115
  generalize u 116 = u116
  generalize u 117 = u117
  generalize u 118 = u118
  generalize u 119 = u119
  generalize u 120 = u120
  generalize u 121 = u121
  generalize u 122 = u122
  generalize u 123 = u123
  generalize u 124 = u124
  generalize u 125 = u125
  generalize u 126 = u126
  generalize u 127 = u127
  generalize u 128 = u128
  generalize u 129 = u129
  generalize u 130 = u130
  generalize u 131 = u131
  generalize u 132 = u132
  generalize u 133 = u133
  generalize u 134 = u134
  generalize u 135 = u135
  generalize u 136 = u136
  generalize u 137 = u137
  generalize u 138 = u138
  generalize u 139 = u139
  generalize u 140 = u140
  generalize u 141 = u141
  generalize u 142 = u142
  generalize u 143 = u143
  generalize u 144 = u144
  generalize u 145 = u145
  generalize u 146 = u146
  generalize u 147 = u147
  generalize u 148 = u148
  generalize u 149 = u149
  generalize u 150 = u150
  generalize u 151 = u151
  generalize u 152 = u152
  generalize u 153 = u153
  generalize u 154 = u154
  generalize u 155 = u155
  generalize u 156 = u156
  generalize u 157 = u157
  generalize u 158 = u158
  generalize u 159 = u159
  generalize u 160 = u160
  generalize u 161 = u161
  generalize u 162 = u162
  generalize u 163 = u163
  generalize u 164 = u164
  generalize u 165 = u165
  generalize u 166 = u166
  generalize u 167 = u167
  generalize u 168 = u168
  generalize u 169 = u169
  generalize u 170 = u170
  generalize u 171 = u171
  generalize u 172 = u172
  generalize u 173 = u173
  generalize u 174 = u174
  generalize u 175 = u175
  generalize u 176 = u176
  generalize u 177 = u177
  generalize u 178 = u178
  generalize u 179 = u179
  generalize u 180 = u180
  generalize u 181 = u181
  generalize u 182 = u182
  generalize u 183 = u183
  generalize u 184 = u184
  generalize u 185 = u185
  generalize u 186 = u186
  generalize u 187 = u187
  generalize u 188 = u188
  clear u
  go_wp2
  exact HQ.out _ ⟨rfl, rfl, rfl, rfl, rfl, rfl, rfl, rfl, rfl, rfl, rfl, rfl, rfl, rfl, rfl, rfl, rfl, rfl, rfl⟩ (by first | rfl | (simp; done))
set_option maxHeartbeats 8000000 in
set_option maxRecDepth 100000 in
theorem ri_r23 {K : Act → World → Prop} {c : Code} (hc : regOf (Try.f3.body.getD .skip) 23 = some c) (a : Act) {v : Vri} {wq : World} {sb : Nat} {xn xt yn yt : ByteArray} {xc xx yc yx : Int}  (hF : Fri a v) (h11v : v.v11 = .pointer (some ⟨sb, 0, none⟩)) (hS : wq.heap[sb]? = some (.cells #[.string xn, .string xt, .int .i64 xc, .int .i64 xx] 33 (0, 0))) (hE : Calls Try.prog 13 #[.agg #[.string xn, .string xt, .int .i64 xc, .int .i64 xx]] wq fun e w' => e = .returned (.agg #[.string yn, .string yt, .int .i64 yc, .int .i64 yx]) ∧ Below wq.heap.size wq w')
    (hQ : ∀ a' w1, Fri a' v → Below wq.heap.size wq w1 → K a' (set4 w1 sb (.string yn) (.string yt) (.int .i64 yc) (.int .i64 yx))) :
    Code.wp Try.prog c (Exit.then K fun _ _ _ => False) a wq := by
  have HQ := hide hQ
  clear hQ
  obtain ⟨t', d'⟩ := a
  obtain ⟨v0, v1, v2, v6, v7, v8, v10, v11, v12, v13, v14, v15, v16, v17, v18, v19, v72⟩ := v
  simp only at h11v HQ
  subst h11v
  obtain ⟨hs1, hd1, q0, q1, q2, q6, q7, q8, q10, q11, q12, q13, q14, q15, q16, q17, q18, q19, q72⟩ := hF
  obtain ⟨u, hu⟩ := frame_ri t' hs1
  simp only at hd1 q0 q1 q2 q6 q7 q8 q10 q11 q12 q13 q14 q15 q16 q17 q18 q19 q72
  subst hu hd1
  have e0 : u 0 = v0 := q0
  have e1 : u 1 = v1 := q1
  have e2 : u 2 = v2 := q2
  have e6 : u 6 = v6 := q6
  have e7 : u 7 = v7 := q7
  have e8 : u 8 = v8 := q8
  have e10 : u 10 = v10 := q10
  have e11 : u 11 = .pointer (some ⟨sb, 0, none⟩) := q11
  have e12 : u 12 = v12 := q12
  have e13 : u 13 = v13 := q13
  have e14 : u 14 = v14 := q14
  have e15 : u 15 = v15 := q15
  have e16 : u 16 = v16 := q16
  have e17 : u 17 = v17 := q17
  have e18 : u 18 = v18 := q18
  have e19 : u 19 = v19 := q19
  have e72 : u 72 = v72 := q72
  rw [e0, e1, e2, e6, e7, e8, e10, e11, e12, e13, e14, e15, e16, e17, e18, e19, e72]
  clear q0 e0 q1 e1 q2 e2 q6 e6 q7 e7 q8 e8 q10 e10 q11 e11 q12 e12 q13 e13 q14 e14 q15 e15 q16 e16 q17 e17 q18 e18 q19 e19 q72 e72 hs1
  simp only [Try.f3, Option.getD_some, regOf] at hc
  injection hc with hc
  subst hc
  generalize u 3 = u3
  generalize u 4 = u4
  generalize u 5 = u5
  generalize u 9 = u9
  generalize u 20 = u20
  generalize u 21 = u21
  generalize u 22 = u22
  generalize u 23 = u23
  generalize u 24 = u24
  generalize u 25 = u25
  generalize u 26 = u26
  generalize u 27 = u27
  generalize u 28 = u28
  generalize u 29 = u29
  generalize u 30 = u30
  generalize u 31 = u31
  generalize u 32 = u32
  generalize u 33 = u33
  generalize u 34 = u34
  generalize u 35 = u35
  generalize u 36 = u36
  generalize u 37 = u37
  generalize u 38 = u38
  generalize u 39 = u39
  generalize u 40 = u40
  generalize u 41 = u41
  generalize u 42 = u42
  generalize u 43 = u43
  generalize u 44 = u44
  generalize u 45 = u45
  generalize u 46 = u46
  generalize u 47 = u47
  generalize u 48 = u48
  generalize u 49 = u49
  generalize u 50 = u50
  generalize u 51 = u51
  generalize u 52 = u52
  generalize u 53 = u53
  generalize u 54 = u54
  generalize u 55 = u55
  generalize u 56 = u56
  generalize u 57 = u57
  generalize u 58 = u58
  generalize u 59 = u59
  generalize u 60 = u60
  generalize u 61 = u61
  generalize u 62 = u62
  generalize u 63 = u63
  generalize u 64 = u64
  generalize u 65 = u65
  generalize u 66 = u66
  generalize u 67 = u67
  generalize u 68 = u68
  generalize u 69 = u69
  generalize u 70 = u70
  generalize u 71 = u71
  generalize u 73 = u73
  generalize u 74 = u74
  generalize u 75 = u75
  generalize u 76 = u76
  generalize u 77 = u77
  generalize u 78 = u78
  generalize u 79 = u79
  generalize u 80 = u80
  generalize u 81 = u81
  generalize u 82 = u82
  generalize u 83 = u83
  generalize u 84 = u84
  generalize u 85 = u85
  generalize u 86 = u86
  generalize u 87 = u87
  generalize u 88 = u88
  generalize u 89 = u89
  generalize u 90 = u90
  generalize u 91 = u91
  generalize u 92 = u92
  generalize u 93 = u93
  generalize u 94 = u94
  generalize u 95 = u95
  generalize u 96 = u96
  generalize u 97 = u97
  generalize u 98 = u98
  generalize u 99 = u99
  generalize u 100 = u100
  generalize u 101 = u101
  generalize u 102 = u102
  generalize u 103 = u103
  generalize u 104 = u104
  generalize u 105 = u105
  generalize u 106 = u106
  generalize u 107 = u107
  generalize u 108 = u108
  generalize u 109 = u109
  generalize u 110 = u110
  generalize u 111 = u111
  generalize u 112 = u112
  generalize u 113 = u113
  generalize u 114 = u114
  generalize u 115 = u115
  generalize u 116 = u116
  generalize u 117 = u117
  generalize u 118 = u118
  generalize u 119 = u119
  generalize u 120 = u120
  generalize u 121 = u121
  generalize u 122 = u122
  generalize u 123 = u123
  generalize u 124 = u124
  generalize u 125 = u125
  generalize u 126 = u126
  generalize u 127 = u127
  generalize u 128 = u128
  generalize u 129 = u129
  generalize u 130 = u130
  generalize u 131 = u131
  generalize u 132 = u132
  generalize u 133 = u133
  generalize u 134 = u134
  generalize u 135 = u135
  generalize u 136 = u136
  generalize u 137 = u137
  generalize u 138 = u138
  generalize u 139 = u139
  generalize u 140 = u140
  generalize u 141 = u141
  generalize u 142 = u142
  generalize u 143 = u143
  generalize u 144 = u144
  generalize u 145 = u145
  generalize u 146 = u146
  generalize u 147 = u147
  generalize u 148 = u148
  generalize u 149 = u149
  generalize u 150 = u150
  generalize u 151 = u151
  generalize u 152 = u152
  generalize u 153 = u153
  generalize u 154 = u154
  generalize u 155 = u155
  generalize u 156 = u156
  generalize u 157 = u157
  generalize u 158 = u158
  generalize u 159 = u159
  generalize u 160 = u160
  generalize u 161 = u161
  generalize u 162 = u162
  generalize u 163 = u163
  generalize u 164 = u164
  generalize u 165 = u165
  generalize u 166 = u166
  generalize u 167 = u167
  generalize u 168 = u168
  generalize u 169 = u169
  generalize u 170 = u170
  generalize u 171 = u171
  generalize u 172 = u172
  generalize u 173 = u173
  generalize u 174 = u174
  generalize u 175 = u175
  generalize u 176 = u176
  generalize u 177 = u177
  generalize u 178 = u178
  generalize u 179 = u179
  generalize u 180 = u180
  generalize u 181 = u181
  generalize u 182 = u182
  generalize u 183 = u183
  generalize u 184 = u184
  generalize u 185 = u185
  generalize u 186 = u186
  generalize u 187 = u187
  generalize u 188 = u188
  clear u
  have HE := hide hE
  have HS := hide hS
  obtain ⟨⟨c0, c1, c2, c3⟩, _⟩ := box4 hS
  unfold set4 at HQ
  clear hE hS
  go_wp2_with (go_at_call 13; refine HE.out.mono ?_; rintro e w1 ⟨rfl, b1⟩; have hR2 := Below.at b1 HS.out; obtain ⟨⟨d0, d1, d2, d3⟩, f0, f1, f2, f3⟩ := box4 hR2; have B1 := hide b1; clear b1 hR2 c0 c1 c2 c3)
  exact HQ.out _ _ ⟨rfl, rfl, rfl, rfl, rfl, rfl, rfl, rfl, rfl, rfl, rfl, rfl, rfl, rfl, rfl, rfl, rfl, rfl, rfl⟩ B1.out
set_option maxHeartbeats 8000000 in
set_option maxRecDepth 100000 in
theorem ri_r24 {K : Act → World → Prop} {c : Code} (hc : regOf (Try.f3.body.getD .skip) 24 = some c) (a : Act) {v : Vri} {wq : World} {sb : Nat} {xn xt : ByteArray} {xx y : Int} (hF : Fri a v) (h11v : v.v11 = .pointer (some ⟨sb, 0, none⟩)) (hS : wq.heap[sb]? = some (.cells #[.string xn, .string xt, .int .i64 (y + 1), .int .i64 xx] 33 (0, 0))) (q0 : -1 ≤ y) (q1 : y ≤ 1000000)
    (hQ : ∀ a', Fri a' { v with v13 := .int .i64 y } → K a' wq) :
    Code.wp Try.prog c (Exit.then K fun _ _ _ => False) a wq := by
  have HQ := hide hQ
  clear hQ
  obtain ⟨t', d'⟩ := a
  obtain ⟨v0, v1, v2, v6, v7, v8, v10, v11, v12, v13, v14, v15, v16, v17, v18, v19, v72⟩ := v
  simp only at h11v HQ
  subst h11v
  obtain ⟨hs1, hd1, q0, q1, q2, q6, q7, q8, q10, q11, q12, q13, q14, q15, q16, q17, q18, q19, q72⟩ := hF
  obtain ⟨u, hu⟩ := frame_ri t' hs1
  simp only at hd1 q0 q1 q2 q6 q7 q8 q10 q11 q12 q13 q14 q15 q16 q17 q18 q19 q72
  subst hu hd1
  have e0 : u 0 = v0 := q0
  have e1 : u 1 = v1 := q1
  have e2 : u 2 = v2 := q2
  have e6 : u 6 = v6 := q6
  have e7 : u 7 = v7 := q7
  have e8 : u 8 = v8 := q8
  have e10 : u 10 = v10 := q10
  have e11 : u 11 = .pointer (some ⟨sb, 0, none⟩) := q11
  have e12 : u 12 = v12 := q12
  have e13 : u 13 = v13 := q13
  have e14 : u 14 = v14 := q14
  have e15 : u 15 = v15 := q15
  have e16 : u 16 = v16 := q16
  have e17 : u 17 = v17 := q17
  have e18 : u 18 = v18 := q18
  have e19 : u 19 = v19 := q19
  have e72 : u 72 = v72 := q72
  rw [e0, e1, e2, e6, e7, e8, e10, e11, e12, e13, e14, e15, e16, e17, e18, e19, e72]
  clear q0 e0 q1 e1 q2 e2 q6 e6 q7 e7 q8 e8 q10 e10 q11 e11 q12 e12 q13 e13 q14 e14 q15 e15 q16 e16 q17 e17 q18 e18 q19 e19 q72 e72 hs1
  simp only [Try.f3, Option.getD_some, regOf] at hc
  injection hc with hc
  subst hc
  generalize u 3 = u3
  generalize u 4 = u4
  generalize u 5 = u5
  generalize u 9 = u9
  generalize u 20 = u20
  generalize u 21 = u21
  generalize u 22 = u22
  generalize u 23 = u23
  generalize u 24 = u24
  generalize u 25 = u25
  generalize u 26 = u26
  generalize u 27 = u27
  generalize u 28 = u28
  generalize u 29 = u29
  generalize u 30 = u30
  generalize u 31 = u31
  generalize u 32 = u32
  generalize u 33 = u33
  generalize u 34 = u34
  generalize u 35 = u35
  generalize u 36 = u36
  generalize u 37 = u37
  generalize u 38 = u38
  generalize u 39 = u39
  generalize u 40 = u40
  generalize u 41 = u41
  generalize u 42 = u42
  generalize u 43 = u43
  generalize u 44 = u44
  generalize u 45 = u45
  generalize u 46 = u46
  generalize u 47 = u47
  generalize u 48 = u48
  generalize u 49 = u49
  generalize u 50 = u50
  generalize u 51 = u51
  generalize u 52 = u52
  generalize u 53 = u53
  generalize u 54 = u54
  generalize u 55 = u55
  generalize u 56 = u56
  generalize u 57 = u57
  generalize u 58 = u58
  generalize u 59 = u59
  generalize u 60 = u60
  generalize u 61 = u61
  generalize u 62 = u62
  generalize u 63 = u63
  generalize u 64 = u64
  generalize u 65 = u65
  generalize u 66 = u66
  generalize u 67 = u67
  generalize u 68 = u68
  generalize u 69 = u69
  generalize u 70 = u70
  generalize u 71 = u71
  generalize u 73 = u73
  generalize u 74 = u74
  generalize u 75 = u75
  generalize u 76 = u76
  generalize u 77 = u77
  generalize u 78 = u78
  generalize u 79 = u79
  generalize u 80 = u80
  generalize u 81 = u81
  generalize u 82 = u82
  generalize u 83 = u83
  generalize u 84 = u84
  generalize u 85 = u85
  generalize u 86 = u86
  generalize u 87 = u87
  generalize u 88 = u88
  generalize u 89 = u89
  generalize u 90 = u90
  generalize u 91 = u91
  generalize u 92 = u92
  generalize u 93 = u93
  generalize u 94 = u94
  generalize u 95 = u95
  generalize u 96 = u96
  generalize u 97 = u97
  generalize u 98 = u98
  generalize u 99 = u99
  generalize u 100 = u100
  generalize u 101 = u101
  generalize u 102 = u102
  generalize u 103 = u103
  generalize u 104 = u104
  generalize u 105 = u105
  generalize u 106 = u106
  generalize u 107 = u107
  generalize u 108 = u108
  generalize u 109 = u109
  generalize u 110 = u110
  generalize u 111 = u111
  generalize u 112 = u112
  generalize u 113 = u113
  generalize u 114 = u114
  generalize u 115 = u115
  generalize u 116 = u116
  generalize u 117 = u117
  generalize u 118 = u118
  generalize u 119 = u119
  generalize u 120 = u120
  generalize u 121 = u121
  generalize u 122 = u122
  generalize u 123 = u123
  generalize u 124 = u124
  generalize u 125 = u125
  generalize u 126 = u126
  generalize u 127 = u127
  generalize u 128 = u128
  generalize u 129 = u129
  generalize u 130 = u130
  generalize u 131 = u131
  generalize u 132 = u132
  generalize u 133 = u133
  generalize u 134 = u134
  generalize u 135 = u135
  generalize u 136 = u136
  generalize u 137 = u137
  generalize u 138 = u138
  generalize u 139 = u139
  generalize u 140 = u140
  generalize u 141 = u141
  generalize u 142 = u142
  generalize u 143 = u143
  generalize u 144 = u144
  generalize u 145 = u145
  generalize u 146 = u146
  generalize u 147 = u147
  generalize u 148 = u148
  generalize u 149 = u149
  generalize u 150 = u150
  generalize u 151 = u151
  generalize u 152 = u152
  generalize u 153 = u153
  generalize u 154 = u154
  generalize u 155 = u155
  generalize u 156 = u156
  generalize u 157 = u157
  generalize u 158 = u158
  generalize u 159 = u159
  generalize u 160 = u160
  generalize u 161 = u161
  generalize u 162 = u162
  generalize u 163 = u163
  generalize u 164 = u164
  generalize u 165 = u165
  generalize u 166 = u166
  generalize u 167 = u167
  generalize u 168 = u168
  generalize u 169 = u169
  generalize u 170 = u170
  generalize u 171 = u171
  generalize u 172 = u172
  generalize u 173 = u173
  generalize u 174 = u174
  generalize u 175 = u175
  generalize u 176 = u176
  generalize u 177 = u177
  generalize u 178 = u178
  generalize u 179 = u179
  generalize u 180 = u180
  generalize u 181 = u181
  generalize u 182 = u182
  generalize u 183 = u183
  generalize u 184 = u184
  generalize u 185 = u185
  generalize u 186 = u186
  generalize u 187 = u187
  generalize u 188 = u188
  clear u
  obtain ⟨⟨c0, c1, c2, c3⟩, _⟩ := box4 hS
  clear hS
  go_wp2
  exact HQ.out _ ⟨rfl, rfl, rfl, rfl, rfl, rfl, rfl, rfl, rfl, rfl, rfl, rfl, rfl, rfl, rfl, rfl, rfl, rfl, rfl⟩
set_option maxHeartbeats 8000000 in
set_option maxRecDepth 100000 in
theorem ri_r26 {K : Act → World → Prop} {c : Code} (hc : regOf (Try.f3.body.getD .skip) 26 = some c) (a : Act) {v : Vri} {wq : World} {L : LOC} {y : Int} {R : Option Addr → Nat → Nat → World → Prop} (hF : Fri a v) (h8v : v.v8 = .pointer (some ⟨L.b, 0, none⟩)) (h13v : v.v13 = .int .i64 y) (q0 : -1 ≤ y) (q1 : y ≤ 1000000) (hE : Calls Try.prog 14 #[.pointer (some ⟨L.b, 0, none⟩), .int .i64 (y + 1), .int .i64 1000] wq fun e w' => ∃ ao ln cp, e = .returned (.slice ao ln cp) ∧ R ao ln cp w')
    (hQ : ∀ a' w' ao ln cp, Fri a' { v with v16 := .slice ao ln cp } → R ao ln cp w' → K a' w') :
    Code.wp Try.prog c (Exit.then K fun _ _ _ => False) a wq := by
  have HQ := hide hQ
  clear hQ
  obtain ⟨t', d'⟩ := a
  obtain ⟨v0, v1, v2, v6, v7, v8, v10, v11, v12, v13, v14, v15, v16, v17, v18, v19, v72⟩ := v
  simp only at h8v h13v HQ
  subst h8v h13v
  obtain ⟨hs1, hd1, q0, q1, q2, q6, q7, q8, q10, q11, q12, q13, q14, q15, q16, q17, q18, q19, q72⟩ := hF
  obtain ⟨u, hu⟩ := frame_ri t' hs1
  simp only at hd1 q0 q1 q2 q6 q7 q8 q10 q11 q12 q13 q14 q15 q16 q17 q18 q19 q72
  subst hu hd1
  have e0 : u 0 = v0 := q0
  have e1 : u 1 = v1 := q1
  have e2 : u 2 = v2 := q2
  have e6 : u 6 = v6 := q6
  have e7 : u 7 = v7 := q7
  have e8 : u 8 = .pointer (some ⟨L.b, 0, none⟩) := q8
  have e10 : u 10 = v10 := q10
  have e11 : u 11 = v11 := q11
  have e12 : u 12 = v12 := q12
  have e13 : u 13 = .int .i64 y := q13
  have e14 : u 14 = v14 := q14
  have e15 : u 15 = v15 := q15
  have e16 : u 16 = v16 := q16
  have e17 : u 17 = v17 := q17
  have e18 : u 18 = v18 := q18
  have e19 : u 19 = v19 := q19
  have e72 : u 72 = v72 := q72
  rw [e0, e1, e2, e6, e7, e8, e10, e11, e12, e13, e14, e15, e16, e17, e18, e19, e72]
  clear q0 e0 q1 e1 q2 e2 q6 e6 q7 e7 q8 e8 q10 e10 q11 e11 q12 e12 q13 e13 q14 e14 q15 e15 q16 e16 q17 e17 q18 e18 q19 e19 q72 e72 hs1
  simp only [Try.f3, Option.getD_some, regOf] at hc
  injection hc with hc
  subst hc
  generalize u 3 = u3
  generalize u 4 = u4
  generalize u 5 = u5
  generalize u 9 = u9
  generalize u 20 = u20
  generalize u 21 = u21
  generalize u 22 = u22
  generalize u 23 = u23
  generalize u 24 = u24
  generalize u 25 = u25
  generalize u 26 = u26
  generalize u 27 = u27
  generalize u 28 = u28
  generalize u 29 = u29
  generalize u 30 = u30
  generalize u 31 = u31
  generalize u 32 = u32
  generalize u 33 = u33
  generalize u 34 = u34
  generalize u 35 = u35
  generalize u 36 = u36
  generalize u 37 = u37
  generalize u 38 = u38
  generalize u 39 = u39
  generalize u 40 = u40
  generalize u 41 = u41
  generalize u 42 = u42
  generalize u 43 = u43
  generalize u 44 = u44
  generalize u 45 = u45
  generalize u 46 = u46
  generalize u 47 = u47
  generalize u 48 = u48
  generalize u 49 = u49
  generalize u 50 = u50
  generalize u 51 = u51
  generalize u 52 = u52
  generalize u 53 = u53
  generalize u 54 = u54
  generalize u 55 = u55
  generalize u 56 = u56
  generalize u 57 = u57
  generalize u 58 = u58
  generalize u 59 = u59
  generalize u 60 = u60
  generalize u 61 = u61
  generalize u 62 = u62
  generalize u 63 = u63
  generalize u 64 = u64
  generalize u 65 = u65
  generalize u 66 = u66
  generalize u 67 = u67
  generalize u 68 = u68
  generalize u 69 = u69
  generalize u 70 = u70
  generalize u 71 = u71
  generalize u 73 = u73
  generalize u 74 = u74
  generalize u 75 = u75
  generalize u 76 = u76
  generalize u 77 = u77
  generalize u 78 = u78
  generalize u 79 = u79
  generalize u 80 = u80
  generalize u 81 = u81
  generalize u 82 = u82
  generalize u 83 = u83
  generalize u 84 = u84
  generalize u 85 = u85
  generalize u 86 = u86
  generalize u 87 = u87
  generalize u 88 = u88
  generalize u 89 = u89
  generalize u 90 = u90
  generalize u 91 = u91
  generalize u 92 = u92
  generalize u 93 = u93
  generalize u 94 = u94
  generalize u 95 = u95
  generalize u 96 = u96
  generalize u 97 = u97
  generalize u 98 = u98
  generalize u 99 = u99
  generalize u 100 = u100
  generalize u 101 = u101
  generalize u 102 = u102
  generalize u 103 = u103
  generalize u 104 = u104
  generalize u 105 = u105
  generalize u 106 = u106
  generalize u 107 = u107
  generalize u 108 = u108
  generalize u 109 = u109
  generalize u 110 = u110
  generalize u 111 = u111
  generalize u 112 = u112
  generalize u 113 = u113
  generalize u 114 = u114
  generalize u 115 = u115
  generalize u 116 = u116
  generalize u 117 = u117
  generalize u 118 = u118
  generalize u 119 = u119
  generalize u 120 = u120
  generalize u 121 = u121
  generalize u 122 = u122
  generalize u 123 = u123
  generalize u 124 = u124
  generalize u 125 = u125
  generalize u 126 = u126
  generalize u 127 = u127
  generalize u 128 = u128
  generalize u 129 = u129
  generalize u 130 = u130
  generalize u 131 = u131
  generalize u 132 = u132
  generalize u 133 = u133
  generalize u 134 = u134
  generalize u 135 = u135
  generalize u 136 = u136
  generalize u 137 = u137
  generalize u 138 = u138
  generalize u 139 = u139
  generalize u 140 = u140
  generalize u 141 = u141
  generalize u 142 = u142
  generalize u 143 = u143
  generalize u 144 = u144
  generalize u 145 = u145
  generalize u 146 = u146
  generalize u 147 = u147
  generalize u 148 = u148
  generalize u 149 = u149
  generalize u 150 = u150
  generalize u 151 = u151
  generalize u 152 = u152
  generalize u 153 = u153
  generalize u 154 = u154
  generalize u 155 = u155
  generalize u 156 = u156
  generalize u 157 = u157
  generalize u 158 = u158
  generalize u 159 = u159
  generalize u 160 = u160
  generalize u 161 = u161
  generalize u 162 = u162
  generalize u 163 = u163
  generalize u 164 = u164
  generalize u 165 = u165
  generalize u 166 = u166
  generalize u 167 = u167
  generalize u 168 = u168
  generalize u 169 = u169
  generalize u 170 = u170
  generalize u 171 = u171
  generalize u 172 = u172
  generalize u 173 = u173
  generalize u 174 = u174
  generalize u 175 = u175
  generalize u 176 = u176
  generalize u 177 = u177
  generalize u 178 = u178
  generalize u 179 = u179
  generalize u 180 = u180
  generalize u 181 = u181
  generalize u 182 = u182
  generalize u 183 = u183
  generalize u 184 = u184
  generalize u 185 = u185
  generalize u 186 = u186
  generalize u 187 = u187
  generalize u 188 = u188
  clear u
  have HE := hide hE
  clear hE
  go_wp2_with (go_at_call 14; refine HE.out.mono ?_; rintro e w1 ⟨ao, ln, cp, rfl, r1⟩; have R1 := hide r1; clear r1)
  exact HQ.out _ _ _ _ _ ⟨rfl, rfl, rfl, rfl, rfl, rfl, rfl, rfl, rfl, rfl, rfl, rfl, rfl, rfl, rfl, rfl, rfl, rfl, rfl⟩ R1.out
set_option maxHeartbeats 8000000 in
set_option maxRecDepth 100000 in
theorem ri_r27 {K : Act → World → Prop} {c : Code} (hc : regOf (Try.f3.body.getD .skip) 27 = some c) (a : Act) {v : Vri} {wq : World}  (hF : Fri a v) (hQ : ∀ a', Fri a' { v with v17 := .slice none 0 0 } → K a' wq) :
    Code.wp Try.prog c (Exit.then K fun _ _ _ => False) a wq := by
  have HQ := hide hQ
  clear hQ
  obtain ⟨t', d'⟩ := a
  obtain ⟨v0, v1, v2, v6, v7, v8, v10, v11, v12, v13, v14, v15, v16, v17, v18, v19, v72⟩ := v
  obtain ⟨hs1, hd1, q0, q1, q2, q6, q7, q8, q10, q11, q12, q13, q14, q15, q16, q17, q18, q19, q72⟩ := hF
  obtain ⟨u, hu⟩ := frame_ri t' hs1
  simp only at hd1 q0 q1 q2 q6 q7 q8 q10 q11 q12 q13 q14 q15 q16 q17 q18 q19 q72
  subst hu hd1
  have e0 : u 0 = v0 := q0
  have e1 : u 1 = v1 := q1
  have e2 : u 2 = v2 := q2
  have e6 : u 6 = v6 := q6
  have e7 : u 7 = v7 := q7
  have e8 : u 8 = v8 := q8
  have e10 : u 10 = v10 := q10
  have e11 : u 11 = v11 := q11
  have e12 : u 12 = v12 := q12
  have e13 : u 13 = v13 := q13
  have e14 : u 14 = v14 := q14
  have e15 : u 15 = v15 := q15
  have e16 : u 16 = v16 := q16
  have e17 : u 17 = v17 := q17
  have e18 : u 18 = v18 := q18
  have e19 : u 19 = v19 := q19
  have e72 : u 72 = v72 := q72
  rw [e0, e1, e2, e6, e7, e8, e10, e11, e12, e13, e14, e15, e16, e17, e18, e19, e72]
  clear q0 e0 q1 e1 q2 e2 q6 e6 q7 e7 q8 e8 q10 e10 q11 e11 q12 e12 q13 e13 q14 e14 q15 e15 q16 e16 q17 e17 q18 e18 q19 e19 q72 e72 hs1
  simp only [Try.f3, Option.getD_some, regOf] at hc
  injection hc with hc
  subst hc
  generalize u 3 = u3
  generalize u 4 = u4
  generalize u 5 = u5
  generalize u 9 = u9
  generalize u 20 = u20
  generalize u 21 = u21
  generalize u 22 = u22
  generalize u 23 = u23
  generalize u 24 = u24
  generalize u 25 = u25
  generalize u 26 = u26
  generalize u 27 = u27
  generalize u 28 = u28
  generalize u 29 = u29
  generalize u 30 = u30
  generalize u 31 = u31
  generalize u 32 = u32
  generalize u 33 = u33
  generalize u 34 = u34
  generalize u 35 = u35
  generalize u 36 = u36
  generalize u 37 = u37
  generalize u 38 = u38
  generalize u 39 = u39
  generalize u 40 = u40
  generalize u 41 = u41
  generalize u 42 = u42
  generalize u 43 = u43
  generalize u 44 = u44
  generalize u 45 = u45
  generalize u 46 = u46
  generalize u 47 = u47
  generalize u 48 = u48
  generalize u 49 = u49
  generalize u 50 = u50
  generalize u 51 = u51
  generalize u 52 = u52
  generalize u 53 = u53
  generalize u 54 = u54
  generalize u 55 = u55
  generalize u 56 = u56
  generalize u 57 = u57
  generalize u 58 = u58
  generalize u 59 = u59
  generalize u 60 = u60
  generalize u 61 = u61
  generalize u 62 = u62
  generalize u 63 = u63
  generalize u 64 = u64
  generalize u 65 = u65
  generalize u 66 = u66
  generalize u 67 = u67
  generalize u 68 = u68
  generalize u 69 = u69
  generalize u 70 = u70
  generalize u 71 = u71
  generalize u 73 = u73
  generalize u 74 = u74
  generalize u 75 = u75
  generalize u 76 = u76
  generalize u 77 = u77
  generalize u 78 = u78
  generalize u 79 = u79
  generalize u 80 = u80
  generalize u 81 = u81
  generalize u 82 = u82
  generalize u 83 = u83
  generalize u 84 = u84
  generalize u 85 = u85
  generalize u 86 = u86
  generalize u 87 = u87
  generalize u 88 = u88
  generalize u 89 = u89
  generalize u 90 = u90
  generalize u 91 = u91
  generalize u 92 = u92
  generalize u 93 = u93
  generalize u 94 = u94
  generalize u 95 = u95
  generalize u 96 = u96
  generalize u 97 = u97
  generalize u 98 = u98
  generalize u 99 = u99
  generalize u 100 = u100
  generalize u 101 = u101
  generalize u 102 = u102
  generalize u 103 = u103
  generalize u 104 = u104
  generalize u 105 = u105
  generalize u 106 = u106
  generalize u 107 = u107
  generalize u 108 = u108
  generalize u 109 = u109
  generalize u 110 = u110
  generalize u 111 = u111
  generalize u 112 = u112
  generalize u 113 = u113
  generalize u 114 = u114
  generalize u 115 = u115
  generalize u 116 = u116
  generalize u 117 = u117
  generalize u 118 = u118
  generalize u 119 = u119
  generalize u 120 = u120
  generalize u 121 = u121
  generalize u 122 = u122
  generalize u 123 = u123
  generalize u 124 = u124
  generalize u 125 = u125
  generalize u 126 = u126
  generalize u 127 = u127
  generalize u 128 = u128
  generalize u 129 = u129
  generalize u 130 = u130
  generalize u 131 = u131
  generalize u 132 = u132
  generalize u 133 = u133
  generalize u 134 = u134
  generalize u 135 = u135
  generalize u 136 = u136
  generalize u 137 = u137
  generalize u 138 = u138
  generalize u 139 = u139
  generalize u 140 = u140
  generalize u 141 = u141
  generalize u 142 = u142
  generalize u 143 = u143
  generalize u 144 = u144
  generalize u 145 = u145
  generalize u 146 = u146
  generalize u 147 = u147
  generalize u 148 = u148
  generalize u 149 = u149
  generalize u 150 = u150
  generalize u 151 = u151
  generalize u 152 = u152
  generalize u 153 = u153
  generalize u 154 = u154
  generalize u 155 = u155
  generalize u 156 = u156
  generalize u 157 = u157
  generalize u 158 = u158
  generalize u 159 = u159
  generalize u 160 = u160
  generalize u 161 = u161
  generalize u 162 = u162
  generalize u 163 = u163
  generalize u 164 = u164
  generalize u 165 = u165
  generalize u 166 = u166
  generalize u 167 = u167
  generalize u 168 = u168
  generalize u 169 = u169
  generalize u 170 = u170
  generalize u 171 = u171
  generalize u 172 = u172
  generalize u 173 = u173
  generalize u 174 = u174
  generalize u 175 = u175
  generalize u 176 = u176
  generalize u 177 = u177
  generalize u 178 = u178
  generalize u 179 = u179
  generalize u 180 = u180
  generalize u 181 = u181
  generalize u 182 = u182
  generalize u 183 = u183
  generalize u 184 = u184
  generalize u 185 = u185
  generalize u 186 = u186
  generalize u 187 = u187
  generalize u 188 = u188
  clear u
  go_wp2
  exact HQ.out _ ⟨rfl, rfl, rfl, rfl, rfl, rfl, rfl, rfl, rfl, rfl, rfl, rfl, rfl, rfl, rfl, rfl, rfl, rfl, rfl⟩
set_option maxHeartbeats 8000000 in
set_option maxRecDepth 100000 in
theorem ri_r29 {K : Act → World → Prop} {c : Code} (hc : regOf (Try.f3.body.getD .skip) 29 = some c) (a : Act) {v : Vri} {wq : World} {cd : Int} (hF : Fri a v) (h12v : v.v12 = .int .i64 cd) (hQ : ∀ a', Fri a' v → a'.tmps.getD 114 undef = .bool (!(cd == 0)) → K a' wq) :
    Code.wp Try.prog c (Exit.then K fun _ _ _ => False) a wq := by
  have HQ := hide hQ
  clear hQ
  obtain ⟨t', d'⟩ := a
  obtain ⟨v0, v1, v2, v6, v7, v8, v10, v11, v12, v13, v14, v15, v16, v17, v18, v19, v72⟩ := v
  simp only at h12v HQ
  subst h12v
  obtain ⟨hs1, hd1, q0, q1, q2, q6, q7, q8, q10, q11, q12, q13, q14, q15, q16, q17, q18, q19, q72⟩ := hF
  obtain ⟨u, hu⟩ := frame_ri t' hs1
  simp only at hd1 q0 q1 q2 q6 q7 q8 q10 q11 q12 q13 q14 q15 q16 q17 q18 q19 q72
  subst hu hd1
  have e0 : u 0 = v0 := q0
  have e1 : u 1 = v1 := q1
  have e2 : u 2 = v2 := q2
  have e6 : u 6 = v6 := q6
  have e7 : u 7 = v7 := q7
  have e8 : u 8 = v8 := q8
  have e10 : u 10 = v10 := q10
  have e11 : u 11 = v11 := q11
  have e12 : u 12 = .int .i64 cd := q12
  have e13 : u 13 = v13 := q13
  have e14 : u 14 = v14 := q14
  have e15 : u 15 = v15 := q15
  have e16 : u 16 = v16 := q16
  have e17 : u 17 = v17 := q17
  have e18 : u 18 = v18 := q18
  have e19 : u 19 = v19 := q19
  have e72 : u 72 = v72 := q72
  rw [e0, e1, e2, e6, e7, e8, e10, e11, e12, e13, e14, e15, e16, e17, e18, e19, e72]
  clear q0 e0 q1 e1 q2 e2 q6 e6 q7 e7 q8 e8 q10 e10 q11 e11 q12 e12 q13 e13 q14 e14 q15 e15 q16 e16 q17 e17 q18 e18 q19 e19 q72 e72 hs1
  simp only [Try.f3, Option.getD_some, regOf] at hc
  injection hc with hc
  subst hc
  generalize u 3 = u3
  generalize u 4 = u4
  generalize u 5 = u5
  generalize u 9 = u9
  generalize u 20 = u20
  generalize u 21 = u21
  generalize u 22 = u22
  generalize u 23 = u23
  generalize u 24 = u24
  generalize u 25 = u25
  generalize u 26 = u26
  generalize u 27 = u27
  generalize u 28 = u28
  generalize u 29 = u29
  generalize u 30 = u30
  generalize u 31 = u31
  generalize u 32 = u32
  generalize u 33 = u33
  generalize u 34 = u34
  generalize u 35 = u35
  generalize u 36 = u36
  generalize u 37 = u37
  generalize u 38 = u38
  generalize u 39 = u39
  generalize u 40 = u40
  generalize u 41 = u41
  generalize u 42 = u42
  generalize u 43 = u43
  generalize u 44 = u44
  generalize u 45 = u45
  generalize u 46 = u46
  generalize u 47 = u47
  generalize u 48 = u48
  generalize u 49 = u49
  generalize u 50 = u50
  generalize u 51 = u51
  generalize u 52 = u52
  generalize u 53 = u53
  generalize u 54 = u54
  generalize u 55 = u55
  generalize u 56 = u56
  generalize u 57 = u57
  generalize u 58 = u58
  generalize u 59 = u59
  generalize u 60 = u60
  generalize u 61 = u61
  generalize u 62 = u62
  generalize u 63 = u63
  generalize u 64 = u64
  generalize u 65 = u65
  generalize u 66 = u66
  generalize u 67 = u67
  generalize u 68 = u68
  generalize u 69 = u69
  generalize u 70 = u70
  generalize u 71 = u71
  generalize u 73 = u73
  generalize u 74 = u74
  generalize u 75 = u75
  generalize u 76 = u76
  generalize u 77 = u77
  generalize u 78 = u78
  generalize u 79 = u79
  generalize u 80 = u80
  generalize u 81 = u81
  generalize u 82 = u82
  generalize u 83 = u83
  generalize u 84 = u84
  generalize u 85 = u85
  generalize u 86 = u86
  generalize u 87 = u87
  generalize u 88 = u88
  generalize u 89 = u89
  generalize u 90 = u90
  generalize u 91 = u91
  generalize u 92 = u92
  generalize u 93 = u93
  generalize u 94 = u94
  generalize u 95 = u95
  generalize u 96 = u96
  generalize u 97 = u97
  generalize u 98 = u98
  generalize u 99 = u99
  generalize u 100 = u100
  generalize u 101 = u101
  generalize u 102 = u102
  generalize u 103 = u103
  generalize u 104 = u104
  generalize u 105 = u105
  generalize u 106 = u106
  generalize u 107 = u107
  generalize u 108 = u108
  generalize u 109 = u109
  generalize u 110 = u110
  generalize u 111 = u111
  generalize u 112 = u112
  generalize u 113 = u113
  generalize u 114 = u114
  generalize u 115 = u115
  generalize u 116 = u116
  generalize u 117 = u117
  generalize u 118 = u118
  generalize u 119 = u119
  generalize u 120 = u120
  generalize u 121 = u121
  generalize u 122 = u122
  generalize u 123 = u123
  generalize u 124 = u124
  generalize u 125 = u125
  generalize u 126 = u126
  generalize u 127 = u127
  generalize u 128 = u128
  generalize u 129 = u129
  generalize u 130 = u130
  generalize u 131 = u131
  generalize u 132 = u132
  generalize u 133 = u133
  generalize u 134 = u134
  generalize u 135 = u135
  generalize u 136 = u136
  generalize u 137 = u137
  generalize u 138 = u138
  generalize u 139 = u139
  generalize u 140 = u140
  generalize u 141 = u141
  generalize u 142 = u142
  generalize u 143 = u143
  generalize u 144 = u144
  generalize u 145 = u145
  generalize u 146 = u146
  generalize u 147 = u147
  generalize u 148 = u148
  generalize u 149 = u149
  generalize u 150 = u150
  generalize u 151 = u151
  generalize u 152 = u152
  generalize u 153 = u153
  generalize u 154 = u154
  generalize u 155 = u155
  generalize u 156 = u156
  generalize u 157 = u157
  generalize u 158 = u158
  generalize u 159 = u159
  generalize u 160 = u160
  generalize u 161 = u161
  generalize u 162 = u162
  generalize u 163 = u163
  generalize u 164 = u164
  generalize u 165 = u165
  generalize u 166 = u166
  generalize u 167 = u167
  generalize u 168 = u168
  generalize u 169 = u169
  generalize u 170 = u170
  generalize u 171 = u171
  generalize u 172 = u172
  generalize u 173 = u173
  generalize u 174 = u174
  generalize u 175 = u175
  generalize u 176 = u176
  generalize u 177 = u177
  generalize u 178 = u178
  generalize u 179 = u179
  generalize u 180 = u180
  generalize u 181 = u181
  generalize u 182 = u182
  generalize u 183 = u183
  generalize u 184 = u184
  generalize u 185 = u185
  generalize u 186 = u186
  generalize u 187 = u187
  generalize u 188 = u188
  clear u
  go_wp2
  exact HQ.out _ ⟨rfl, rfl, rfl, rfl, rfl, rfl, rfl, rfl, rfl, rfl, rfl, rfl, rfl, rfl, rfl, rfl, rfl, rfl, rfl⟩ (by first | rfl | (simp; done))
set_option maxHeartbeats 8000000 in
set_option maxRecDepth 100000 in
theorem ri_r31 {K : Act → World → Prop} {c : Code} (hc : regOf (Try.f3.body.getD .skip) 31 = some c) (a : Act) {v : Vri} {wq : World}  (hF : Fri a v) (hQ : ∀ a', Fri a' { v with v18 := .int .i64 0 } → K a' wq) :
    Code.wp Try.prog c (Exit.then K fun _ _ _ => False) a wq := by
  have HQ := hide hQ
  clear hQ
  obtain ⟨t', d'⟩ := a
  obtain ⟨v0, v1, v2, v6, v7, v8, v10, v11, v12, v13, v14, v15, v16, v17, v18, v19, v72⟩ := v
  obtain ⟨hs1, hd1, q0, q1, q2, q6, q7, q8, q10, q11, q12, q13, q14, q15, q16, q17, q18, q19, q72⟩ := hF
  obtain ⟨u, hu⟩ := frame_ri t' hs1
  simp only at hd1 q0 q1 q2 q6 q7 q8 q10 q11 q12 q13 q14 q15 q16 q17 q18 q19 q72
  subst hu hd1
  have e0 : u 0 = v0 := q0
  have e1 : u 1 = v1 := q1
  have e2 : u 2 = v2 := q2
  have e6 : u 6 = v6 := q6
  have e7 : u 7 = v7 := q7
  have e8 : u 8 = v8 := q8
  have e10 : u 10 = v10 := q10
  have e11 : u 11 = v11 := q11
  have e12 : u 12 = v12 := q12
  have e13 : u 13 = v13 := q13
  have e14 : u 14 = v14 := q14
  have e15 : u 15 = v15 := q15
  have e16 : u 16 = v16 := q16
  have e17 : u 17 = v17 := q17
  have e18 : u 18 = v18 := q18
  have e19 : u 19 = v19 := q19
  have e72 : u 72 = v72 := q72
  rw [e0, e1, e2, e6, e7, e8, e10, e11, e12, e13, e14, e15, e16, e17, e18, e19, e72]
  clear q0 e0 q1 e1 q2 e2 q6 e6 q7 e7 q8 e8 q10 e10 q11 e11 q12 e12 q13 e13 q14 e14 q15 e15 q16 e16 q17 e17 q18 e18 q19 e19 q72 e72 hs1
  simp only [Try.f3, Option.getD_some, regOf] at hc
  injection hc with hc
  subst hc
  generalize u 3 = u3
  generalize u 4 = u4
  generalize u 5 = u5
  generalize u 9 = u9
  generalize u 20 = u20
  generalize u 21 = u21
  generalize u 22 = u22
  generalize u 23 = u23
  generalize u 24 = u24
  generalize u 25 = u25
  generalize u 26 = u26
  generalize u 27 = u27
  generalize u 28 = u28
  generalize u 29 = u29
  generalize u 30 = u30
  generalize u 31 = u31
  generalize u 32 = u32
  generalize u 33 = u33
  generalize u 34 = u34
  generalize u 35 = u35
  generalize u 36 = u36
  generalize u 37 = u37
  generalize u 38 = u38
  generalize u 39 = u39
  generalize u 40 = u40
  generalize u 41 = u41
  generalize u 42 = u42
  generalize u 43 = u43
  generalize u 44 = u44
  generalize u 45 = u45
  generalize u 46 = u46
  generalize u 47 = u47
  generalize u 48 = u48
  generalize u 49 = u49
  generalize u 50 = u50
  generalize u 51 = u51
  generalize u 52 = u52
  generalize u 53 = u53
  generalize u 54 = u54
  generalize u 55 = u55
  generalize u 56 = u56
  generalize u 57 = u57
  generalize u 58 = u58
  generalize u 59 = u59
  generalize u 60 = u60
  generalize u 61 = u61
  generalize u 62 = u62
  generalize u 63 = u63
  generalize u 64 = u64
  generalize u 65 = u65
  generalize u 66 = u66
  generalize u 67 = u67
  generalize u 68 = u68
  generalize u 69 = u69
  generalize u 70 = u70
  generalize u 71 = u71
  generalize u 73 = u73
  generalize u 74 = u74
  generalize u 75 = u75
  generalize u 76 = u76
  generalize u 77 = u77
  generalize u 78 = u78
  generalize u 79 = u79
  generalize u 80 = u80
  generalize u 81 = u81
  generalize u 82 = u82
  generalize u 83 = u83
  generalize u 84 = u84
  generalize u 85 = u85
  generalize u 86 = u86
  generalize u 87 = u87
  generalize u 88 = u88
  generalize u 89 = u89
  generalize u 90 = u90
  generalize u 91 = u91
  generalize u 92 = u92
  generalize u 93 = u93
  generalize u 94 = u94
  generalize u 95 = u95
  generalize u 96 = u96
  generalize u 97 = u97
  generalize u 98 = u98
  generalize u 99 = u99
  generalize u 100 = u100
  generalize u 101 = u101
  generalize u 102 = u102
  generalize u 103 = u103
  generalize u 104 = u104
  generalize u 105 = u105
  generalize u 106 = u106
  generalize u 107 = u107
  generalize u 108 = u108
  generalize u 109 = u109
  generalize u 110 = u110
  generalize u 111 = u111
  generalize u 112 = u112
  generalize u 113 = u113
  generalize u 114 = u114
  generalize u 115 = u115
  generalize u 116 = u116
  generalize u 117 = u117
  generalize u 118 = u118
  generalize u 119 = u119
  generalize u 120 = u120
  generalize u 121 = u121
  generalize u 122 = u122
  generalize u 123 = u123
  generalize u 124 = u124
  generalize u 125 = u125
  generalize u 126 = u126
  generalize u 127 = u127
  generalize u 128 = u128
  generalize u 129 = u129
  generalize u 130 = u130
  generalize u 131 = u131
  generalize u 132 = u132
  generalize u 133 = u133
  generalize u 134 = u134
  generalize u 135 = u135
  generalize u 136 = u136
  generalize u 137 = u137
  generalize u 138 = u138
  generalize u 139 = u139
  generalize u 140 = u140
  generalize u 141 = u141
  generalize u 142 = u142
  generalize u 143 = u143
  generalize u 144 = u144
  generalize u 145 = u145
  generalize u 146 = u146
  generalize u 147 = u147
  generalize u 148 = u148
  generalize u 149 = u149
  generalize u 150 = u150
  generalize u 151 = u151
  generalize u 152 = u152
  generalize u 153 = u153
  generalize u 154 = u154
  generalize u 155 = u155
  generalize u 156 = u156
  generalize u 157 = u157
  generalize u 158 = u158
  generalize u 159 = u159
  generalize u 160 = u160
  generalize u 161 = u161
  generalize u 162 = u162
  generalize u 163 = u163
  generalize u 164 = u164
  generalize u 165 = u165
  generalize u 166 = u166
  generalize u 167 = u167
  generalize u 168 = u168
  generalize u 169 = u169
  generalize u 170 = u170
  generalize u 171 = u171
  generalize u 172 = u172
  generalize u 173 = u173
  generalize u 174 = u174
  generalize u 175 = u175
  generalize u 176 = u176
  generalize u 177 = u177
  generalize u 178 = u178
  generalize u 179 = u179
  generalize u 180 = u180
  generalize u 181 = u181
  generalize u 182 = u182
  generalize u 183 = u183
  generalize u 184 = u184
  generalize u 185 = u185
  generalize u 186 = u186
  generalize u 187 = u187
  generalize u 188 = u188
  clear u
  go_wp2
  exact HQ.out _ ⟨rfl, rfl, rfl, rfl, rfl, rfl, rfl, rfl, rfl, rfl, rfl, rfl, rfl, rfl, rfl, rfl, rfl, rfl, rfl⟩
set_option maxHeartbeats 8000000 in
set_option maxRecDepth 100000 in
theorem ri_r32 {K : Act → World → Prop} {c : Code} (hc : regOf (Try.f3.body.getD .skip) 32 = some c) (a : Act) {v : Vri} {wq : World} {k ln cp : Nat} {ao : Option Addr} (hF : Fri a v) (h17v : v.v17 = .slice ao ln cp) (h18v : v.v18 = .int .i64 (k : Int)) (hQ : ∀ a', Fri a' v → a'.tmps.getD 118 undef = .bool (decide (k < ln)) → K a' wq) :
    Code.wp Try.prog c (Exit.then K fun _ _ _ => False) a wq := by
  have HQ := hide hQ
  clear hQ
  obtain ⟨t', d'⟩ := a
  obtain ⟨v0, v1, v2, v6, v7, v8, v10, v11, v12, v13, v14, v15, v16, v17, v18, v19, v72⟩ := v
  simp only at h17v h18v HQ
  subst h17v h18v
  obtain ⟨hs1, hd1, q0, q1, q2, q6, q7, q8, q10, q11, q12, q13, q14, q15, q16, q17, q18, q19, q72⟩ := hF
  obtain ⟨u, hu⟩ := frame_ri t' hs1
  simp only at hd1 q0 q1 q2 q6 q7 q8 q10 q11 q12 q13 q14 q15 q16 q17 q18 q19 q72
  subst hu hd1
  have e0 : u 0 = v0 := q0
  have e1 : u 1 = v1 := q1
  have e2 : u 2 = v2 := q2
  have e6 : u 6 = v6 := q6
  have e7 : u 7 = v7 := q7
  have e8 : u 8 = v8 := q8
  have e10 : u 10 = v10 := q10
  have e11 : u 11 = v11 := q11
  have e12 : u 12 = v12 := q12
  have e13 : u 13 = v13 := q13
  have e14 : u 14 = v14 := q14
  have e15 : u 15 = v15 := q15
  have e16 : u 16 = v16 := q16
  have e17 : u 17 = .slice ao ln cp := q17
  have e18 : u 18 = .int .i64 (k : Int) := q18
  have e19 : u 19 = v19 := q19
  have e72 : u 72 = v72 := q72
  rw [e0, e1, e2, e6, e7, e8, e10, e11, e12, e13, e14, e15, e16, e17, e18, e19, e72]
  clear q0 e0 q1 e1 q2 e2 q6 e6 q7 e7 q8 e8 q10 e10 q11 e11 q12 e12 q13 e13 q14 e14 q15 e15 q16 e16 q17 e17 q18 e18 q19 e19 q72 e72 hs1
  simp only [Try.f3, Option.getD_some, regOf] at hc
  injection hc with hc
  subst hc
  generalize u 3 = u3
  generalize u 4 = u4
  generalize u 5 = u5
  generalize u 9 = u9
  generalize u 20 = u20
  generalize u 21 = u21
  generalize u 22 = u22
  generalize u 23 = u23
  generalize u 24 = u24
  generalize u 25 = u25
  generalize u 26 = u26
  generalize u 27 = u27
  generalize u 28 = u28
  generalize u 29 = u29
  generalize u 30 = u30
  generalize u 31 = u31
  generalize u 32 = u32
  generalize u 33 = u33
  generalize u 34 = u34
  generalize u 35 = u35
  generalize u 36 = u36
  generalize u 37 = u37
  generalize u 38 = u38
  generalize u 39 = u39
  generalize u 40 = u40
  generalize u 41 = u41
  generalize u 42 = u42
  generalize u 43 = u43
  generalize u 44 = u44
  generalize u 45 = u45
  generalize u 46 = u46
  generalize u 47 = u47
  generalize u 48 = u48
  generalize u 49 = u49
  generalize u 50 = u50
  generalize u 51 = u51
  generalize u 52 = u52
  generalize u 53 = u53
  generalize u 54 = u54
  generalize u 55 = u55
  generalize u 56 = u56
  generalize u 57 = u57
  generalize u 58 = u58
  generalize u 59 = u59
  generalize u 60 = u60
  generalize u 61 = u61
  generalize u 62 = u62
  generalize u 63 = u63
  generalize u 64 = u64
  generalize u 65 = u65
  generalize u 66 = u66
  generalize u 67 = u67
  generalize u 68 = u68
  generalize u 69 = u69
  generalize u 70 = u70
  generalize u 71 = u71
  generalize u 73 = u73
  generalize u 74 = u74
  generalize u 75 = u75
  generalize u 76 = u76
  generalize u 77 = u77
  generalize u 78 = u78
  generalize u 79 = u79
  generalize u 80 = u80
  generalize u 81 = u81
  generalize u 82 = u82
  generalize u 83 = u83
  generalize u 84 = u84
  generalize u 85 = u85
  generalize u 86 = u86
  generalize u 87 = u87
  generalize u 88 = u88
  generalize u 89 = u89
  generalize u 90 = u90
  generalize u 91 = u91
  generalize u 92 = u92
  generalize u 93 = u93
  generalize u 94 = u94
  generalize u 95 = u95
  generalize u 96 = u96
  generalize u 97 = u97
  generalize u 98 = u98
  generalize u 99 = u99
  generalize u 100 = u100
  generalize u 101 = u101
  generalize u 102 = u102
  generalize u 103 = u103
  generalize u 104 = u104
  generalize u 105 = u105
  generalize u 106 = u106
  generalize u 107 = u107
  generalize u 108 = u108
  generalize u 109 = u109
  generalize u 110 = u110
  generalize u 111 = u111
  generalize u 112 = u112
  generalize u 113 = u113
  generalize u 114 = u114
  generalize u 115 = u115
  generalize u 116 = u116
  generalize u 117 = u117
  generalize u 118 = u118
  generalize u 119 = u119
  generalize u 120 = u120
  generalize u 121 = u121
  generalize u 122 = u122
  generalize u 123 = u123
  generalize u 124 = u124
  generalize u 125 = u125
  generalize u 126 = u126
  generalize u 127 = u127
  generalize u 128 = u128
  generalize u 129 = u129
  generalize u 130 = u130
  generalize u 131 = u131
  generalize u 132 = u132
  generalize u 133 = u133
  generalize u 134 = u134
  generalize u 135 = u135
  generalize u 136 = u136
  generalize u 137 = u137
  generalize u 138 = u138
  generalize u 139 = u139
  generalize u 140 = u140
  generalize u 141 = u141
  generalize u 142 = u142
  generalize u 143 = u143
  generalize u 144 = u144
  generalize u 145 = u145
  generalize u 146 = u146
  generalize u 147 = u147
  generalize u 148 = u148
  generalize u 149 = u149
  generalize u 150 = u150
  generalize u 151 = u151
  generalize u 152 = u152
  generalize u 153 = u153
  generalize u 154 = u154
  generalize u 155 = u155
  generalize u 156 = u156
  generalize u 157 = u157
  generalize u 158 = u158
  generalize u 159 = u159
  generalize u 160 = u160
  generalize u 161 = u161
  generalize u 162 = u162
  generalize u 163 = u163
  generalize u 164 = u164
  generalize u 165 = u165
  generalize u 166 = u166
  generalize u 167 = u167
  generalize u 168 = u168
  generalize u 169 = u169
  generalize u 170 = u170
  generalize u 171 = u171
  generalize u 172 = u172
  generalize u 173 = u173
  generalize u 174 = u174
  generalize u 175 = u175
  generalize u 176 = u176
  generalize u 177 = u177
  generalize u 178 = u178
  generalize u 179 = u179
  generalize u 180 = u180
  generalize u 181 = u181
  generalize u 182 = u182
  generalize u 183 = u183
  generalize u 184 = u184
  generalize u 185 = u185
  generalize u 186 = u186
  generalize u 187 = u187
  generalize u 188 = u188
  clear u
  go_wp2
  exact HQ.out _ ⟨rfl, rfl, rfl, rfl, rfl, rfl, rfl, rfl, rfl, rfl, rfl, rfl, rfl, rfl, rfl, rfl, rfl, rfl, rfl⟩ (by first | rfl | (simp; done))
set_option maxHeartbeats 8000000 in
set_option maxRecDepth 100000 in
theorem ri_r36 {K : Act → World → Prop} {c : Code} (hc : regOf (Try.f3.body.getD .skip) 36 = some c) (a : Act) {v : Vri} {wq : World} {k ln cp b of : Nat} {x : Int} (hF : Fri a v) (h17v : v.v17 = .slice (some ⟨b, of, none⟩) ln cp) (h18v : v.v18 = .int .i64 (k : Int)) (hk : k < ln) (hc1 : wq.cell? ⟨b, of + k * 5, none⟩ = some (.int .i64 x))
    (hQ : ∀ a', Fri a' { v with v13 := .int .i64 x } → K a' wq) :
    Code.wp Try.prog c (Exit.then K fun _ _ _ => False) a wq := by
  have HQ := hide hQ
  clear hQ
  obtain ⟨t', d'⟩ := a
  obtain ⟨v0, v1, v2, v6, v7, v8, v10, v11, v12, v13, v14, v15, v16, v17, v18, v19, v72⟩ := v
  simp only at h17v h18v HQ
  subst h17v h18v
  obtain ⟨hs1, hd1, q0, q1, q2, q6, q7, q8, q10, q11, q12, q13, q14, q15, q16, q17, q18, q19, q72⟩ := hF
  obtain ⟨u, hu⟩ := frame_ri t' hs1
  simp only at hd1 q0 q1 q2 q6 q7 q8 q10 q11 q12 q13 q14 q15 q16 q17 q18 q19 q72
  subst hu hd1
  have e0 : u 0 = v0 := q0
  have e1 : u 1 = v1 := q1
  have e2 : u 2 = v2 := q2
  have e6 : u 6 = v6 := q6
  have e7 : u 7 = v7 := q7
  have e8 : u 8 = v8 := q8
  have e10 : u 10 = v10 := q10
  have e11 : u 11 = v11 := q11
  have e12 : u 12 = v12 := q12
  have e13 : u 13 = v13 := q13
  have e14 : u 14 = v14 := q14
  have e15 : u 15 = v15 := q15
  have e16 : u 16 = v16 := q16
  have e17 : u 17 = .slice (some ⟨b, of, none⟩) ln cp := q17
  have e18 : u 18 = .int .i64 (k : Int) := q18
  have e19 : u 19 = v19 := q19
  have e72 : u 72 = v72 := q72
  rw [e0, e1, e2, e6, e7, e8, e10, e11, e12, e13, e14, e15, e16, e17, e18, e19, e72]
  clear q0 e0 q1 e1 q2 e2 q6 e6 q7 e7 q8 e8 q10 e10 q11 e11 q12 e12 q13 e13 q14 e14 q15 e15 q16 e16 q17 e17 q18 e18 q19 e19 q72 e72 hs1
  simp only [Try.f3, Option.getD_some, regOf] at hc
  injection hc with hc
  subst hc
  generalize u 3 = u3
  generalize u 4 = u4
  generalize u 5 = u5
  generalize u 9 = u9
  generalize u 20 = u20
  generalize u 21 = u21
  generalize u 22 = u22
  generalize u 23 = u23
  generalize u 24 = u24
  generalize u 25 = u25
  generalize u 26 = u26
  generalize u 27 = u27
  generalize u 28 = u28
  generalize u 29 = u29
  generalize u 30 = u30
  generalize u 31 = u31
  generalize u 32 = u32
  generalize u 33 = u33
  generalize u 34 = u34
  generalize u 35 = u35
  generalize u 36 = u36
  generalize u 37 = u37
  generalize u 38 = u38
  generalize u 39 = u39
  generalize u 40 = u40
  generalize u 41 = u41
  generalize u 42 = u42
  generalize u 43 = u43
  generalize u 44 = u44
  generalize u 45 = u45
  generalize u 46 = u46
  generalize u 47 = u47
  generalize u 48 = u48
  generalize u 49 = u49
  generalize u 50 = u50
  generalize u 51 = u51
  generalize u 52 = u52
  generalize u 53 = u53
  generalize u 54 = u54
  generalize u 55 = u55
  generalize u 56 = u56
  generalize u 57 = u57
  generalize u 58 = u58
  generalize u 59 = u59
  generalize u 60 = u60
  generalize u 61 = u61
  generalize u 62 = u62
  generalize u 63 = u63
  generalize u 64 = u64
  generalize u 65 = u65
  generalize u 66 = u66
  generalize u 67 = u67
  generalize u 68 = u68
  generalize u 69 = u69
  generalize u 70 = u70
  generalize u 71 = u71
  generalize u 73 = u73
  generalize u 74 = u74
  generalize u 75 = u75
  generalize u 76 = u76
  generalize u 77 = u77
  generalize u 78 = u78
  generalize u 79 = u79
  generalize u 80 = u80
  generalize u 81 = u81
  generalize u 82 = u82
  generalize u 83 = u83
  generalize u 84 = u84
  generalize u 85 = u85
  generalize u 86 = u86
  generalize u 87 = u87
  generalize u 88 = u88
  generalize u 89 = u89
  generalize u 90 = u90
  generalize u 91 = u91
  generalize u 92 = u92
  generalize u 93 = u93
  generalize u 94 = u94
  generalize u 95 = u95
  generalize u 96 = u96
  generalize u 97 = u97
  generalize u 98 = u98
  generalize u 99 = u99
  generalize u 100 = u100
  generalize u 101 = u101
  generalize u 102 = u102
  generalize u 103 = u103
  generalize u 104 = u104
  generalize u 105 = u105
  generalize u 106 = u106
  generalize u 107 = u107
  generalize u 108 = u108
  generalize u 109 = u109
  generalize u 110 = u110
  generalize u 111 = u111
  generalize u 112 = u112
  generalize u 113 = u113
  generalize u 114 = u114
  generalize u 115 = u115
  generalize u 116 = u116
  generalize u 117 = u117
  generalize u 118 = u118
  generalize u 119 = u119
  generalize u 120 = u120
  generalize u 121 = u121
  generalize u 122 = u122
  generalize u 123 = u123
  generalize u 124 = u124
  generalize u 125 = u125
  generalize u 126 = u126
  generalize u 127 = u127
  generalize u 128 = u128
  generalize u 129 = u129
  generalize u 130 = u130
  generalize u 131 = u131
  generalize u 132 = u132
  generalize u 133 = u133
  generalize u 134 = u134
  generalize u 135 = u135
  generalize u 136 = u136
  generalize u 137 = u137
  generalize u 138 = u138
  generalize u 139 = u139
  generalize u 140 = u140
  generalize u 141 = u141
  generalize u 142 = u142
  generalize u 143 = u143
  generalize u 144 = u144
  generalize u 145 = u145
  generalize u 146 = u146
  generalize u 147 = u147
  generalize u 148 = u148
  generalize u 149 = u149
  generalize u 150 = u150
  generalize u 151 = u151
  generalize u 152 = u152
  generalize u 153 = u153
  generalize u 154 = u154
  generalize u 155 = u155
  generalize u 156 = u156
  generalize u 157 = u157
  generalize u 158 = u158
  generalize u 159 = u159
  generalize u 160 = u160
  generalize u 161 = u161
  generalize u 162 = u162
  generalize u 163 = u163
  generalize u 164 = u164
  generalize u 165 = u165
  generalize u 166 = u166
  generalize u 167 = u167
  generalize u 168 = u168
  generalize u 169 = u169
  generalize u 170 = u170
  generalize u 171 = u171
  generalize u 172 = u172
  generalize u 173 = u173
  generalize u 174 = u174
  generalize u 175 = u175
  generalize u 176 = u176
  generalize u 177 = u177
  generalize u 178 = u178
  generalize u 179 = u179
  generalize u 180 = u180
  generalize u 181 = u181
  generalize u 182 = u182
  generalize u 183 = u183
  generalize u 184 = u184
  generalize u 185 = u185
  generalize u 186 = u186
  generalize u 187 = u187
  generalize u 188 = u188
  clear u
  have e1 : (k : Int) < (ln : Int) := by omega
  go_wp2
  exact HQ.out _ ⟨rfl, rfl, rfl, rfl, rfl, rfl, rfl, rfl, rfl, rfl, rfl, rfl, rfl, rfl, rfl, rfl, rfl, rfl, rfl⟩
set_option maxHeartbeats 8000000 in
set_option maxRecDepth 100000 in
theorem ri_r38 {K : Act → World → Prop} {c : Code} (hc : regOf (Try.f3.body.getD .skip) 38 = some c) (a : Act) {v : Vri} {wq : World} {sb : Nat} {xn xt yn yt : ByteArray} {xc xx yc yx cd : Int} {db : Nat} {m : Int} (hF : Fri a v) (h11v : v.v11 = .pointer (some ⟨sb, 0, none⟩)) (h15v : v.v15 = .pointer (some ⟨db, 0, none⟩)) (hD : wq.cell? ⟨db, 1, none⟩ = some (.int .i64 m)) (hS : wq.heap[sb]? = some (.cells #[.string xn, .string xt, .int .i64 xc, .int .i64 xx] 33 (0, 0))) (hE : Calls Try.prog 16 #[.agg #[.string xn, .string xt, .int .i64 xc, .int .i64 xx], .int .i64 m] wq fun e w' => e = .returned (.tuple #[.agg #[.string yn, .string yt, .int .i64 yc, .int .i64 yx], .int .i64 cd]) ∧ Below wq.heap.size wq w')
    (hQ : ∀ a' w1, Fri a' v → Below wq.heap.size wq w1 → K a' (set4 w1 sb (.string yn) (.string yt) (.int .i64 yc) (.int .i64 yx))) :
    Code.wp Try.prog c (Exit.then K fun _ _ _ => False) a wq := by
  have HQ := hide hQ
  clear hQ
  obtain ⟨t', d'⟩ := a
  obtain ⟨v0, v1, v2, v6, v7, v8, v10, v11, v12, v13, v14, v15, v16, v17, v18, v19, v72⟩ := v
  simp only at h11v h15v HQ
  subst h11v h15v
  obtain ⟨hs1, hd1, q0, q1, q2, q6, q7, q8, q10, q11, q12, q13, q14, q15, q16, q17, q18, q19, q72⟩ := hF
  obtain ⟨u, hu⟩ := frame_ri t' hs1
  simp only at hd1 q0 q1 q2 q6 q7 q8 q10 q11 q12 q13 q14 q15 q16 q17 q18 q19 q72
  subst hu hd1
  have e0 : u 0 = v0 := q0
  have e1 : u 1 = v1 := q1
  have e2 : u 2 = v2 := q2
  have e6 : u 6 = v6 := q6
  have e7 : u 7 = v7 := q7
  have e8 : u 8 = v8 := q8
  have e10 : u 10 = v10 := q10
  have e11 : u 11 = .pointer (some ⟨sb, 0, none⟩) := q11
  have e12 : u 12 = v12 := q12
  have e13 : u 13 = v13 := q13
  have e14 : u 14 = v14 := q14
  have e15 : u 15 = .pointer (some ⟨db, 0, none⟩) := q15
  have e16 : u 16 = v16 := q16
  have e17 : u 17 = v17 := q17
  have e18 : u 18 = v18 := q18
  have e19 : u 19 = v19 := q19
  have e72 : u 72 = v72 := q72
  rw [e0, e1, e2, e6, e7, e8, e10, e11, e12, e13, e14, e15, e16, e17, e18, e19, e72]
  clear q0 e0 q1 e1 q2 e2 q6 e6 q7 e7 q8 e8 q10 e10 q11 e11 q12 e12 q13 e13 q14 e14 q15 e15 q16 e16 q17 e17 q18 e18 q19 e19 q72 e72 hs1
  simp only [Try.f3, Option.getD_some, regOf] at hc
  injection hc with hc
  subst hc
  generalize u 3 = u3
  generalize u 4 = u4
  generalize u 5 = u5
  generalize u 9 = u9
  generalize u 20 = u20
  generalize u 21 = u21
  generalize u 22 = u22
  generalize u 23 = u23
  generalize u 24 = u24
  generalize u 25 = u25
  generalize u 26 = u26
  generalize u 27 = u27
  generalize u 28 = u28
  generalize u 29 = u29
  generalize u 30 = u30
  generalize u 31 = u31
  generalize u 32 = u32
  generalize u 33 = u33
  generalize u 34 = u34
  generalize u 35 = u35
  generalize u 36 = u36
  generalize u 37 = u37
  generalize u 38 = u38
  generalize u 39 = u39
  generalize u 40 = u40
  generalize u 41 = u41
  generalize u 42 = u42
  generalize u 43 = u43
  generalize u 44 = u44
  generalize u 45 = u45
  generalize u 46 = u46
  generalize u 47 = u47
  generalize u 48 = u48
  generalize u 49 = u49
  generalize u 50 = u50
  generalize u 51 = u51
  generalize u 52 = u52
  generalize u 53 = u53
  generalize u 54 = u54
  generalize u 55 = u55
  generalize u 56 = u56
  generalize u 57 = u57
  generalize u 58 = u58
  generalize u 59 = u59
  generalize u 60 = u60
  generalize u 61 = u61
  generalize u 62 = u62
  generalize u 63 = u63
  generalize u 64 = u64
  generalize u 65 = u65
  generalize u 66 = u66
  generalize u 67 = u67
  generalize u 68 = u68
  generalize u 69 = u69
  generalize u 70 = u70
  generalize u 71 = u71
  generalize u 73 = u73
  generalize u 74 = u74
  generalize u 75 = u75
  generalize u 76 = u76
  generalize u 77 = u77
  generalize u 78 = u78
  generalize u 79 = u79
  generalize u 80 = u80
  generalize u 81 = u81
  generalize u 82 = u82
  generalize u 83 = u83
  generalize u 84 = u84
  generalize u 85 = u85
  generalize u 86 = u86
  generalize u 87 = u87
  generalize u 88 = u88
  generalize u 89 = u89
  generalize u 90 = u90
  generalize u 91 = u91
  generalize u 92 = u92
  generalize u 93 = u93
  generalize u 94 = u94
  generalize u 95 = u95
  generalize u 96 = u96
  generalize u 97 = u97
  generalize u 98 = u98
  generalize u 99 = u99
  generalize u 100 = u100
  generalize u 101 = u101
  generalize u 102 = u102
  generalize u 103 = u103
  generalize u 104 = u104
  generalize u 105 = u105
  generalize u 106 = u106
  generalize u 107 = u107
  generalize u 108 = u108
  generalize u 109 = u109
  generalize u 110 = u110
  generalize u 111 = u111
  generalize u 112 = u112
  generalize u 113 = u113
  generalize u 114 = u114
  generalize u 115 = u115
  generalize u 116 = u116
  generalize u 117 = u117
  generalize u 118 = u118
  generalize u 119 = u119
  generalize u 120 = u120
  generalize u 121 = u121
  generalize u 122 = u122
  generalize u 123 = u123
  generalize u 124 = u124
  generalize u 125 = u125
  generalize u 126 = u126
  generalize u 127 = u127
  generalize u 128 = u128
  generalize u 129 = u129
  generalize u 130 = u130
  generalize u 131 = u131
  generalize u 132 = u132
  generalize u 133 = u133
  generalize u 134 = u134
  generalize u 135 = u135
  generalize u 136 = u136
  generalize u 137 = u137
  generalize u 138 = u138
  generalize u 139 = u139
  generalize u 140 = u140
  generalize u 141 = u141
  generalize u 142 = u142
  generalize u 143 = u143
  generalize u 144 = u144
  generalize u 145 = u145
  generalize u 146 = u146
  generalize u 147 = u147
  generalize u 148 = u148
  generalize u 149 = u149
  generalize u 150 = u150
  generalize u 151 = u151
  generalize u 152 = u152
  generalize u 153 = u153
  generalize u 154 = u154
  generalize u 155 = u155
  generalize u 156 = u156
  generalize u 157 = u157
  generalize u 158 = u158
  generalize u 159 = u159
  generalize u 160 = u160
  generalize u 161 = u161
  generalize u 162 = u162
  generalize u 163 = u163
  generalize u 164 = u164
  generalize u 165 = u165
  generalize u 166 = u166
  generalize u 167 = u167
  generalize u 168 = u168
  generalize u 169 = u169
  generalize u 170 = u170
  generalize u 171 = u171
  generalize u 172 = u172
  generalize u 173 = u173
  generalize u 174 = u174
  generalize u 175 = u175
  generalize u 176 = u176
  generalize u 177 = u177
  generalize u 178 = u178
  generalize u 179 = u179
  generalize u 180 = u180
  generalize u 181 = u181
  generalize u 182 = u182
  generalize u 183 = u183
  generalize u 184 = u184
  generalize u 185 = u185
  generalize u 186 = u186
  generalize u 187 = u187
  generalize u 188 = u188
  clear u
  have HE := hide hE
  have HS := hide hS
  obtain ⟨⟨c0, c1, c2, c3⟩, _⟩ := box4 hS
  unfold set4 at HQ
  clear hE hS
  go_wp2_with (go_at_call 16; refine HE.out.mono ?_; rintro e w1 ⟨rfl, b1⟩; have hR2 := Below.at b1 HS.out; obtain ⟨⟨d0, d1, d2, d3⟩, f0, f1, f2, f3⟩ := box4 hR2; have B1 := hide b1; clear b1 hR2 c0 c1 c2 c3)
  exact HQ.out _ _ ⟨rfl, rfl, rfl, rfl, rfl, rfl, rfl, rfl, rfl, rfl, rfl, rfl, rfl, rfl, rfl, rfl, rfl, rfl, rfl⟩ B1.out
set_option maxHeartbeats 8000000 in
set_option maxRecDepth 100000 in
theorem ri_r40 {K : Act → World → Prop} {c : Code} (hc : regOf (Try.f3.body.getD .skip) 40 = some c) (a : Act) {v : Vri} {wq : World}  (hF : Fri a v) (hQ : ∀ a', Fri a' { v with v19 := .int .i64 0 } → K a' wq) :
    Code.wp Try.prog c (Exit.then K fun _ _ _ => False) a wq := by
  have HQ := hide hQ
  clear hQ
  obtain ⟨t', d'⟩ := a
  obtain ⟨v0, v1, v2, v6, v7, v8, v10, v11, v12, v13, v14, v15, v16, v17, v18, v19, v72⟩ := v
  obtain ⟨hs1, hd1, q0, q1, q2, q6, q7, q8, q10, q11, q12, q13, q14, q15, q16, q17, q18, q19, q72⟩ := hF
  obtain ⟨u, hu⟩ := frame_ri t' hs1
  simp only at hd1 q0 q1 q2 q6 q7 q8 q10 q11 q12 q13 q14 q15 q16 q17 q18 q19 q72
  subst hu hd1
  have e0 : u 0 = v0 := q0
  have e1 : u 1 = v1 := q1
  have e2 : u 2 = v2 := q2
  have e6 : u 6 = v6 := q6
  have e7 : u 7 = v7 := q7
  have e8 : u 8 = v8 := q8
  have e10 : u 10 = v10 := q10
  have e11 : u 11 = v11 := q11
  have e12 : u 12 = v12 := q12
  have e13 : u 13 = v13 := q13
  have e14 : u 14 = v14 := q14
  have e15 : u 15 = v15 := q15
  have e16 : u 16 = v16 := q16
  have e17 : u 17 = v17 := q17
  have e18 : u 18 = v18 := q18
  have e19 : u 19 = v19 := q19
  have e72 : u 72 = v72 := q72
  rw [e0, e1, e2, e6, e7, e8, e10, e11, e12, e13, e14, e15, e16, e17, e18, e19, e72]
  clear q0 e0 q1 e1 q2 e2 q6 e6 q7 e7 q8 e8 q10 e10 q11 e11 q12 e12 q13 e13 q14 e14 q15 e15 q16 e16 q17 e17 q18 e18 q19 e19 q72 e72 hs1
  simp only [Try.f3, Option.getD_some, regOf] at hc
  injection hc with hc
  subst hc
  generalize u 3 = u3
  generalize u 4 = u4
  generalize u 5 = u5
  generalize u 9 = u9
  generalize u 20 = u20
  generalize u 21 = u21
  generalize u 22 = u22
  generalize u 23 = u23
  generalize u 24 = u24
  generalize u 25 = u25
  generalize u 26 = u26
  generalize u 27 = u27
  generalize u 28 = u28
  generalize u 29 = u29
  generalize u 30 = u30
  generalize u 31 = u31
  generalize u 32 = u32
  generalize u 33 = u33
  generalize u 34 = u34
  generalize u 35 = u35
  generalize u 36 = u36
  generalize u 37 = u37
  generalize u 38 = u38
  generalize u 39 = u39
  generalize u 40 = u40
  generalize u 41 = u41
  generalize u 42 = u42
  generalize u 43 = u43
  generalize u 44 = u44
  generalize u 45 = u45
  generalize u 46 = u46
  generalize u 47 = u47
  generalize u 48 = u48
  generalize u 49 = u49
  generalize u 50 = u50
  generalize u 51 = u51
  generalize u 52 = u52
  generalize u 53 = u53
  generalize u 54 = u54
  generalize u 55 = u55
  generalize u 56 = u56
  generalize u 57 = u57
  generalize u 58 = u58
  generalize u 59 = u59
  generalize u 60 = u60
  generalize u 61 = u61
  generalize u 62 = u62
  generalize u 63 = u63
  generalize u 64 = u64
  generalize u 65 = u65
  generalize u 66 = u66
  generalize u 67 = u67
  generalize u 68 = u68
  generalize u 69 = u69
  generalize u 70 = u70
  generalize u 71 = u71
  generalize u 73 = u73
  generalize u 74 = u74
  generalize u 75 = u75
  generalize u 76 = u76
  generalize u 77 = u77
  generalize u 78 = u78
  generalize u 79 = u79
  generalize u 80 = u80
  generalize u 81 = u81
  generalize u 82 = u82
  generalize u 83 = u83
  generalize u 84 = u84
  generalize u 85 = u85
  generalize u 86 = u86
  generalize u 87 = u87
  generalize u 88 = u88
  generalize u 89 = u89
  generalize u 90 = u90
  generalize u 91 = u91
  generalize u 92 = u92
  generalize u 93 = u93
  generalize u 94 = u94
  generalize u 95 = u95
  generalize u 96 = u96
  generalize u 97 = u97
  generalize u 98 = u98
  generalize u 99 = u99
  generalize u 100 = u100
  generalize u 101 = u101
  generalize u 102 = u102
  generalize u 103 = u103
  generalize u 104 = u104
  generalize u 105 = u105
  generalize u 106 = u106
  generalize u 107 = u107
  generalize u 108 = u108
  generalize u 109 = u109
  generalize u 110 = u110
  generalize u 111 = u111
  generalize u 112 = u112
  generalize u 113 = u113
  generalize u 114 = u114
  generalize u 115 = u115
  generalize u 116 = u116
  generalize u 117 = u117
  generalize u 118 = u118
  generalize u 119 = u119
  generalize u 120 = u120
  generalize u 121 = u121
  generalize u 122 = u122
  generalize u 123 = u123
  generalize u 124 = u124
  generalize u 125 = u125
  generalize u 126 = u126
  generalize u 127 = u127
  generalize u 128 = u128
  generalize u 129 = u129
  generalize u 130 = u130
  generalize u 131 = u131
  generalize u 132 = u132
  generalize u 133 = u133
  generalize u 134 = u134
  generalize u 135 = u135
  generalize u 136 = u136
  generalize u 137 = u137
  generalize u 138 = u138
  generalize u 139 = u139
  generalize u 140 = u140
  generalize u 141 = u141
  generalize u 142 = u142
  generalize u 143 = u143
  generalize u 144 = u144
  generalize u 145 = u145
  generalize u 146 = u146
  generalize u 147 = u147
  generalize u 148 = u148
  generalize u 149 = u149
  generalize u 150 = u150
  generalize u 151 = u151
  generalize u 152 = u152
  generalize u 153 = u153
  generalize u 154 = u154
  generalize u 155 = u155
  generalize u 156 = u156
  generalize u 157 = u157
  generalize u 158 = u158
  generalize u 159 = u159
  generalize u 160 = u160
  generalize u 161 = u161
  generalize u 162 = u162
  generalize u 163 = u163
  generalize u 164 = u164
  generalize u 165 = u165
  generalize u 166 = u166
  generalize u 167 = u167
  generalize u 168 = u168
  generalize u 169 = u169
  generalize u 170 = u170
  generalize u 171 = u171
  generalize u 172 = u172
  generalize u 173 = u173
  generalize u 174 = u174
  generalize u 175 = u175
  generalize u 176 = u176
  generalize u 177 = u177
  generalize u 178 = u178
  generalize u 179 = u179
  generalize u 180 = u180
  generalize u 181 = u181
  generalize u 182 = u182
  generalize u 183 = u183
  generalize u 184 = u184
  generalize u 185 = u185
  generalize u 186 = u186
  generalize u 187 = u187
  generalize u 188 = u188
  clear u
  go_wp2
  exact HQ.out _ ⟨rfl, rfl, rfl, rfl, rfl, rfl, rfl, rfl, rfl, rfl, rfl, rfl, rfl, rfl, rfl, rfl, rfl, rfl, rfl⟩
set_option maxHeartbeats 8000000 in
set_option maxRecDepth 100000 in
theorem ri_r41 {K : Act → World → Prop} {c : Code} (hc : regOf (Try.f3.body.getD .skip) 41 = some c) (a : Act) {v : Vri} {wq : World} {sb : Nat} {xn xt yn yt : ByteArray} {xc xx yc yx cd : Int} {L : LOC} {db : Nat} {m : Int} (hF : Fri a v) (h11v : v.v11 = .pointer (some ⟨sb, 0, none⟩)) (h8v : v.v8 = .pointer (some ⟨L.b, 0, none⟩)) (h15v : v.v15 = .pointer (some ⟨db, 0, none⟩)) (hD : wq.cell? ⟨db, 1, none⟩ = some (.int .i64 m)) (hS : wq.heap[sb]? = some (.cells #[.string xn, .string xt, .int .i64 xc, .int .i64 xx] 33 (0, 0))) (hE : Calls Try.prog 17 #[.agg #[.string xn, .string xt, .int .i64 xc, .int .i64 xx], .pointer (some ⟨L.b, 0, none⟩), .int .i64 m] wq fun e w' => e = .returned (.tuple #[.agg #[.string yn, .string yt, .int .i64 yc, .int .i64 yx], .int .i64 cd]) ∧ Below wq.heap.size wq w')
    (hQ : ∀ a' w1, Fri a' { v with v19 := .int .i64 cd } → Below wq.heap.size wq w1 → K a' (set4 w1 sb (.string yn) (.string yt) (.int .i64 yc) (.int .i64 yx))) :
    Code.wp Try.prog c (Exit.then K fun _ _ _ => False) a wq := by
  have HQ := hide hQ
  clear hQ
  obtain ⟨t', d'⟩ := a
  obtain ⟨v0, v1, v2, v6, v7, v8, v10, v11, v12, v13, v14, v15, v16, v17, v18, v19, v72⟩ := v
  simp only at h11v h8v h15v HQ
  subst h11v h8v h15v
  obtain ⟨hs1, hd1, q0, q1, q2, q6, q7, q8, q10, q11, q12, q13, q14, q15, q16, q17, q18, q19, q72⟩ := hF
  obtain ⟨u, hu⟩ := frame_ri t' hs1
  simp only at hd1 q0 q1 q2 q6 q7 q8 q10 q11 q12 q13 q14 q15 q16 q17 q18 q19 q72
  subst hu hd1
  have e0 : u 0 = v0 := q0
  have e1 : u 1 = v1 := q1
  have e2 : u 2 = v2 := q2
  have e6 : u 6 = v6 := q6
  have e7 : u 7 = v7 := q7
  have e8 : u 8 = .pointer (some ⟨L.b, 0, none⟩) := q8
  have e10 : u 10 = v10 := q10
  have e11 : u 11 = .pointer (some ⟨sb, 0, none⟩) := q11
  have e12 : u 12 = v12 := q12
  have e13 : u 13 = v13 := q13
  have e14 : u 14 = v14 := q14
  have e15 : u 15 = .pointer (some ⟨db, 0, none⟩) := q15
  have e16 : u 16 = v16 := q16
  have e17 : u 17 = v17 := q17
  have e18 : u 18 = v18 := q18
  have e19 : u 19 = v19 := q19
  have e72 : u 72 = v72 := q72
  rw [e0, e1, e2, e6, e7, e8, e10, e11, e12, e13, e14, e15, e16, e17, e18, e19, e72]
  clear q0 e0 q1 e1 q2 e2 q6 e6 q7 e7 q8 e8 q10 e10 q11 e11 q12 e12 q13 e13 q14 e14 q15 e15 q16 e16 q17 e17 q18 e18 q19 e19 q72 e72 hs1
  simp only [Try.f3, Option.getD_some, regOf] at hc
  injection hc with hc
  subst hc
  generalize u 3 = u3
  generalize u 4 = u4
  generalize u 5 = u5
  generalize u 9 = u9
  generalize u 20 = u20
  generalize u 21 = u21
  generalize u 22 = u22
  generalize u 23 = u23
  generalize u 24 = u24
  generalize u 25 = u25
  generalize u 26 = u26
  generalize u 27 = u27
  generalize u 28 = u28
  generalize u 29 = u29
  generalize u 30 = u30
  generalize u 31 = u31
  generalize u 32 = u32
  generalize u 33 = u33
  generalize u 34 = u34
  generalize u 35 = u35
  generalize u 36 = u36
  generalize u 37 = u37
  generalize u 38 = u38
  generalize u 39 = u39
  generalize u 40 = u40
  generalize u 41 = u41
  generalize u 42 = u42
  generalize u 43 = u43
  generalize u 44 = u44
  generalize u 45 = u45
  generalize u 46 = u46
  generalize u 47 = u47
  generalize u 48 = u48
  generalize u 49 = u49
  generalize u 50 = u50
  generalize u 51 = u51
  generalize u 52 = u52
  generalize u 53 = u53
  generalize u 54 = u54
  generalize u 55 = u55
  generalize u 56 = u56
  generalize u 57 = u57
  generalize u 58 = u58
  generalize u 59 = u59
  generalize u 60 = u60
  generalize u 61 = u61
  generalize u 62 = u62
  generalize u 63 = u63
  generalize u 64 = u64
  generalize u 65 = u65
  generalize u 66 = u66
  generalize u 67 = u67
  generalize u 68 = u68
  generalize u 69 = u69
  generalize u 70 = u70
  generalize u 71 = u71
  generalize u 73 = u73
  generalize u 74 = u74
  generalize u 75 = u75
  generalize u 76 = u76
  generalize u 77 = u77
  generalize u 78 = u78
  generalize u 79 = u79
  generalize u 80 = u80
  generalize u 81 = u81
  generalize u 82 = u82
  generalize u 83 = u83
  generalize u 84 = u84
  generalize u 85 = u85
  generalize u 86 = u86
  generalize u 87 = u87
  generalize u 88 = u88
  generalize u 89 = u89
  generalize u 90 = u90
  generalize u 91 = u91
  generalize u 92 = u92
  generalize u 93 = u93
  generalize u 94 = u94
  generalize u 95 = u95
  generalize u 96 = u96
  generalize u 97 = u97
  generalize u 98 = u98
  generalize u 99 = u99
  generalize u 100 = u100
  generalize u 101 = u101
  generalize u 102 = u102
  generalize u 103 = u103
  generalize u 104 = u104
  generalize u 105 = u105
  generalize u 106 = u106
  generalize u 107 = u107
  generalize u 108 = u108
  generalize u 109 = u109
  generalize u 110 = u110
  generalize u 111 = u111
  generalize u 112 = u112
  generalize u 113 = u113
  generalize u 114 = u114
  generalize u 115 = u115
  generalize u 116 = u116
  generalize u 117 = u117
  generalize u 118 = u118
  generalize u 119 = u119
  generalize u 120 = u120
  generalize u 121 = u121
  generalize u 122 = u122
  generalize u 123 = u123
  generalize u 124 = u124
  generalize u 125 = u125
  generalize u 126 = u126
  generalize u 127 = u127
  generalize u 128 = u128
  generalize u 129 = u129
  generalize u 130 = u130
  generalize u 131 = u131
  generalize u 132 = u132
  generalize u 133 = u133
  generalize u 134 = u134
  generalize u 135 = u135
  generalize u 136 = u136
  generalize u 137 = u137
  generalize u 138 = u138
  generalize u 139 = u139
  generalize u 140 = u140
  generalize u 141 = u141
  generalize u 142 = u142
  generalize u 143 = u143
  generalize u 144 = u144
  generalize u 145 = u145
  generalize u 146 = u146
  generalize u 147 = u147
  generalize u 148 = u148
  generalize u 149 = u149
  generalize u 150 = u150
  generalize u 151 = u151
  generalize u 152 = u152
  generalize u 153 = u153
  generalize u 154 = u154
  generalize u 155 = u155
  generalize u 156 = u156
  generalize u 157 = u157
  generalize u 158 = u158
  generalize u 159 = u159
  generalize u 160 = u160
  generalize u 161 = u161
  generalize u 162 = u162
  generalize u 163 = u163
  generalize u 164 = u164
  generalize u 165 = u165
  generalize u 166 = u166
  generalize u 167 = u167
  generalize u 168 = u168
  generalize u 169 = u169
  generalize u 170 = u170
  generalize u 171 = u171
  generalize u 172 = u172
  generalize u 173 = u173
  generalize u 174 = u174
  generalize u 175 = u175
  generalize u 176 = u176
  generalize u 177 = u177
  generalize u 178 = u178
  generalize u 179 = u179
  generalize u 180 = u180
  generalize u 181 = u181
  generalize u 182 = u182
  generalize u 183 = u183
  generalize u 184 = u184
  generalize u 185 = u185
  generalize u 186 = u186
  generalize u 187 = u187
  generalize u 188 = u188
  clear u
  have HE := hide hE
  have HS := hide hS
  obtain ⟨⟨c0, c1, c2, c3⟩, _⟩ := box4 hS
  unfold set4 at HQ
  clear hE hS
  go_wp2_with (go_at_call 17; refine HE.out.mono ?_; rintro e w1 ⟨rfl, b1⟩; have hR2 := Below.at b1 HS.out; obtain ⟨⟨d0, d1, d2, d3⟩, f0, f1, f2, f3⟩ := box4 hR2; have B1 := hide b1; clear b1 hR2 c0 c1 c2 c3)
  exact HQ.out _ _ ⟨rfl, rfl, rfl, rfl, rfl, rfl, rfl, rfl, rfl, rfl, rfl, rfl, rfl, rfl, rfl, rfl, rfl, rfl, rfl⟩ B1.out
set_option maxHeartbeats 8000000 in
set_option maxRecDepth 100000 in
theorem ri_r42 {K : Act → World → Prop} {c : Code} (hc : regOf (Try.f3.body.getD .skip) 42 = some c) (a : Act) {v : Vri} {wq : World} {cd : Int} (hF : Fri a v) (h19v : v.v19 = .int .i64 cd) (hQ : ∀ a', Fri a' v → a'.tmps.getD 164 undef = .bool (cd == 0) → K a' wq) :
    Code.wp Try.prog c (Exit.then K fun _ _ _ => False) a wq := by
  have HQ := hide hQ
  clear hQ
  obtain ⟨t', d'⟩ := a
  obtain ⟨v0, v1, v2, v6, v7, v8, v10, v11, v12, v13, v14, v15, v16, v17, v18, v19, v72⟩ := v
  simp only at h19v HQ
  subst h19v
  obtain ⟨hs1, hd1, q0, q1, q2, q6, q7, q8, q10, q11, q12, q13, q14, q15, q16, q17, q18, q19, q72⟩ := hF
  obtain ⟨u, hu⟩ := frame_ri t' hs1
  simp only at hd1 q0 q1 q2 q6 q7 q8 q10 q11 q12 q13 q14 q15 q16 q17 q18 q19 q72
  subst hu hd1
  have e0 : u 0 = v0 := q0
  have e1 : u 1 = v1 := q1
  have e2 : u 2 = v2 := q2
  have e6 : u 6 = v6 := q6
  have e7 : u 7 = v7 := q7
  have e8 : u 8 = v8 := q8
  have e10 : u 10 = v10 := q10
  have e11 : u 11 = v11 := q11
  have e12 : u 12 = v12 := q12
  have e13 : u 13 = v13 := q13
  have e14 : u 14 = v14 := q14
  have e15 : u 15 = v15 := q15
  have e16 : u 16 = v16 := q16
  have e17 : u 17 = v17 := q17
  have e18 : u 18 = v18 := q18
  have e19 : u 19 = .int .i64 cd := q19
  have e72 : u 72 = v72 := q72
  rw [e0, e1, e2, e6, e7, e8, e10, e11, e12, e13, e14, e15, e16, e17, e18, e19, e72]
  clear q0 e0 q1 e1 q2 e2 q6 e6 q7 e7 q8 e8 q10 e10 q11 e11 q12 e12 q13 e13 q14 e14 q15 e15 q16 e16 q17 e17 q18 e18 q19 e19 q72 e72 hs1
  simp only [Try.f3, Option.getD_some, regOf] at hc
  injection hc with hc
  subst hc
  generalize u 3 = u3
  generalize u 4 = u4
  generalize u 5 = u5
  generalize u 9 = u9
  generalize u 20 = u20
  generalize u 21 = u21
  generalize u 22 = u22
  generalize u 23 = u23
  generalize u 24 = u24
  generalize u 25 = u25
  generalize u 26 = u26
  generalize u 27 = u27
  generalize u 28 = u28
  generalize u 29 = u29
  generalize u 30 = u30
  generalize u 31 = u31
  generalize u 32 = u32
  generalize u 33 = u33
  generalize u 34 = u34
  generalize u 35 = u35
  generalize u 36 = u36
  generalize u 37 = u37
  generalize u 38 = u38
  generalize u 39 = u39
  generalize u 40 = u40
  generalize u 41 = u41
  generalize u 42 = u42
  generalize u 43 = u43
  generalize u 44 = u44
  generalize u 45 = u45
  generalize u 46 = u46
  generalize u 47 = u47
  generalize u 48 = u48
  generalize u 49 = u49
  generalize u 50 = u50
  generalize u 51 = u51
  generalize u 52 = u52
  generalize u 53 = u53
  generalize u 54 = u54
  generalize u 55 = u55
  generalize u 56 = u56
  generalize u 57 = u57
  generalize u 58 = u58
  generalize u 59 = u59
  generalize u 60 = u60
  generalize u 61 = u61
  generalize u 62 = u62
  generalize u 63 = u63
  generalize u 64 = u64
  generalize u 65 = u65
  generalize u 66 = u66
  generalize u 67 = u67
  generalize u 68 = u68
  generalize u 69 = u69
  generalize u 70 = u70
  generalize u 71 = u71
  generalize u 73 = u73
  generalize u 74 = u74
  generalize u 75 = u75
  generalize u 76 = u76
  generalize u 77 = u77
  generalize u 78 = u78
  generalize u 79 = u79
  generalize u 80 = u80
  generalize u 81 = u81
  generalize u 82 = u82
  generalize u 83 = u83
  generalize u 84 = u84
  generalize u 85 = u85
  generalize u 86 = u86
  generalize u 87 = u87
  generalize u 88 = u88
  generalize u 89 = u89
  generalize u 90 = u90
  generalize u 91 = u91
  generalize u 92 = u92
  generalize u 93 = u93
  generalize u 94 = u94
  generalize u 95 = u95
  generalize u 96 = u96
  generalize u 97 = u97
  generalize u 98 = u98
  generalize u 99 = u99
  generalize u 100 = u100
  generalize u 101 = u101
  generalize u 102 = u102
  generalize u 103 = u103
  generalize u 104 = u104
  generalize u 105 = u105
  generalize u 106 = u106
  generalize u 107 = u107
  generalize u 108 = u108
  generalize u 109 = u109
  generalize u 110 = u110
  generalize u 111 = u111
  generalize u 112 = u112
  generalize u 113 = u113
  generalize u 114 = u114
  generalize u 115 = u115
  generalize u 116 = u116
  generalize u 117 = u117
  generalize u 118 = u118
  generalize u 119 = u119
  generalize u 120 = u120
  generalize u 121 = u121
  generalize u 122 = u122
  generalize u 123 = u123
  generalize u 124 = u124
  generalize u 125 = u125
  generalize u 126 = u126
  generalize u 127 = u127
  generalize u 128 = u128
  generalize u 129 = u129
  generalize u 130 = u130
  generalize u 131 = u131
  generalize u 132 = u132
  generalize u 133 = u133
  generalize u 134 = u134
  generalize u 135 = u135
  generalize u 136 = u136
  generalize u 137 = u137
  generalize u 138 = u138
  generalize u 139 = u139
  generalize u 140 = u140
  generalize u 141 = u141
  generalize u 142 = u142
  generalize u 143 = u143
  generalize u 144 = u144
  generalize u 145 = u145
  generalize u 146 = u146
  generalize u 147 = u147
  generalize u 148 = u148
  generalize u 149 = u149
  generalize u 150 = u150
  generalize u 151 = u151
  generalize u 152 = u152
  generalize u 153 = u153
  generalize u 154 = u154
  generalize u 155 = u155
  generalize u 156 = u156
  generalize u 157 = u157
  generalize u 158 = u158
  generalize u 159 = u159
  generalize u 160 = u160
  generalize u 161 = u161
  generalize u 162 = u162
  generalize u 163 = u163
  generalize u 164 = u164
  generalize u 165 = u165
  generalize u 166 = u166
  generalize u 167 = u167
  generalize u 168 = u168
  generalize u 169 = u169
  generalize u 170 = u170
  generalize u 171 = u171
  generalize u 172 = u172
  generalize u 173 = u173
  generalize u 174 = u174
  generalize u 175 = u175
  generalize u 176 = u176
  generalize u 177 = u177
  generalize u 178 = u178
  generalize u 179 = u179
  generalize u 180 = u180
  generalize u 181 = u181
  generalize u 182 = u182
  generalize u 183 = u183
  generalize u 184 = u184
  generalize u 185 = u185
  generalize u 186 = u186
  generalize u 187 = u187
  generalize u 188 = u188
  clear u
  go_wp2
  exact HQ.out _ ⟨rfl, rfl, rfl, rfl, rfl, rfl, rfl, rfl, rfl, rfl, rfl, rfl, rfl, rfl, rfl, rfl, rfl, rfl, rfl⟩ (by first | rfl | (simp; done))
set_option maxHeartbeats 8000000 in
set_option maxRecDepth 100000 in
theorem ri_r43 {K : Act → World → Prop} {c : Code} (hc : regOf (Try.f3.body.getD .skip) 43 = some c) (a : Act) {v : Vri} {wq : World} {db : Nat} {m : Int} (hF : Fri a v) (h15v : v.v15 = .pointer (some ⟨db, 0, none⟩)) (hD : wq.cell? ⟨db, 1, none⟩ = some (.int .i64 m)) (q0 : 0 ≤ m) (q1 : m ≤ 1000000)
    (hQ : ∀ a', Fri a' { v with v13 := .int .i64 (m - 1) } → K a' wq) :
    Code.wp Try.prog c (Exit.then K fun _ _ _ => False) a wq := by
  have HQ := hide hQ
  clear hQ
  obtain ⟨t', d'⟩ := a
  obtain ⟨v0, v1, v2, v6, v7, v8, v10, v11, v12, v13, v14, v15, v16, v17, v18, v19, v72⟩ := v
  simp only at h15v HQ
  subst h15v
  obtain ⟨hs1, hd1, q0, q1, q2, q6, q7, q8, q10, q11, q12, q13, q14, q15, q16, q17, q18, q19, q72⟩ := hF
  obtain ⟨u, hu⟩ := frame_ri t' hs1
  simp only at hd1 q0 q1 q2 q6 q7 q8 q10 q11 q12 q13 q14 q15 q16 q17 q18 q19 q72
  subst hu hd1
  have e0 : u 0 = v0 := q0
  have e1 : u 1 = v1 := q1
  have e2 : u 2 = v2 := q2
  have e6 : u 6 = v6 := q6
  have e7 : u 7 = v7 := q7
  have e8 : u 8 = v8 := q8
  have e10 : u 10 = v10 := q10
  have e11 : u 11 = v11 := q11
  have e12 : u 12 = v12 := q12
  have e13 : u 13 = v13 := q13
  have e14 : u 14 = v14 := q14
  have e15 : u 15 = .pointer (some ⟨db, 0, none⟩) := q15
  have e16 : u 16 = v16 := q16
  have e17 : u 17 = v17 := q17
  have e18 : u 18 = v18 := q18
  have e19 : u 19 = v19 := q19
  have e72 : u 72 = v72 := q72
  rw [e0, e1, e2, e6, e7, e8, e10, e11, e12, e13, e14, e15, e16, e17, e18, e19, e72]
  clear q0 e0 q1 e1 q2 e2 q6 e6 q7 e7 q8 e8 q10 e10 q11 e11 q12 e12 q13 e13 q14 e14 q15 e15 q16 e16 q17 e17 q18 e18 q19 e19 q72 e72 hs1
  simp only [Try.f3, Option.getD_some, regOf] at hc
  injection hc with hc
  subst hc
  generalize u 3 = u3
  generalize u 4 = u4
  generalize u 5 = u5
  generalize u 9 = u9
  generalize u 20 = u20
  generalize u 21 = u21
  generalize u 22 = u22
  generalize u 23 = u23
  generalize u 24 = u24
  generalize u 25 = u25
  generalize u 26 = u26
  generalize u 27 = u27
  generalize u 28 = u28
  generalize u 29 = u29
  generalize u 30 = u30
  generalize u 31 = u31
  generalize u 32 = u32
  generalize u 33 = u33
  generalize u 34 = u34
  generalize u 35 = u35
  generalize u 36 = u36
  generalize u 37 = u37
  generalize u 38 = u38
  generalize u 39 = u39
  generalize u 40 = u40
  generalize u 41 = u41
  generalize u 42 = u42
  generalize u 43 = u43
  generalize u 44 = u44
  generalize u 45 = u45
  generalize u 46 = u46
  generalize u 47 = u47
  generalize u 48 = u48
  generalize u 49 = u49
  generalize u 50 = u50
  generalize u 51 = u51
  generalize u 52 = u52
  generalize u 53 = u53
  generalize u 54 = u54
  generalize u 55 = u55
  generalize u 56 = u56
  generalize u 57 = u57
  generalize u 58 = u58
  generalize u 59 = u59
  generalize u 60 = u60
  generalize u 61 = u61
  generalize u 62 = u62
  generalize u 63 = u63
  generalize u 64 = u64
  generalize u 65 = u65
  generalize u 66 = u66
  generalize u 67 = u67
  generalize u 68 = u68
  generalize u 69 = u69
  generalize u 70 = u70
  generalize u 71 = u71
  generalize u 73 = u73
  generalize u 74 = u74
  generalize u 75 = u75
  generalize u 76 = u76
  generalize u 77 = u77
  generalize u 78 = u78
  generalize u 79 = u79
  generalize u 80 = u80
  generalize u 81 = u81
  generalize u 82 = u82
  generalize u 83 = u83
  generalize u 84 = u84
  generalize u 85 = u85
  generalize u 86 = u86
  generalize u 87 = u87
  generalize u 88 = u88
  generalize u 89 = u89
  generalize u 90 = u90
  generalize u 91 = u91
  generalize u 92 = u92
  generalize u 93 = u93
  generalize u 94 = u94
  generalize u 95 = u95
  generalize u 96 = u96
  generalize u 97 = u97
  generalize u 98 = u98
  generalize u 99 = u99
  generalize u 100 = u100
  generalize u 101 = u101
  generalize u 102 = u102
  generalize u 103 = u103
  generalize u 104 = u104
  generalize u 105 = u105
  generalize u 106 = u106
  generalize u 107 = u107
  generalize u 108 = u108
  generalize u 109 = u109
  generalize u 110 = u110
  generalize u 111 = u111
  generalize u 112 = u112
  generalize u 113 = u113
  generalize u 114 = u114
  generalize u 115 = u115
  generalize u 116 = u116
  generalize u 117 = u117
  generalize u 118 = u118
  generalize u 119 = u119
  generalize u 120 = u120
  generalize u 121 = u121
  generalize u 122 = u122
  generalize u 123 = u123
  generalize u 124 = u124
  generalize u 125 = u125
  generalize u 126 = u126
  generalize u 127 = u127
  generalize u 128 = u128
  generalize u 129 = u129
  generalize u 130 = u130
  generalize u 131 = u131
  generalize u 132 = u132
  generalize u 133 = u133
  generalize u 134 = u134
  generalize u 135 = u135
  generalize u 136 = u136
  generalize u 137 = u137
  generalize u 138 = u138
  generalize u 139 = u139
  generalize u 140 = u140
  generalize u 141 = u141
  generalize u 142 = u142
  generalize u 143 = u143
  generalize u 144 = u144
  generalize u 145 = u145
  generalize u 146 = u146
  generalize u 147 = u147
  generalize u 148 = u148
  generalize u 149 = u149
  generalize u 150 = u150
  generalize u 151 = u151
  generalize u 152 = u152
  generalize u 153 = u153
  generalize u 154 = u154
  generalize u 155 = u155
  generalize u 156 = u156
  generalize u 157 = u157
  generalize u 158 = u158
  generalize u 159 = u159
  generalize u 160 = u160
  generalize u 161 = u161
  generalize u 162 = u162
  generalize u 163 = u163
  generalize u 164 = u164
  generalize u 165 = u165
  generalize u 166 = u166
  generalize u 167 = u167
  generalize u 168 = u168
  generalize u 169 = u169
  generalize u 170 = u170
  generalize u 171 = u171
  generalize u 172 = u172
  generalize u 173 = u173
  generalize u 174 = u174
  generalize u 175 = u175
  generalize u 176 = u176
  generalize u 177 = u177
  generalize u 178 = u178
  generalize u 179 = u179
  generalize u 180 = u180
  generalize u 181 = u181
  generalize u 182 = u182
  generalize u 183 = u183
  generalize u 184 = u184
  generalize u 185 = u185
  generalize u 186 = u186
  generalize u 187 = u187
  generalize u 188 = u188
  clear u
  go_wp2
  exact HQ.out _ ⟨rfl, rfl, rfl, rfl, rfl, rfl, rfl, rfl, rfl, rfl, rfl, rfl, rfl, rfl, rfl, rfl, rfl, rfl, rfl⟩
set_option maxHeartbeats 8000000 in
set_option maxRecDepth 100000 in
theorem ri_r18 {K : Act → World → Prop} {c : Code} (hc : regOf (Try.f3.body.getD .skip) 18 = some c) (a : Act) {v : Vri} {wq : World} {L : LOC} {db : Nat} {m : Int} {R : World → Prop} (hF : Fri a v) (h8v : v.v8 = .pointer (some ⟨L.b, 0, none⟩)) (h15v : v.v15 = .pointer (some ⟨db, 0, none⟩)) (hD : wq.cell? ⟨db, 1, none⟩ = some (.int .i64 m)) (hE : Calls Try.prog 19 #[.pointer (some ⟨L.b, 0, none⟩), .int .i64 m] wq fun e w' => e = .returned (.int .i64 0) ∧ R w')
    (hQ : ∀ a' w', Fri a' v → R w' → K a' w') :
    Code.wp Try.prog c (Exit.then K fun _ _ _ => False) a wq := by
  have HQ := hide hQ
  clear hQ
  obtain ⟨t', d'⟩ := a
  obtain ⟨v0, v1, v2, v6, v7, v8, v10, v11, v12, v13, v14, v15, v16, v17, v18, v19, v72⟩ := v
  simp only at h8v h15v HQ
  subst h8v h15v
  obtain ⟨hs1, hd1, q0, q1, q2, q6, q7, q8, q10, q11, q12, q13, q14, q15, q16, q17, q18, q19, q72⟩ := hF
  obtain ⟨u, hu⟩ := frame_ri t' hs1
  simp only at hd1 q0 q1 q2 q6 q7 q8 q10 q11 q12 q13 q14 q15 q16 q17 q18 q19 q72
  subst hu hd1
  have e0 : u 0 = v0 := q0
  have e1 : u 1 = v1 := q1
  have e2 : u 2 = v2 := q2
  have e6 : u 6 = v6 := q6
  have e7 : u 7 = v7 := q7
  have e8 : u 8 = .pointer (some ⟨L.b, 0, none⟩) := q8
  have e10 : u 10 = v10 := q10
  have e11 : u 11 = v11 := q11
  have e12 : u 12 = v12 := q12
  have e13 : u 13 = v13 := q13
  have e14 : u 14 = v14 := q14
  have e15 : u 15 = .pointer (some ⟨db, 0, none⟩) := q15
  have e16 : u 16 = v16 := q16
  have e17 : u 17 = v17 := q17
  have e18 : u 18 = v18 := q18
  have e19 : u 19 = v19 := q19
  have e72 : u 72 = v72 := q72
  rw [e0, e1, e2, e6, e7, e8, e10, e11, e12, e13, e14, e15, e16, e17, e18, e19, e72]
  clear q0 e0 q1 e1 q2 e2 q6 e6 q7 e7 q8 e8 q10 e10 q11 e11 q12 e12 q13 e13 q14 e14 q15 e15 q16 e16 q17 e17 q18 e18 q19 e19 q72 e72 hs1
  simp only [Try.f3, Option.getD_some, regOf] at hc
  injection hc with hc
  subst hc
  generalize u 3 = u3
  generalize u 4 = u4
  generalize u 5 = u5
  generalize u 9 = u9
  generalize u 20 = u20
  generalize u 21 = u21
  generalize u 22 = u22
  generalize u 23 = u23
  generalize u 24 = u24
  generalize u 25 = u25
  generalize u 26 = u26
  generalize u 27 = u27
  generalize u 28 = u28
  generalize u 29 = u29
  generalize u 30 = u30
  generalize u 31 = u31
  generalize u 32 = u32
  generalize u 33 = u33
  generalize u 34 = u34
  generalize u 35 = u35
  generalize u 36 = u36
  generalize u 37 = u37
  generalize u 38 = u38
  generalize u 39 = u39
  generalize u 40 = u40
  generalize u 41 = u41
  generalize u 42 = u42
  generalize u 43 = u43
  generalize u 44 = u44
  generalize u 45 = u45
  generalize u 46 = u46
  generalize u 47 = u47
  generalize u 48 = u48
  generalize u 49 = u49
  generalize u 50 = u50
  generalize u 51 = u51
  generalize u 52 = u52
  generalize u 53 = u53
  generalize u 54 = u54
  generalize u 55 = u55
  generalize u 56 = u56
  generalize u 57 = u57
  generalize u 58 = u58
  generalize u 59 = u59
  generalize u 60 = u60
  generalize u 61 = u61
  generalize u 62 = u62
  generalize u 63 = u63
  generalize u 64 = u64
  generalize u 65 = u65
  generalize u 66 = u66
  generalize u 67 = u67
  generalize u 68 = u68
  generalize u 69 = u69
  generalize u 70 = u70
  generalize u 71 = u71
  generalize u 73 = u73
  generalize u 74 = u74
  generalize u 75 = u75
  generalize u 76 = u76
  generalize u 77 = u77
  generalize u 78 = u78
  generalize u 79 = u79
  generalize u 80 = u80
  generalize u 81 = u81
  generalize u 82 = u82
  generalize u 83 = u83
  generalize u 84 = u84
  generalize u 85 = u85
  generalize u 86 = u86
  generalize u 87 = u87
  generalize u 88 = u88
  generalize u 89 = u89
  generalize u 90 = u90
  generalize u 91 = u91
  generalize u 92 = u92
  generalize u 93 = u93
  generalize u 94 = u94
  generalize u 95 = u95
  generalize u 96 = u96
  generalize u 97 = u97
  generalize u 98 = u98
  generalize u 99 = u99
  generalize u 100 = u100
  generalize u 101 = u101
  generalize u 102 = u102
  generalize u 103 = u103
  generalize u 104 = u104
  generalize u 105 = u105
  generalize u 106 = u106
  generalize u 107 = u107
  generalize u 108 = u108
  generalize u 109 = u109
  generalize u 110 = u110
  generalize u 111 = u111
  generalize u 112 = u112
  generalize u 113 = u113
  generalize u 114 = u114
  generalize u 115 = u115
  generalize u 116 = u116
  generalize u 117 = u117
  generalize u 118 = u118
  generalize u 119 = u119
  generalize u 120 = u120
  generalize u 121 = u121
  generalize u 122 = u122
  generalize u 123 = u123
  generalize u 124 = u124
  generalize u 125 = u125
  generalize u 126 = u126
  generalize u 127 = u127
  generalize u 128 = u128
  generalize u 129 = u129
  generalize u 130 = u130
  generalize u 131 = u131
  generalize u 132 = u132
  generalize u 133 = u133
  generalize u 134 = u134
  generalize u 135 = u135
  generalize u 136 = u136
  generalize u 137 = u137
  generalize u 138 = u138
  generalize u 139 = u139
  generalize u 140 = u140
  generalize u 141 = u141
  generalize u 142 = u142
  generalize u 143 = u143
  generalize u 144 = u144
  generalize u 145 = u145
  generalize u 146 = u146
  generalize u 147 = u147
  generalize u 148 = u148
  generalize u 149 = u149
  generalize u 150 = u150
  generalize u 151 = u151
  generalize u 152 = u152
  generalize u 153 = u153
  generalize u 154 = u154
  generalize u 155 = u155
  generalize u 156 = u156
  generalize u 157 = u157
  generalize u 158 = u158
  generalize u 159 = u159
  generalize u 160 = u160
  generalize u 161 = u161
  generalize u 162 = u162
  generalize u 163 = u163
  generalize u 164 = u164
  generalize u 165 = u165
  generalize u 166 = u166
  generalize u 167 = u167
  generalize u 168 = u168
  generalize u 169 = u169
  generalize u 170 = u170
  generalize u 171 = u171
  generalize u 172 = u172
  generalize u 173 = u173
  generalize u 174 = u174
  generalize u 175 = u175
  generalize u 176 = u176
  generalize u 177 = u177
  generalize u 178 = u178
  generalize u 179 = u179
  generalize u 180 = u180
  generalize u 181 = u181
  generalize u 182 = u182
  generalize u 183 = u183
  generalize u 184 = u184
  generalize u 185 = u185
  generalize u 186 = u186
  generalize u 187 = u187
  generalize u 188 = u188
  clear u
  have HE := hide hE
  clear hE
  go_wp2_with (go_at_call 19; refine HE.out.mono ?_; rintro e w1 ⟨rfl, r1⟩; have R1 := hide r1; clear r1)
  exact HQ.out _ _ ⟨rfl, rfl, rfl, rfl, rfl, rfl, rfl, rfl, rfl, rfl, rfl, rfl, rfl, rfl, rfl, rfl, rfl, rfl, rfl⟩ R1.out
set_option maxHeartbeats 8000000 in
set_option maxRecDepth 100000 in
theorem ri_r46 {K : Act → World → Prop} {c : Code} (hc : regOf (Try.f3.body.getD .skip) 46 = some c) (a : Act) {v : Vri} {wq : World} {sb : Nat} {xn xt : ByteArray} {xc y : Int} (hF : Fri a v) (h11v : v.v11 = .pointer (some ⟨sb, 0, none⟩)) (h13v : v.v13 = .int .i64 y) (hS : wq.heap[sb]? = some (.cells #[.string xn, .string xt, .int .i64 xc, .int .i64 (y + 1)] 33 (0, 0))) (q0 : -1 ≤ y) (q1 : y ≤ 1000000) (hE : Calls Try.prog 20 #[.agg #[.string xn, .string xt, .int .i64 xc, .int .i64 (y + 1)]] wq fun e w' => e = .returned (.bool true) ∧ Below wq.heap.size wq w')
    (hQ : ∀ a' w', Fri a' v → a'.tmps.getD 187 undef = .bool false → Below wq.heap.size wq w' → K a' w') :
    Code.wp Try.prog c (Exit.then K fun _ _ _ => False) a wq := by
  have HQ := hide hQ
  clear hQ
  obtain ⟨t', d'⟩ := a
  obtain ⟨v0, v1, v2, v6, v7, v8, v10, v11, v12, v13, v14, v15, v16, v17, v18, v19, v72⟩ := v
  simp only at h11v h13v HQ
  subst h11v h13v
  obtain ⟨hs1, hd1, q0, q1, q2, q6, q7, q8, q10, q11, q12, q13, q14, q15, q16, q17, q18, q19, q72⟩ := hF
  obtain ⟨u, hu⟩ := frame_ri t' hs1
  simp only at hd1 q0 q1 q2 q6 q7 q8 q10 q11 q12 q13 q14 q15 q16 q17 q18 q19 q72
  subst hu hd1
  have e0 : u 0 = v0 := q0
  have e1 : u 1 = v1 := q1
  have e2 : u 2 = v2 := q2
  have e6 : u 6 = v6 := q6
  have e7 : u 7 = v7 := q7
  have e8 : u 8 = v8 := q8
  have e10 : u 10 = v10 := q10
  have e11 : u 11 = .pointer (some ⟨sb, 0, none⟩) := q11
  have e12 : u 12 = v12 := q12
  have e13 : u 13 = .int .i64 y := q13
  have e14 : u 14 = v14 := q14
  have e15 : u 15 = v15 := q15
  have e16 : u 16 = v16 := q16
  have e17 : u 17 = v17 := q17
  have e18 : u 18 = v18 := q18
  have e19 : u 19 = v19 := q19
  have e72 : u 72 = v72 := q72
  rw [e0, e1, e2, e6, e7, e8, e10, e11, e12, e13, e14, e15, e16, e17, e18, e19, e72]
  clear q0 e0 q1 e1 q2 e2 q6 e6 q7 e7 q8 e8 q10 e10 q11 e11 q12 e12 q13 e13 q14 e14 q15 e15 q16 e16 q17 e17 q18 e18 q19 e19 q72 e72 hs1
  simp only [Try.f3, Option.getD_some, regOf] at hc
  injection hc with hc
  subst hc
  generalize u 3 = u3
  generalize u 4 = u4
  generalize u 5 = u5
  generalize u 9 = u9
  generalize u 20 = u20
  generalize u 21 = u21
  generalize u 22 = u22
  generalize u 23 = u23
  generalize u 24 = u24
  generalize u 25 = u25
  generalize u 26 = u26
  generalize u 27 = u27
  generalize u 28 = u28
  generalize u 29 = u29
  generalize u 30 = u30
  generalize u 31 = u31
  generalize u 32 = u32
  generalize u 33 = u33
  generalize u 34 = u34
  generalize u 35 = u35
  generalize u 36 = u36
  generalize u 37 = u37
  generalize u 38 = u38
  generalize u 39 = u39
  generalize u 40 = u40
  generalize u 41 = u41
  generalize u 42 = u42
  generalize u 43 = u43
  generalize u 44 = u44
  generalize u 45 = u45
  generalize u 46 = u46
  generalize u 47 = u47
  generalize u 48 = u48
  generalize u 49 = u49
  generalize u 50 = u50
  generalize u 51 = u51
  generalize u 52 = u52
  generalize u 53 = u53
  generalize u 54 = u54
  generalize u 55 = u55
  generalize u 56 = u56
  generalize u 57 = u57
  generalize u 58 = u58
  generalize u 59 = u59
  generalize u 60 = u60
  generalize u 61 = u61
  generalize u 62 = u62
  generalize u 63 = u63
  generalize u 64 = u64
  generalize u 65 = u65
  generalize u 66 = u66
  generalize u 67 = u67
  generalize u 68 = u68
  generalize u 69 = u69
  generalize u 70 = u70
  generalize u 71 = u71
  generalize u 73 = u73
  generalize u 74 = u74
  generalize u 75 = u75
  generalize u 76 = u76
  generalize u 77 = u77
  generalize u 78 = u78
  generalize u 79 = u79
  generalize u 80 = u80
  generalize u 81 = u81
  generalize u 82 = u82
  generalize u 83 = u83
  generalize u 84 = u84
  generalize u 85 = u85
  generalize u 86 = u86
  generalize u 87 = u87
  generalize u 88 = u88
  generalize u 89 = u89
  generalize u 90 = u90
  generalize u 91 = u91
  generalize u 92 = u92
  generalize u 93 = u93
  generalize u 94 = u94
  generalize u 95 = u95
  generalize u 96 = u96
  generalize u 97 = u97
  generalize u 98 = u98
  generalize u 99 = u99
  generalize u 100 = u100
  generalize u 101 = u101
  generalize u 102 = u102
  generalize u 103 = u103
  generalize u 104 = u104
  generalize u 105 = u105
  generalize u 106 = u106
  generalize u 107 = u107
  generalize u 108 = u108
  generalize u 109 = u109
  generalize u 110 = u110
  generalize u 111 = u111
  generalize u 112 = u112
  generalize u 113 = u113
  generalize u 114 = u114
  generalize u 115 = u115
  generalize u 116 = u116
  generalize u 117 = u117
  generalize u 118 = u118
  generalize u 119 = u119
  generalize u 120 = u120
  generalize u 121 = u121
  generalize u 122 = u122
  generalize u 123 = u123
  generalize u 124 = u124
  generalize u 125 = u125
  generalize u 126 = u126
  generalize u 127 = u127
  generalize u 128 = u128
  generalize u 129 = u129
  generalize u 130 = u130
  generalize u 131 = u131
  generalize u 132 = u132
  generalize u 133 = u133
  generalize u 134 = u134
  generalize u 135 = u135
  generalize u 136 = u136
  generalize u 137 = u137
  generalize u 138 = u138
  generalize u 139 = u139
  generalize u 140 = u140
  generalize u 141 = u141
  generalize u 142 = u142
  generalize u 143 = u143
  generalize u 144 = u144
  generalize u 145 = u145
  generalize u 146 = u146
  generalize u 147 = u147
  generalize u 148 = u148
  generalize u 149 = u149
  generalize u 150 = u150
  generalize u 151 = u151
  generalize u 152 = u152
  generalize u 153 = u153
  generalize u 154 = u154
  generalize u 155 = u155
  generalize u 156 = u156
  generalize u 157 = u157
  generalize u 158 = u158
  generalize u 159 = u159
  generalize u 160 = u160
  generalize u 161 = u161
  generalize u 162 = u162
  generalize u 163 = u163
  generalize u 164 = u164
  generalize u 165 = u165
  generalize u 166 = u166
  generalize u 167 = u167
  generalize u 168 = u168
  generalize u 169 = u169
  generalize u 170 = u170
  generalize u 171 = u171
  generalize u 172 = u172
  generalize u 173 = u173
  generalize u 174 = u174
  generalize u 175 = u175
  generalize u 176 = u176
  generalize u 177 = u177
  generalize u 178 = u178
  generalize u 179 = u179
  generalize u 180 = u180
  generalize u 181 = u181
  generalize u 182 = u182
  generalize u 183 = u183
  generalize u 184 = u184
  generalize u 185 = u185
  generalize u 186 = u186
  generalize u 187 = u187
  generalize u 188 = u188
  clear u
  have HE := hide hE
  have HS := hide hS
  obtain ⟨⟨c0, c1, c2, c3⟩, _⟩ := box4 hS
  clear hE hS
  go_wp2_with (go_at_call 20; refine HE.out.mono ?_; rintro e w1 ⟨rfl, b1⟩; have hR2 := Below.at b1 HS.out; obtain ⟨⟨d0, d1, d2, d3⟩, _⟩ := box4 hR2; have B1 := hide b1; clear b1 hR2 c0 c1 c2 c3)
  exact HQ.out _ _ ⟨rfl, rfl, rfl, rfl, rfl, rfl, rfl, rfl, rfl, rfl, rfl, rfl, rfl, rfl, rfl, rfl, rfl, rfl, rfl⟩ (by first | rfl | (simp; done)) B1.out
set_option maxHeartbeats 8000000 in
set_option maxRecDepth 100000 in
theorem ri_r48 {K : Act → World → Prop} {c : Code} (hc : regOf (Try.f3.body.getD .skip) 48 = some c) (a : Act) {v : Vri} {wq : World} {b : Bool} (hF : Fri a v) (h7v : v.v7 = .bool b) (hQ : ∀ a', Fri a' { v with v6 := .bool b } → K a' wq) :
    Code.wp Try.prog c (Exit.then K fun _ _ _ => False) a wq := by
  have HQ := hide hQ
  clear hQ
  obtain ⟨t', d'⟩ := a
  obtain ⟨v0, v1, v2, v6, v7, v8, v10, v11, v12, v13, v14, v15, v16, v17, v18, v19, v72⟩ := v
  simp only at h7v HQ
  subst h7v
  obtain ⟨hs1, hd1, q0, q1, q2, q6, q7, q8, q10, q11, q12, q13, q14, q15, q16, q17, q18, q19, q72⟩ := hF
  obtain ⟨u, hu⟩ := frame_ri t' hs1
  simp only at hd1 q0 q1 q2 q6 q7 q8 q10 q11 q12 q13 q14 q15 q16 q17 q18 q19 q72
  subst hu hd1
  have e0 : u 0 = v0 := q0
  have e1 : u 1 = v1 := q1
  have e2 : u 2 = v2 := q2
  have e6 : u 6 = v6 := q6
  have e7 : u 7 = .bool b := q7
  have e8 : u 8 = v8 := q8
  have e10 : u 10 = v10 := q10
  have e11 : u 11 = v11 := q11
  have e12 : u 12 = v12 := q12
  have e13 : u 13 = v13 := q13
  have e14 : u 14 = v14 := q14
  have e15 : u 15 = v15 := q15
  have e16 : u 16 = v16 := q16
  have e17 : u 17 = v17 := q17
  have e18 : u 18 = v18 := q18
  have e19 : u 19 = v19 := q19
  have e72 : u 72 = v72 := q72
  rw [e0, e1, e2, e6, e7, e8, e10, e11, e12, e13, e14, e15, e16, e17, e18, e19, e72]
  clear q0 e0 q1 e1 q2 e2 q6 e6 q7 e7 q8 e8 q10 e10 q11 e11 q12 e12 q13 e13 q14 e14 q15 e15 q16 e16 q17 e17 q18 e18 q19 e19 q72 e72 hs1
  simp only [Try.f3, Option.getD_some, regOf] at hc
  injection hc with hc
  subst hc
  generalize u 3 = u3
  generalize u 4 = u4
  generalize u 5 = u5
  generalize u 9 = u9
  generalize u 20 = u20
  generalize u 21 = u21
  generalize u 22 = u22
  generalize u 23 = u23
  generalize u 24 = u24
  generalize u 25 = u25
  generalize u 26 = u26
  generalize u 27 = u27
  generalize u 28 = u28
  generalize u 29 = u29
  generalize u 30 = u30
  generalize u 31 = u31
  generalize u 32 = u32
  generalize u 33 = u33
  generalize u 34 = u34
  generalize u 35 = u35
  generalize u 36 = u36
  generalize u 37 = u37
  generalize u 38 = u38
  generalize u 39 = u39
  generalize u 40 = u40
  generalize u 41 = u41
  generalize u 42 = u42
  generalize u 43 = u43
  generalize u 44 = u44
  generalize u 45 = u45
  generalize u 46 = u46
  generalize u 47 = u47
  generalize u 48 = u48
  generalize u 49 = u49
  generalize u 50 = u50
  generalize u 51 = u51
  generalize u 52 = u52
  generalize u 53 = u53
  generalize u 54 = u54
  generalize u 55 = u55
  generalize u 56 = u56
  generalize u 57 = u57
  generalize u 58 = u58
  generalize u 59 = u59
  generalize u 60 = u60
  generalize u 61 = u61
  generalize u 62 = u62
  generalize u 63 = u63
  generalize u 64 = u64
  generalize u 65 = u65
  generalize u 66 = u66
  generalize u 67 = u67
  generalize u 68 = u68
  generalize u 69 = u69
  generalize u 70 = u70
  generalize u 71 = u71
  generalize u 73 = u73
  generalize u 74 = u74
  generalize u 75 = u75
  generalize u 76 = u76
  generalize u 77 = u77
  generalize u 78 = u78
  generalize u 79 = u79
  generalize u 80 = u80
  generalize u 81 = u81
  generalize u 82 = u82
  generalize u 83 = u83
  generalize u 84 = u84
  generalize u 85 = u85
  generalize u 86 = u86
  generalize u 87 = u87
  generalize u 88 = u88
  generalize u 89 = u89
  generalize u 90 = u90
  generalize u 91 = u91
  generalize u 92 = u92
  generalize u 93 = u93
  generalize u 94 = u94
  generalize u 95 = u95
  generalize u 96 = u96
  generalize u 97 = u97
  generalize u 98 = u98
  generalize u 99 = u99
  generalize u 100 = u100
  generalize u 101 = u101
  generalize u 102 = u102
  generalize u 103 = u103
  generalize u 104 = u104
  generalize u 105 = u105
  generalize u 106 = u106
  generalize u 107 = u107
  generalize u 108 = u108
  generalize u 109 = u109
  generalize u 110 = u110
  generalize u 111 = u111
  generalize u 112 = u112
  generalize u 113 = u113
  generalize u 114 = u114
  generalize u 115 = u115
  generalize u 116 = u116
  generalize u 117 = u117
  generalize u 118 = u118
  generalize u 119 = u119
  generalize u 120 = u120
  generalize u 121 = u121
  generalize u 122 = u122
  generalize u 123 = u123
  generalize u 124 = u124
  generalize u 125 = u125
  generalize u 126 = u126
  generalize u 127 = u127
  generalize u 128 = u128
  generalize u 129 = u129
  generalize u 130 = u130
  generalize u 131 = u131
  generalize u 132 = u132
  generalize u 133 = u133
  generalize u 134 = u134
  generalize u 135 = u135
  generalize u 136 = u136
  generalize u 137 = u137
  generalize u 138 = u138
  generalize u 139 = u139
  generalize u 140 = u140
  generalize u 141 = u141
  generalize u 142 = u142
  generalize u 143 = u143
  generalize u 144 = u144
  generalize u 145 = u145
  generalize u 146 = u146
  generalize u 147 = u147
  generalize u 148 = u148
  generalize u 149 = u149
  generalize u 150 = u150
  generalize u 151 = u151
  generalize u 152 = u152
  generalize u 153 = u153
  generalize u 154 = u154
  generalize u 155 = u155
  generalize u 156 = u156
  generalize u 157 = u157
  generalize u 158 = u158
  generalize u 159 = u159
  generalize u 160 = u160
  generalize u 161 = u161
  generalize u 162 = u162
  generalize u 163 = u163
  generalize u 164 = u164
  generalize u 165 = u165
  generalize u 166 = u166
  generalize u 167 = u167
  generalize u 168 = u168
  generalize u 169 = u169
  generalize u 170 = u170
  generalize u 171 = u171
  generalize u 172 = u172
  generalize u 173 = u173
  generalize u 174 = u174
  generalize u 175 = u175
  generalize u 176 = u176
  generalize u 177 = u177
  generalize u 178 = u178
  generalize u 179 = u179
  generalize u 180 = u180
  generalize u 181 = u181
  generalize u 182 = u182
  generalize u 183 = u183
  generalize u 184 = u184
  generalize u 185 = u185
  generalize u 186 = u186
  generalize u 187 = u187
  generalize u 188 = u188
  clear u
  go_wp2
  exact HQ.out _ ⟨rfl, rfl, rfl, rfl, rfl, rfl, rfl, rfl, rfl, rfl, rfl, rfl, rfl, rfl, rfl, rfl, rfl, rfl, rfl⟩
end Go.Proofs.Ytoafjgioknkeiaa.Y
