/-
  LinkAnew: regions of it as they run (mkanew.py).
-/
import Derived.Test.YthgfijmpofbchaaZN0
namespace Go.Proofs.Ythgfijmpofbchaa
open Go.RowKit

attribute [local go_sem ↓] Go.wp_at_zero Go.wp_at_succ
set_option linter.unusedSimpArgs false
set_option linter.unusedVariables false
set_option maxHeartbeats 8000000 in
set_option maxRecDepth 100000 in
theorem anew_r40 {K : Act → World → Prop} {c : Code} (hc : regOf (Try.f4.body.getD .skip) 40 = some c) (a : Act) {v : AV} {wq : World} {b x : Bool} (hF : AF a v) (h18v : v.v18 = .int .i64 (ix x : Int)) (h19v : v.v19 = .bool b) (hQ : ∀ a', AF a' v → a'.tmps.getD 170 undef = .bool (b && !x) → K a' wq) :
    Code.wp Try.prog c (Exit.then K fun _ _ _ => False) a wq := by
  have HQ := hide hQ
  clear hQ
  obtain ⟨t', d'⟩ := a
  obtain ⟨v0, v1, v5, v6, v7, v8, v9, v11, v12, v13, v14, v15, v16, v17, v18, v19, v20, v21, v22, v23, v24, v85⟩ := v
  simp only at h18v h19v HQ
  subst h18v h19v
  obtain ⟨hs1, hd1, q0, q1, q5, q6, q7, q8, q9, q11, q12, q13, q14, q15, q16, q17, q18, q19, q20, q21, q22, q23, q24, q85⟩ := hF
  obtain ⟨u, hu⟩ := frame300 t' hs1
  simp only at hd1 q0 q1 q5 q6 q7 q8 q9 q11 q12 q13 q14 q15 q16 q17 q18 q19 q20 q21 q22 q23 q24 q85
  subst hu hd1
  have e0 : u 0 = v0 := q0
  have e1 : u 1 = v1 := q1
  have e5 : u 5 = v5 := q5
  have e6 : u 6 = v6 := q6
  have e7 : u 7 = v7 := q7
  have e8 : u 8 = v8 := q8
  have e9 : u 9 = v9 := q9
  have e11 : u 11 = v11 := q11
  have e12 : u 12 = v12 := q12
  have e13 : u 13 = v13 := q13
  have e14 : u 14 = v14 := q14
  have e15 : u 15 = v15 := q15
  have e16 : u 16 = v16 := q16
  have e17 : u 17 = v17 := q17
  have e18 : u 18 = .int .i64 (ix x : Int) := q18
  have e19 : u 19 = .bool b := q19
  have e20 : u 20 = v20 := q20
  have e21 : u 21 = v21 := q21
  have e22 : u 22 = v22 := q22
  have e23 : u 23 = v23 := q23
  have e24 : u 24 = v24 := q24
  have e85 : u 85 = v85 := q85
  rw [e0, e1, e5, e6, e7, e8, e9, e11, e12, e13, e14, e15, e16, e17, e18, e19, e20, e21, e22, e23, e24, e85]
  clear q0 e0 q1 e1 q5 e5 q6 e6 q7 e7 q8 e8 q9 e9 q11 e11 q12 e12 q13 e13 q14 e14 q15 e15 q16 e16 q17 e17 q18 e18 q19 e19 q20 e20 q21 e21 q22 e22 q23 e23 q24 e24 q85 e85 hs1
  simp only [Try.f4, Option.getD_some, regOf] at hc
  injection hc with hc
  subst hc
  generalize u 2 = u2
  generalize u 3 = u3
  generalize u 4 = u4
  generalize u 10 = u10
  generalize u 25 = u25
  generalize u 26 = u26
  generalize u 27 = u27
  generalize u 28 = u28
  generalize u 29 = u29
  generalize u 30 = u30
  generalize u 31 = u31
  generalize u 32 = u32
  generalize u 33 = u33
  generalize u 34 = u34
  generalize u 35 = u35
  generalize u 36 = u36
  generalize u 37 = u37
  generalize u 38 = u38
  generalize u 39 = u39
  generalize u 40 = u40
  generalize u 41 = u41
  generalize u 42 = u42
  generalize u 43 = u43
  generalize u 44 = u44
  generalize u 45 = u45
  generalize u 46 = u46
  generalize u 47 = u47
  generalize u 48 = u48
  generalize u 49 = u49
  generalize u 50 = u50
  generalize u 51 = u51
  generalize u 52 = u52
  generalize u 53 = u53
  generalize u 54 = u54
  generalize u 55 = u55
  generalize u 56 = u56
  generalize u 57 = u57
  generalize u 58 = u58
  generalize u 59 = u59
  generalize u 60 = u60
  generalize u 61 = u61
  generalize u 62 = u62
  generalize u 63 = u63
  generalize u 64 = u64
  generalize u 65 = u65
  generalize u 66 = u66
  generalize u 67 = u67
  generalize u 68 = u68
  generalize u 69 = u69
  generalize u 70 = u70
  generalize u 71 = u71
  generalize u 72 = u72
  generalize u 73 = u73
  generalize u 74 = u74
  generalize u 75 = u75
  generalize u 76 = u76
  generalize u 77 = u77
  generalize u 78 = u78
  generalize u 79 = u79
  generalize u 80 = u80
  generalize u 81 = u81
  generalize u 82 = u82
  generalize u 83 = u83
  generalize u 84 = u84
  generalize u 86 = u86
  generalize u 87 = u87
  generalize u 88 = u88
  generalize u 89 = u89
  generalize u 90 = u90
  generalize u 91 = u91
  generalize u 92 = u92
  generalize u 93 = u93
  generalize u 94 = u94
  generalize u 95 = u95
  generalize u 96 = u96
  generalize u 97 = u97
  generalize u 98 = u98
  generalize u 99 = u99
  generalize u 100 = u100
  generalize u 101 = u101
  generalize u 102 = u102
  generalize u 103 = u103
  generalize u 104 = u104
  generalize u 105 = u105
  generalize u 106 = u106
  generalize u 107 = u107
  generalize u 108 = u108
  generalize u 109 = u109
  generalize u 110 = u110
  generalize u 111 = u111
  generalize u 112 = u112
  generalize u 113 = u113
  generalize u 114 = u114
  generalize u 115 = u115
  generalize u 116 = u116
  generalize u 117 = u117
  generalize u 118 = u118
  generalize u 119 = u119
  generalize u 120 = u120
  generalize u 121 = u121
  generalize u 122 = u122
  generalize u 123 = u123
  generalize u 124 = u124
  generalize u 125 = u125
  generalize u 126 = u126
  generalize u 127 = u127
  generalize u 128 = u128
  generalize u 129 = u129
  generalize u 130 = u130
  generalize u 131 = u131
  generalize u 132 = u132
  generalize u 133 = u133
  generalize u 134 = u134
  generalize u 135 = u135
  generalize u 136 = u136
  generalize u 137 = u137
  generalize u 138 = u138
  generalize u 139 = u139
  generalize u 140 = u140
  generalize u 141 = u141
  generalize u 142 = u142
  generalize u 143 = u143
  generalize u 144 = u144
  generalize u 145 = u145
  generalize u 146 = u146
  generalize u 147 = u147
  generalize u 148 = u148
  generalize u 149 = u149
  generalize u 150 = u150
  generalize u 151 = u151
  generalize u 152 = u152
  generalize u 153 = u153
  generalize u 154 = u154
  generalize u 155 = u155
  generalize u 156 = u156
  generalize u 157 = u157
  generalize u 158 = u158
  generalize u 159 = u159
  generalize u 160 = u160
  generalize u 161 = u161
  generalize u 162 = u162
  generalize u 163 = u163
  generalize u 164 = u164
  generalize u 165 = u165
  generalize u 166 = u166
  generalize u 167 = u167
  generalize u 168 = u168
  generalize u 169 = u169
  generalize u 170 = u170
  generalize u 171 = u171
  generalize u 172 = u172
  generalize u 173 = u173
  generalize u 174 = u174
  generalize u 175 = u175
  generalize u 176 = u176
  generalize u 177 = u177
  generalize u 178 = u178
  generalize u 179 = u179
  generalize u 180 = u180
  generalize u 181 = u181
  generalize u 182 = u182
  generalize u 183 = u183
  generalize u 184 = u184
  generalize u 185 = u185
  generalize u 186 = u186
  generalize u 187 = u187
  generalize u 188 = u188
  generalize u 189 = u189
  generalize u 190 = u190
  generalize u 191 = u191
  generalize u 192 = u192
  generalize u 193 = u193
  generalize u 194 = u194
  generalize u 195 = u195
  generalize u 196 = u196
  generalize u 197 = u197
  generalize u 198 = u198
  generalize u 199 = u199
  generalize u 200 = u200
  generalize u 201 = u201
  generalize u 202 = u202
  generalize u 203 = u203
  generalize u 204 = u204
  generalize u 205 = u205
  generalize u 206 = u206
  generalize u 207 = u207
  generalize u 208 = u208
  generalize u 209 = u209
  generalize u 210 = u210
  generalize u 211 = u211
  generalize u 212 = u212
  generalize u 213 = u213
  generalize u 214 = u214
  generalize u 215 = u215
  generalize u 216 = u216
  generalize u 217 = u217
  generalize u 218 = u218
  generalize u 219 = u219
  generalize u 220 = u220
  generalize u 221 = u221
  generalize u 222 = u222
  generalize u 223 = u223
  generalize u 224 = u224
  generalize u 225 = u225
  generalize u 226 = u226
  generalize u 227 = u227
  generalize u 228 = u228
  generalize u 229 = u229
  generalize u 230 = u230
  generalize u 231 = u231
  generalize u 232 = u232
  generalize u 233 = u233
  generalize u 234 = u234
  generalize u 235 = u235
  generalize u 236 = u236
  generalize u 237 = u237
  generalize u 238 = u238
  generalize u 239 = u239
  generalize u 240 = u240
  generalize u 241 = u241
  generalize u 242 = u242
  generalize u 243 = u243
  generalize u 244 = u244
  generalize u 245 = u245
  generalize u 246 = u246
  generalize u 247 = u247
  generalize u 248 = u248
  generalize u 249 = u249
  generalize u 250 = u250
  generalize u 251 = u251
  generalize u 252 = u252
  generalize u 253 = u253
  generalize u 254 = u254
  generalize u 255 = u255
  generalize u 256 = u256
  generalize u 257 = u257
  generalize u 258 = u258
  generalize u 259 = u259
  generalize u 260 = u260
  generalize u 261 = u261
  generalize u 262 = u262
  generalize u 263 = u263
  generalize u 264 = u264
  generalize u 265 = u265
  generalize u 266 = u266
  generalize u 267 = u267
  generalize u 268 = u268
  generalize u 269 = u269
  generalize u 270 = u270
  generalize u 271 = u271
  generalize u 272 = u272
  generalize u 273 = u273
  generalize u 274 = u274
  generalize u 275 = u275
  generalize u 276 = u276
  generalize u 277 = u277
  generalize u 278 = u278
  generalize u 279 = u279
  generalize u 280 = u280
  generalize u 281 = u281
  generalize u 282 = u282
  generalize u 283 = u283
  generalize u 284 = u284
  generalize u 285 = u285
  generalize u 286 = u286
  generalize u 287 = u287
  generalize u 288 = u288
  generalize u 289 = u289
  generalize u 290 = u290
  generalize u 291 = u291
  generalize u 292 = u292
  generalize u 293 = u293
  generalize u 294 = u294
  generalize u 295 = u295
  generalize u 296 = u296
  generalize u 297 = u297
  generalize u 298 = u298
  generalize u 299 = u299
  clear u
  cases b <;> cases x <;> (simp only [ix] at *; go_wp2; exact HQ.out _ ⟨rfl, rfl, rfl, rfl, rfl, rfl, rfl, rfl, rfl, rfl, rfl, rfl, rfl, rfl, rfl, rfl, rfl, rfl, rfl, rfl, rfl, rfl, rfl, rfl⟩ rfl)
set_option maxHeartbeats 8000000 in
set_option maxRecDepth 100000 in
theorem anew_r42 {K : Act → World → Prop} {c : Code} (hc : regOf (Try.f4.body.getD .skip) 42 = some c) (a : Act) {v : AV} {wq : World} {b x : Bool} (hF : AF a v) (h18v : v.v18 = .int .i64 (ix x : Int)) (h19v : v.v19 = .bool b) (hQ : ∀ a', AF a' v → a'.tmps.getD 190 undef = .bool (b && x) → K a' wq) :
    Code.wp Try.prog c (Exit.then K fun _ _ _ => False) a wq := by
  have HQ := hide hQ
  clear hQ
  obtain ⟨t', d'⟩ := a
  obtain ⟨v0, v1, v5, v6, v7, v8, v9, v11, v12, v13, v14, v15, v16, v17, v18, v19, v20, v21, v22, v23, v24, v85⟩ := v
  simp only at h18v h19v HQ
  subst h18v h19v
  obtain ⟨hs1, hd1, q0, q1, q5, q6, q7, q8, q9, q11, q12, q13, q14, q15, q16, q17, q18, q19, q20, q21, q22, q23, q24, q85⟩ := hF
  obtain ⟨u, hu⟩ := frame300 t' hs1
  simp only at hd1 q0 q1 q5 q6 q7 q8 q9 q11 q12 q13 q14 q15 q16 q17 q18 q19 q20 q21 q22 q23 q24 q85
  subst hu hd1
  have e0 : u 0 = v0 := q0
  have e1 : u 1 = v1 := q1
  have e5 : u 5 = v5 := q5
  have e6 : u 6 = v6 := q6
  have e7 : u 7 = v7 := q7
  have e8 : u 8 = v8 := q8
  have e9 : u 9 = v9 := q9
  have e11 : u 11 = v11 := q11
  have e12 : u 12 = v12 := q12
  have e13 : u 13 = v13 := q13
  have e14 : u 14 = v14 := q14
  have e15 : u 15 = v15 := q15
  have e16 : u 16 = v16 := q16
  have e17 : u 17 = v17 := q17
  have e18 : u 18 = .int .i64 (ix x : Int) := q18
  have e19 : u 19 = .bool b := q19
  have e20 : u 20 = v20 := q20
  have e21 : u 21 = v21 := q21
  have e22 : u 22 = v22 := q22
  have e23 : u 23 = v23 := q23
  have e24 : u 24 = v24 := q24
  have e85 : u 85 = v85 := q85
  rw [e0, e1, e5, e6, e7, e8, e9, e11, e12, e13, e14, e15, e16, e17, e18, e19, e20, e21, e22, e23, e24, e85]
  clear q0 e0 q1 e1 q5 e5 q6 e6 q7 e7 q8 e8 q9 e9 q11 e11 q12 e12 q13 e13 q14 e14 q15 e15 q16 e16 q17 e17 q18 e18 q19 e19 q20 e20 q21 e21 q22 e22 q23 e23 q24 e24 q85 e85 hs1
  simp only [Try.f4, Option.getD_some, regOf] at hc
  injection hc with hc
  subst hc
  generalize u 2 = u2
  generalize u 3 = u3
  generalize u 4 = u4
  generalize u 10 = u10
  generalize u 25 = u25
  generalize u 26 = u26
  generalize u 27 = u27
  generalize u 28 = u28
  generalize u 29 = u29
  generalize u 30 = u30
  generalize u 31 = u31
  generalize u 32 = u32
  generalize u 33 = u33
  generalize u 34 = u34
  generalize u 35 = u35
  generalize u 36 = u36
  generalize u 37 = u37
  generalize u 38 = u38
  generalize u 39 = u39
  generalize u 40 = u40
  generalize u 41 = u41
  generalize u 42 = u42
  generalize u 43 = u43
  generalize u 44 = u44
  generalize u 45 = u45
  generalize u 46 = u46
  generalize u 47 = u47
  generalize u 48 = u48
  generalize u 49 = u49
  generalize u 50 = u50
  generalize u 51 = u51
  generalize u 52 = u52
  generalize u 53 = u53
  generalize u 54 = u54
  generalize u 55 = u55
  generalize u 56 = u56
  generalize u 57 = u57
  generalize u 58 = u58
  generalize u 59 = u59
  generalize u 60 = u60
  generalize u 61 = u61
  generalize u 62 = u62
  generalize u 63 = u63
  generalize u 64 = u64
  generalize u 65 = u65
  generalize u 66 = u66
  generalize u 67 = u67
  generalize u 68 = u68
  generalize u 69 = u69
  generalize u 70 = u70
  generalize u 71 = u71
  generalize u 72 = u72
  generalize u 73 = u73
  generalize u 74 = u74
  generalize u 75 = u75
  generalize u 76 = u76
  generalize u 77 = u77
  generalize u 78 = u78
  generalize u 79 = u79
  generalize u 80 = u80
  generalize u 81 = u81
  generalize u 82 = u82
  generalize u 83 = u83
  generalize u 84 = u84
  generalize u 86 = u86
  generalize u 87 = u87
  generalize u 88 = u88
  generalize u 89 = u89
  generalize u 90 = u90
  generalize u 91 = u91
  generalize u 92 = u92
  generalize u 93 = u93
  generalize u 94 = u94
  generalize u 95 = u95
  generalize u 96 = u96
  generalize u 97 = u97
  generalize u 98 = u98
  generalize u 99 = u99
  generalize u 100 = u100
  generalize u 101 = u101
  generalize u 102 = u102
  generalize u 103 = u103
  generalize u 104 = u104
  generalize u 105 = u105
  generalize u 106 = u106
  generalize u 107 = u107
  generalize u 108 = u108
  generalize u 109 = u109
  generalize u 110 = u110
  generalize u 111 = u111
  generalize u 112 = u112
  generalize u 113 = u113
  generalize u 114 = u114
  generalize u 115 = u115
  generalize u 116 = u116
  generalize u 117 = u117
  generalize u 118 = u118
  generalize u 119 = u119
  generalize u 120 = u120
  generalize u 121 = u121
  generalize u 122 = u122
  generalize u 123 = u123
  generalize u 124 = u124
  generalize u 125 = u125
  generalize u 126 = u126
  generalize u 127 = u127
  generalize u 128 = u128
  generalize u 129 = u129
  generalize u 130 = u130
  generalize u 131 = u131
  generalize u 132 = u132
  generalize u 133 = u133
  generalize u 134 = u134
  generalize u 135 = u135
  generalize u 136 = u136
  generalize u 137 = u137
  generalize u 138 = u138
  generalize u 139 = u139
  generalize u 140 = u140
  generalize u 141 = u141
  generalize u 142 = u142
  generalize u 143 = u143
  generalize u 144 = u144
  generalize u 145 = u145
  generalize u 146 = u146
  generalize u 147 = u147
  generalize u 148 = u148
  generalize u 149 = u149
  generalize u 150 = u150
  generalize u 151 = u151
  generalize u 152 = u152
  generalize u 153 = u153
  generalize u 154 = u154
  generalize u 155 = u155
  generalize u 156 = u156
  generalize u 157 = u157
  generalize u 158 = u158
  generalize u 159 = u159
  generalize u 160 = u160
  generalize u 161 = u161
  generalize u 162 = u162
  generalize u 163 = u163
  generalize u 164 = u164
  generalize u 165 = u165
  generalize u 166 = u166
  generalize u 167 = u167
  generalize u 168 = u168
  generalize u 169 = u169
  generalize u 170 = u170
  generalize u 171 = u171
  generalize u 172 = u172
  generalize u 173 = u173
  generalize u 174 = u174
  generalize u 175 = u175
  generalize u 176 = u176
  generalize u 177 = u177
  generalize u 178 = u178
  generalize u 179 = u179
  generalize u 180 = u180
  generalize u 181 = u181
  generalize u 182 = u182
  generalize u 183 = u183
  generalize u 184 = u184
  generalize u 185 = u185
  generalize u 186 = u186
  generalize u 187 = u187
  generalize u 188 = u188
  generalize u 189 = u189
  generalize u 190 = u190
  generalize u 191 = u191
  generalize u 192 = u192
  generalize u 193 = u193
  generalize u 194 = u194
  generalize u 195 = u195
  generalize u 196 = u196
  generalize u 197 = u197
  generalize u 198 = u198
  generalize u 199 = u199
  generalize u 200 = u200
  generalize u 201 = u201
  generalize u 202 = u202
  generalize u 203 = u203
  generalize u 204 = u204
  generalize u 205 = u205
  generalize u 206 = u206
  generalize u 207 = u207
  generalize u 208 = u208
  generalize u 209 = u209
  generalize u 210 = u210
  generalize u 211 = u211
  generalize u 212 = u212
  generalize u 213 = u213
  generalize u 214 = u214
  generalize u 215 = u215
  generalize u 216 = u216
  generalize u 217 = u217
  generalize u 218 = u218
  generalize u 219 = u219
  generalize u 220 = u220
  generalize u 221 = u221
  generalize u 222 = u222
  generalize u 223 = u223
  generalize u 224 = u224
  generalize u 225 = u225
  generalize u 226 = u226
  generalize u 227 = u227
  generalize u 228 = u228
  generalize u 229 = u229
  generalize u 230 = u230
  generalize u 231 = u231
  generalize u 232 = u232
  generalize u 233 = u233
  generalize u 234 = u234
  generalize u 235 = u235
  generalize u 236 = u236
  generalize u 237 = u237
  generalize u 238 = u238
  generalize u 239 = u239
  generalize u 240 = u240
  generalize u 241 = u241
  generalize u 242 = u242
  generalize u 243 = u243
  generalize u 244 = u244
  generalize u 245 = u245
  generalize u 246 = u246
  generalize u 247 = u247
  generalize u 248 = u248
  generalize u 249 = u249
  generalize u 250 = u250
  generalize u 251 = u251
  generalize u 252 = u252
  generalize u 253 = u253
  generalize u 254 = u254
  generalize u 255 = u255
  generalize u 256 = u256
  generalize u 257 = u257
  generalize u 258 = u258
  generalize u 259 = u259
  generalize u 260 = u260
  generalize u 261 = u261
  generalize u 262 = u262
  generalize u 263 = u263
  generalize u 264 = u264
  generalize u 265 = u265
  generalize u 266 = u266
  generalize u 267 = u267
  generalize u 268 = u268
  generalize u 269 = u269
  generalize u 270 = u270
  generalize u 271 = u271
  generalize u 272 = u272
  generalize u 273 = u273
  generalize u 274 = u274
  generalize u 275 = u275
  generalize u 276 = u276
  generalize u 277 = u277
  generalize u 278 = u278
  generalize u 279 = u279
  generalize u 280 = u280
  generalize u 281 = u281
  generalize u 282 = u282
  generalize u 283 = u283
  generalize u 284 = u284
  generalize u 285 = u285
  generalize u 286 = u286
  generalize u 287 = u287
  generalize u 288 = u288
  generalize u 289 = u289
  generalize u 290 = u290
  generalize u 291 = u291
  generalize u 292 = u292
  generalize u 293 = u293
  generalize u 294 = u294
  generalize u 295 = u295
  generalize u 296 = u296
  generalize u 297 = u297
  generalize u 298 = u298
  generalize u 299 = u299
  clear u
  cases b <;> cases x <;> (simp only [ix] at *; go_wp2; exact HQ.out _ ⟨rfl, rfl, rfl, rfl, rfl, rfl, rfl, rfl, rfl, rfl, rfl, rfl, rfl, rfl, rfl, rfl, rfl, rfl, rfl, rfl, rfl, rfl, rfl, rfl⟩ rfl)
set_option maxHeartbeats 8000000 in
set_option maxRecDepth 100000 in
theorem anew_r29 {K : Act → World → Prop} {c : Code} (hc : regOf (Try.f4.body.getD .skip) 29 = some c) (a : Act) {v : AV} {wq : World}  (hF : AF a v) (hQ : ∀ a', AF a' v → a'.tmps.getD 127 undef = v.v22 → K a' wq) :
    Code.wp Try.prog c (Exit.then K fun _ _ _ => False) a wq := by
  have HQ := hide hQ
  clear hQ
  obtain ⟨t', d'⟩ := a
  obtain ⟨v0, v1, v5, v6, v7, v8, v9, v11, v12, v13, v14, v15, v16, v17, v18, v19, v20, v21, v22, v23, v24, v85⟩ := v
  obtain ⟨hs1, hd1, q0, q1, q5, q6, q7, q8, q9, q11, q12, q13, q14, q15, q16, q17, q18, q19, q20, q21, q22, q23, q24, q85⟩ := hF
  obtain ⟨u, hu⟩ := frame300 t' hs1
  simp only at hd1 q0 q1 q5 q6 q7 q8 q9 q11 q12 q13 q14 q15 q16 q17 q18 q19 q20 q21 q22 q23 q24 q85
  subst hu hd1
  have e0 : u 0 = v0 := q0
  have e1 : u 1 = v1 := q1
  have e5 : u 5 = v5 := q5
  have e6 : u 6 = v6 := q6
  have e7 : u 7 = v7 := q7
  have e8 : u 8 = v8 := q8
  have e9 : u 9 = v9 := q9
  have e11 : u 11 = v11 := q11
  have e12 : u 12 = v12 := q12
  have e13 : u 13 = v13 := q13
  have e14 : u 14 = v14 := q14
  have e15 : u 15 = v15 := q15
  have e16 : u 16 = v16 := q16
  have e17 : u 17 = v17 := q17
  have e18 : u 18 = v18 := q18
  have e19 : u 19 = v19 := q19
  have e20 : u 20 = v20 := q20
  have e21 : u 21 = v21 := q21
  have e22 : u 22 = v22 := q22
  have e23 : u 23 = v23 := q23
  have e24 : u 24 = v24 := q24
  have e85 : u 85 = v85 := q85
  rw [e0, e1, e5, e6, e7, e8, e9, e11, e12, e13, e14, e15, e16, e17, e18, e19, e20, e21, e22, e23, e24, e85]
  clear q0 e0 q1 e1 q5 e5 q6 e6 q7 e7 q8 e8 q9 e9 q11 e11 q12 e12 q13 e13 q14 e14 q15 e15 q16 e16 q17 e17 q18 e18 q19 e19 q20 e20 q21 e21 q22 e22 q23 e23 q24 e24 q85 e85 hs1
  simp only [Try.f4, Option.getD_some, regOf] at hc
  injection hc with hc
  subst hc
  generalize u 2 = u2
  generalize u 3 = u3
  generalize u 4 = u4
  generalize u 10 = u10
  generalize u 25 = u25
  generalize u 26 = u26
  generalize u 27 = u27
  generalize u 28 = u28
  generalize u 29 = u29
  generalize u 30 = u30
  generalize u 31 = u31
  generalize u 32 = u32
  generalize u 33 = u33
  generalize u 34 = u34
  generalize u 35 = u35
  generalize u 36 = u36
  generalize u 37 = u37
  generalize u 38 = u38
  generalize u 39 = u39
  generalize u 40 = u40
  generalize u 41 = u41
  generalize u 42 = u42
  generalize u 43 = u43
  generalize u 44 = u44
  generalize u 45 = u45
  generalize u 46 = u46
  generalize u 47 = u47
  generalize u 48 = u48
  generalize u 49 = u49
  generalize u 50 = u50
  generalize u 51 = u51
  generalize u 52 = u52
  generalize u 53 = u53
  generalize u 54 = u54
  generalize u 55 = u55
  generalize u 56 = u56
  generalize u 57 = u57
  generalize u 58 = u58
  generalize u 59 = u59
  generalize u 60 = u60
  generalize u 61 = u61
  generalize u 62 = u62
  generalize u 63 = u63
  generalize u 64 = u64
  generalize u 65 = u65
  generalize u 66 = u66
  generalize u 67 = u67
  generalize u 68 = u68
  generalize u 69 = u69
  generalize u 70 = u70
  generalize u 71 = u71
  generalize u 72 = u72
  generalize u 73 = u73
  generalize u 74 = u74
  generalize u 75 = u75
  generalize u 76 = u76
  generalize u 77 = u77
  generalize u 78 = u78
  generalize u 79 = u79
  generalize u 80 = u80
  generalize u 81 = u81
  generalize u 82 = u82
  generalize u 83 = u83
  generalize u 84 = u84
  generalize u 86 = u86
  generalize u 87 = u87
  generalize u 88 = u88
  generalize u 89 = u89
  generalize u 90 = u90
  generalize u 91 = u91
  generalize u 92 = u92
  generalize u 93 = u93
  generalize u 94 = u94
  generalize u 95 = u95
  generalize u 96 = u96
  generalize u 97 = u97
  generalize u 98 = u98
  generalize u 99 = u99
  generalize u 100 = u100
  generalize u 101 = u101
  generalize u 102 = u102
  generalize u 103 = u103
  generalize u 104 = u104
  generalize u 105 = u105
  generalize u 106 = u106
  generalize u 107 = u107
  generalize u 108 = u108
  generalize u 109 = u109
  generalize u 110 = u110
  generalize u 111 = u111
  generalize u 112 = u112
  generalize u 113 = u113
  generalize u 114 = u114
  generalize u 115 = u115
  generalize u 116 = u116
  generalize u 117 = u117
  generalize u 118 = u118
  generalize u 119 = u119
  generalize u 120 = u120
  generalize u 121 = u121
  generalize u 122 = u122
  generalize u 123 = u123
  generalize u 124 = u124
  generalize u 125 = u125
  generalize u 126 = u126
  generalize u 127 = u127
  generalize u 128 = u128
  generalize u 129 = u129
  generalize u 130 = u130
  generalize u 131 = u131
  generalize u 132 = u132
  generalize u 133 = u133
  generalize u 134 = u134
  generalize u 135 = u135
  generalize u 136 = u136
  generalize u 137 = u137
  generalize u 138 = u138
  generalize u 139 = u139
  generalize u 140 = u140
  generalize u 141 = u141
  generalize u 142 = u142
  generalize u 143 = u143
  generalize u 144 = u144
  generalize u 145 = u145
  generalize u 146 = u146
  generalize u 147 = u147
  generalize u 148 = u148
  generalize u 149 = u149
  generalize u 150 = u150
  generalize u 151 = u151
  generalize u 152 = u152
  generalize u 153 = u153
  generalize u 154 = u154
  generalize u 155 = u155
  generalize u 156 = u156
  generalize u 157 = u157
  generalize u 158 = u158
  generalize u 159 = u159
  generalize u 160 = u160
  generalize u 161 = u161
  generalize u 162 = u162
  generalize u 163 = u163
  generalize u 164 = u164
  generalize u 165 = u165
  generalize u 166 = u166
  generalize u 167 = u167
  generalize u 168 = u168
  generalize u 169 = u169
  generalize u 170 = u170
  generalize u 171 = u171
  generalize u 172 = u172
  generalize u 173 = u173
  generalize u 174 = u174
  generalize u 175 = u175
  generalize u 176 = u176
  generalize u 177 = u177
  generalize u 178 = u178
  generalize u 179 = u179
  generalize u 180 = u180
  generalize u 181 = u181
  generalize u 182 = u182
  generalize u 183 = u183
  generalize u 184 = u184
  generalize u 185 = u185
  generalize u 186 = u186
  generalize u 187 = u187
  generalize u 188 = u188
  generalize u 189 = u189
  generalize u 190 = u190
  generalize u 191 = u191
  generalize u 192 = u192
  generalize u 193 = u193
  generalize u 194 = u194
  generalize u 195 = u195
  generalize u 196 = u196
  generalize u 197 = u197
  generalize u 198 = u198
  generalize u 199 = u199
  generalize u 200 = u200
  generalize u 201 = u201
  generalize u 202 = u202
  generalize u 203 = u203
  generalize u 204 = u204
  generalize u 205 = u205
  generalize u 206 = u206
  generalize u 207 = u207
  generalize u 208 = u208
  generalize u 209 = u209
  generalize u 210 = u210
  generalize u 211 = u211
  generalize u 212 = u212
  generalize u 213 = u213
  generalize u 214 = u214
  generalize u 215 = u215
  generalize u 216 = u216
  generalize u 217 = u217
  generalize u 218 = u218
  generalize u 219 = u219
  generalize u 220 = u220
  generalize u 221 = u221
  generalize u 222 = u222
  generalize u 223 = u223
  generalize u 224 = u224
  generalize u 225 = u225
  generalize u 226 = u226
  generalize u 227 = u227
  generalize u 228 = u228
  generalize u 229 = u229
  generalize u 230 = u230
  generalize u 231 = u231
  generalize u 232 = u232
  generalize u 233 = u233
  generalize u 234 = u234
  generalize u 235 = u235
  generalize u 236 = u236
  generalize u 237 = u237
  generalize u 238 = u238
  generalize u 239 = u239
  generalize u 240 = u240
  generalize u 241 = u241
  generalize u 242 = u242
  generalize u 243 = u243
  generalize u 244 = u244
  generalize u 245 = u245
  generalize u 246 = u246
  generalize u 247 = u247
  generalize u 248 = u248
  generalize u 249 = u249
  generalize u 250 = u250
  generalize u 251 = u251
  generalize u 252 = u252
  generalize u 253 = u253
  generalize u 254 = u254
  generalize u 255 = u255
  generalize u 256 = u256
  generalize u 257 = u257
  generalize u 258 = u258
  generalize u 259 = u259
  generalize u 260 = u260
  generalize u 261 = u261
  generalize u 262 = u262
  generalize u 263 = u263
  generalize u 264 = u264
  generalize u 265 = u265
  generalize u 266 = u266
  generalize u 267 = u267
  generalize u 268 = u268
  generalize u 269 = u269
  generalize u 270 = u270
  generalize u 271 = u271
  generalize u 272 = u272
  generalize u 273 = u273
  generalize u 274 = u274
  generalize u 275 = u275
  generalize u 276 = u276
  generalize u 277 = u277
  generalize u 278 = u278
  generalize u 279 = u279
  generalize u 280 = u280
  generalize u 281 = u281
  generalize u 282 = u282
  generalize u 283 = u283
  generalize u 284 = u284
  generalize u 285 = u285
  generalize u 286 = u286
  generalize u 287 = u287
  generalize u 288 = u288
  generalize u 289 = u289
  generalize u 290 = u290
  generalize u 291 = u291
  generalize u 292 = u292
  generalize u 293 = u293
  generalize u 294 = u294
  generalize u 295 = u295
  generalize u 296 = u296
  generalize u 297 = u297
  generalize u 298 = u298
  generalize u 299 = u299
  clear u
  go_wp2
  exact HQ.out _ ⟨rfl, rfl, rfl, rfl, rfl, rfl, rfl, rfl, rfl, rfl, rfl, rfl, rfl, rfl, rfl, rfl, rfl, rfl, rfl, rfl, rfl, rfl, rfl, rfl⟩ rfl
set_option maxHeartbeats 8000000 in
set_option maxRecDepth 100000 in
theorem anew_r30 {K : Act → World → Prop} {c : Code} (hc : regOf (Try.f4.body.getD .skip) 30 = some c) (a : Act) {v : AV} {wq : World} {n : Nat} (hF : AF a v) (h13v : v.v13 = .int .i64 (n : Int)) (hn : n ≤ 1000000) (hQ : ∀ a', AF a' { v with v13 := .int .i64 ((n + 1 : Nat) : Int) } → K a' wq) :
    Code.wp Try.prog c (Exit.then K fun _ _ _ => False) a wq := by
  have HQ := hide hQ
  clear hQ
  obtain ⟨t', d'⟩ := a
  obtain ⟨v0, v1, v5, v6, v7, v8, v9, v11, v12, v13, v14, v15, v16, v17, v18, v19, v20, v21, v22, v23, v24, v85⟩ := v
  simp only at h13v HQ
  subst h13v
  obtain ⟨hs1, hd1, q0, q1, q5, q6, q7, q8, q9, q11, q12, q13, q14, q15, q16, q17, q18, q19, q20, q21, q22, q23, q24, q85⟩ := hF
  obtain ⟨u, hu⟩ := frame300 t' hs1
  simp only at hd1 q0 q1 q5 q6 q7 q8 q9 q11 q12 q13 q14 q15 q16 q17 q18 q19 q20 q21 q22 q23 q24 q85
  subst hu hd1
  have e0 : u 0 = v0 := q0
  have e1 : u 1 = v1 := q1
  have e5 : u 5 = v5 := q5
  have e6 : u 6 = v6 := q6
  have e7 : u 7 = v7 := q7
  have e8 : u 8 = v8 := q8
  have e9 : u 9 = v9 := q9
  have e11 : u 11 = v11 := q11
  have e12 : u 12 = v12 := q12
  have e13 : u 13 = .int .i64 (n : Int) := q13
  have e14 : u 14 = v14 := q14
  have e15 : u 15 = v15 := q15
  have e16 : u 16 = v16 := q16
  have e17 : u 17 = v17 := q17
  have e18 : u 18 = v18 := q18
  have e19 : u 19 = v19 := q19
  have e20 : u 20 = v20 := q20
  have e21 : u 21 = v21 := q21
  have e22 : u 22 = v22 := q22
  have e23 : u 23 = v23 := q23
  have e24 : u 24 = v24 := q24
  have e85 : u 85 = v85 := q85
  rw [e0, e1, e5, e6, e7, e8, e9, e11, e12, e13, e14, e15, e16, e17, e18, e19, e20, e21, e22, e23, e24, e85]
  clear q0 e0 q1 e1 q5 e5 q6 e6 q7 e7 q8 e8 q9 e9 q11 e11 q12 e12 q13 e13 q14 e14 q15 e15 q16 e16 q17 e17 q18 e18 q19 e19 q20 e20 q21 e21 q22 e22 q23 e23 q24 e24 q85 e85 hs1
  simp only [Try.f4, Option.getD_some, regOf] at hc
  injection hc with hc
  subst hc
  generalize u 2 = u2
  generalize u 3 = u3
  generalize u 4 = u4
  generalize u 10 = u10
  generalize u 25 = u25
  generalize u 26 = u26
  generalize u 27 = u27
  generalize u 28 = u28
  generalize u 29 = u29
  generalize u 30 = u30
  generalize u 31 = u31
  generalize u 32 = u32
  generalize u 33 = u33
  generalize u 34 = u34
  generalize u 35 = u35
  generalize u 36 = u36
  generalize u 37 = u37
  generalize u 38 = u38
  generalize u 39 = u39
  generalize u 40 = u40
  generalize u 41 = u41
  generalize u 42 = u42
  generalize u 43 = u43
  generalize u 44 = u44
  generalize u 45 = u45
  generalize u 46 = u46
  generalize u 47 = u47
  generalize u 48 = u48
  generalize u 49 = u49
  generalize u 50 = u50
  generalize u 51 = u51
  generalize u 52 = u52
  generalize u 53 = u53
  generalize u 54 = u54
  generalize u 55 = u55
  generalize u 56 = u56
  generalize u 57 = u57
  generalize u 58 = u58
  generalize u 59 = u59
  generalize u 60 = u60
  generalize u 61 = u61
  generalize u 62 = u62
  generalize u 63 = u63
  generalize u 64 = u64
  generalize u 65 = u65
  generalize u 66 = u66
  generalize u 67 = u67
  generalize u 68 = u68
  generalize u 69 = u69
  generalize u 70 = u70
  generalize u 71 = u71
  generalize u 72 = u72
  generalize u 73 = u73
  generalize u 74 = u74
  generalize u 75 = u75
  generalize u 76 = u76
  generalize u 77 = u77
  generalize u 78 = u78
  generalize u 79 = u79
  generalize u 80 = u80
  generalize u 81 = u81
  generalize u 82 = u82
  generalize u 83 = u83
  generalize u 84 = u84
  generalize u 86 = u86
  generalize u 87 = u87
  generalize u 88 = u88
  generalize u 89 = u89
  generalize u 90 = u90
  generalize u 91 = u91
  generalize u 92 = u92
  generalize u 93 = u93
  generalize u 94 = u94
  generalize u 95 = u95
  generalize u 96 = u96
  generalize u 97 = u97
  generalize u 98 = u98
  generalize u 99 = u99
  generalize u 100 = u100
  generalize u 101 = u101
  generalize u 102 = u102
  generalize u 103 = u103
  generalize u 104 = u104
  generalize u 105 = u105
  generalize u 106 = u106
  generalize u 107 = u107
  generalize u 108 = u108
  generalize u 109 = u109
  generalize u 110 = u110
  generalize u 111 = u111
  generalize u 112 = u112
  generalize u 113 = u113
  generalize u 114 = u114
  generalize u 115 = u115
  generalize u 116 = u116
  generalize u 117 = u117
  generalize u 118 = u118
  generalize u 119 = u119
  generalize u 120 = u120
  generalize u 121 = u121
  generalize u 122 = u122
  generalize u 123 = u123
  generalize u 124 = u124
  generalize u 125 = u125
  generalize u 126 = u126
  generalize u 127 = u127
  generalize u 128 = u128
  generalize u 129 = u129
  generalize u 130 = u130
  generalize u 131 = u131
  generalize u 132 = u132
  generalize u 133 = u133
  generalize u 134 = u134
  generalize u 135 = u135
  generalize u 136 = u136
  generalize u 137 = u137
  generalize u 138 = u138
  generalize u 139 = u139
  generalize u 140 = u140
  generalize u 141 = u141
  generalize u 142 = u142
  generalize u 143 = u143
  generalize u 144 = u144
  generalize u 145 = u145
  generalize u 146 = u146
  generalize u 147 = u147
  generalize u 148 = u148
  generalize u 149 = u149
  generalize u 150 = u150
  generalize u 151 = u151
  generalize u 152 = u152
  generalize u 153 = u153
  generalize u 154 = u154
  generalize u 155 = u155
  generalize u 156 = u156
  generalize u 157 = u157
  generalize u 158 = u158
  generalize u 159 = u159
  generalize u 160 = u160
  generalize u 161 = u161
  generalize u 162 = u162
  generalize u 163 = u163
  generalize u 164 = u164
  generalize u 165 = u165
  generalize u 166 = u166
  generalize u 167 = u167
  generalize u 168 = u168
  generalize u 169 = u169
  generalize u 170 = u170
  generalize u 171 = u171
  generalize u 172 = u172
  generalize u 173 = u173
  generalize u 174 = u174
  generalize u 175 = u175
  generalize u 176 = u176
  generalize u 177 = u177
  generalize u 178 = u178
  generalize u 179 = u179
  generalize u 180 = u180
  generalize u 181 = u181
  generalize u 182 = u182
  generalize u 183 = u183
  generalize u 184 = u184
  generalize u 185 = u185
  generalize u 186 = u186
  generalize u 187 = u187
  generalize u 188 = u188
  generalize u 189 = u189
  generalize u 190 = u190
  generalize u 191 = u191
  generalize u 192 = u192
  generalize u 193 = u193
  generalize u 194 = u194
  generalize u 195 = u195
  generalize u 196 = u196
  generalize u 197 = u197
  generalize u 198 = u198
  generalize u 199 = u199
  generalize u 200 = u200
  generalize u 201 = u201
  generalize u 202 = u202
  generalize u 203 = u203
  generalize u 204 = u204
  generalize u 205 = u205
  generalize u 206 = u206
  generalize u 207 = u207
  generalize u 208 = u208
  generalize u 209 = u209
  generalize u 210 = u210
  generalize u 211 = u211
  generalize u 212 = u212
  generalize u 213 = u213
  generalize u 214 = u214
  generalize u 215 = u215
  generalize u 216 = u216
  generalize u 217 = u217
  generalize u 218 = u218
  generalize u 219 = u219
  generalize u 220 = u220
  generalize u 221 = u221
  generalize u 222 = u222
  generalize u 223 = u223
  generalize u 224 = u224
  generalize u 225 = u225
  generalize u 226 = u226
  generalize u 227 = u227
  generalize u 228 = u228
  generalize u 229 = u229
  generalize u 230 = u230
  generalize u 231 = u231
  generalize u 232 = u232
  generalize u 233 = u233
  generalize u 234 = u234
  generalize u 235 = u235
  generalize u 236 = u236
  generalize u 237 = u237
  generalize u 238 = u238
  generalize u 239 = u239
  generalize u 240 = u240
  generalize u 241 = u241
  generalize u 242 = u242
  generalize u 243 = u243
  generalize u 244 = u244
  generalize u 245 = u245
  generalize u 246 = u246
  generalize u 247 = u247
  generalize u 248 = u248
  generalize u 249 = u249
  generalize u 250 = u250
  generalize u 251 = u251
  generalize u 252 = u252
  generalize u 253 = u253
  generalize u 254 = u254
  generalize u 255 = u255
  generalize u 256 = u256
  generalize u 257 = u257
  generalize u 258 = u258
  generalize u 259 = u259
  generalize u 260 = u260
  generalize u 261 = u261
  generalize u 262 = u262
  generalize u 263 = u263
  generalize u 264 = u264
  generalize u 265 = u265
  generalize u 266 = u266
  generalize u 267 = u267
  generalize u 268 = u268
  generalize u 269 = u269
  generalize u 270 = u270
  generalize u 271 = u271
  generalize u 272 = u272
  generalize u 273 = u273
  generalize u 274 = u274
  generalize u 275 = u275
  generalize u 276 = u276
  generalize u 277 = u277
  generalize u 278 = u278
  generalize u 279 = u279
  generalize u 280 = u280
  generalize u 281 = u281
  generalize u 282 = u282
  generalize u 283 = u283
  generalize u 284 = u284
  generalize u 285 = u285
  generalize u 286 = u286
  generalize u 287 = u287
  generalize u 288 = u288
  generalize u 289 = u289
  generalize u 290 = u290
  generalize u 291 = u291
  generalize u 292 = u292
  generalize u 293 = u293
  generalize u 294 = u294
  generalize u 295 = u295
  generalize u 296 = u296
  generalize u 297 = u297
  generalize u 298 = u298
  generalize u 299 = u299
  clear u
  have hj1 : ((n + 1 : Nat) : Int) = (n : Int) + 1 := by omega
  rw [hj1] at HQ
  clear hj1
  go_wp2
  exact HQ.out _ ⟨rfl, rfl, rfl, rfl, rfl, rfl, rfl, rfl, rfl, rfl, rfl, rfl, rfl, rfl, rfl, rfl, rfl, rfl, rfl, rfl, rfl, rfl, rfl, rfl⟩
set_option maxHeartbeats 8000000 in
set_option maxRecDepth 100000 in
theorem anew_r22 {K : Act → World → Prop} {c : Code} (hc : regOf (Try.f4.body.getD .skip) 22 = some c) (a : Act) {v : AV} {wq : World} {n : Nat} (hF : AF a v) (h16v : v.v16 = .int .i64 (n : Int)) (hn : n ≤ 1000000) (hQ : ∀ a', AF a' { v with v16 := .int .i64 ((n + 1 : Nat) : Int) } → K a' wq) :
    Code.wp Try.prog c (Exit.then K fun _ _ _ => False) a wq := by
  have HQ := hide hQ
  clear hQ
  obtain ⟨t', d'⟩ := a
  obtain ⟨v0, v1, v5, v6, v7, v8, v9, v11, v12, v13, v14, v15, v16, v17, v18, v19, v20, v21, v22, v23, v24, v85⟩ := v
  simp only at h16v HQ
  subst h16v
  obtain ⟨hs1, hd1, q0, q1, q5, q6, q7, q8, q9, q11, q12, q13, q14, q15, q16, q17, q18, q19, q20, q21, q22, q23, q24, q85⟩ := hF
  obtain ⟨u, hu⟩ := frame300 t' hs1
  simp only at hd1 q0 q1 q5 q6 q7 q8 q9 q11 q12 q13 q14 q15 q16 q17 q18 q19 q20 q21 q22 q23 q24 q85
  subst hu hd1
  have e0 : u 0 = v0 := q0
  have e1 : u 1 = v1 := q1
  have e5 : u 5 = v5 := q5
  have e6 : u 6 = v6 := q6
  have e7 : u 7 = v7 := q7
  have e8 : u 8 = v8 := q8
  have e9 : u 9 = v9 := q9
  have e11 : u 11 = v11 := q11
  have e12 : u 12 = v12 := q12
  have e13 : u 13 = v13 := q13
  have e14 : u 14 = v14 := q14
  have e15 : u 15 = v15 := q15
  have e16 : u 16 = .int .i64 (n : Int) := q16
  have e17 : u 17 = v17 := q17
  have e18 : u 18 = v18 := q18
  have e19 : u 19 = v19 := q19
  have e20 : u 20 = v20 := q20
  have e21 : u 21 = v21 := q21
  have e22 : u 22 = v22 := q22
  have e23 : u 23 = v23 := q23
  have e24 : u 24 = v24 := q24
  have e85 : u 85 = v85 := q85
  rw [e0, e1, e5, e6, e7, e8, e9, e11, e12, e13, e14, e15, e16, e17, e18, e19, e20, e21, e22, e23, e24, e85]
  clear q0 e0 q1 e1 q5 e5 q6 e6 q7 e7 q8 e8 q9 e9 q11 e11 q12 e12 q13 e13 q14 e14 q15 e15 q16 e16 q17 e17 q18 e18 q19 e19 q20 e20 q21 e21 q22 e22 q23 e23 q24 e24 q85 e85 hs1
  simp only [Try.f4, Option.getD_some, regOf] at hc
  injection hc with hc
  subst hc
  generalize u 2 = u2
  generalize u 3 = u3
  generalize u 4 = u4
  generalize u 10 = u10
  generalize u 25 = u25
  generalize u 26 = u26
  generalize u 27 = u27
  generalize u 28 = u28
  generalize u 29 = u29
  generalize u 30 = u30
  generalize u 31 = u31
  generalize u 32 = u32
  generalize u 33 = u33
  generalize u 34 = u34
  generalize u 35 = u35
  generalize u 36 = u36
  generalize u 37 = u37
  generalize u 38 = u38
  generalize u 39 = u39
  generalize u 40 = u40
  generalize u 41 = u41
  generalize u 42 = u42
  generalize u 43 = u43
  generalize u 44 = u44
  generalize u 45 = u45
  generalize u 46 = u46
  generalize u 47 = u47
  generalize u 48 = u48
  generalize u 49 = u49
  generalize u 50 = u50
  generalize u 51 = u51
  generalize u 52 = u52
  generalize u 53 = u53
  generalize u 54 = u54
  generalize u 55 = u55
  generalize u 56 = u56
  generalize u 57 = u57
  generalize u 58 = u58
  generalize u 59 = u59
  generalize u 60 = u60
  generalize u 61 = u61
  generalize u 62 = u62
  generalize u 63 = u63
  generalize u 64 = u64
  generalize u 65 = u65
  generalize u 66 = u66
  generalize u 67 = u67
  generalize u 68 = u68
  generalize u 69 = u69
  generalize u 70 = u70
  generalize u 71 = u71
  generalize u 72 = u72
  generalize u 73 = u73
  generalize u 74 = u74
  generalize u 75 = u75
  generalize u 76 = u76
  generalize u 77 = u77
  generalize u 78 = u78
  generalize u 79 = u79
  generalize u 80 = u80
  generalize u 81 = u81
  generalize u 82 = u82
  generalize u 83 = u83
  generalize u 84 = u84
  generalize u 86 = u86
  generalize u 87 = u87
  generalize u 88 = u88
  generalize u 89 = u89
  generalize u 90 = u90
  generalize u 91 = u91
  generalize u 92 = u92
  generalize u 93 = u93
  generalize u 94 = u94
  generalize u 95 = u95
  generalize u 96 = u96
  generalize u 97 = u97
  generalize u 98 = u98
  generalize u 99 = u99
  generalize u 100 = u100
  generalize u 101 = u101
  generalize u 102 = u102
  generalize u 103 = u103
  generalize u 104 = u104
  generalize u 105 = u105
  generalize u 106 = u106
  generalize u 107 = u107
  generalize u 108 = u108
  generalize u 109 = u109
  generalize u 110 = u110
  generalize u 111 = u111
  generalize u 112 = u112
  generalize u 113 = u113
  generalize u 114 = u114
  generalize u 115 = u115
  generalize u 116 = u116
  generalize u 117 = u117
  generalize u 118 = u118
  generalize u 119 = u119
  generalize u 120 = u120
  generalize u 121 = u121
  generalize u 122 = u122
  generalize u 123 = u123
  generalize u 124 = u124
  generalize u 125 = u125
  generalize u 126 = u126
  generalize u 127 = u127
  generalize u 128 = u128
  generalize u 129 = u129
  generalize u 130 = u130
  generalize u 131 = u131
  generalize u 132 = u132
  generalize u 133 = u133
  generalize u 134 = u134
  generalize u 135 = u135
  generalize u 136 = u136
  generalize u 137 = u137
  generalize u 138 = u138
  generalize u 139 = u139
  generalize u 140 = u140
  generalize u 141 = u141
  generalize u 142 = u142
  generalize u 143 = u143
  generalize u 144 = u144
  generalize u 145 = u145
  generalize u 146 = u146
  generalize u 147 = u147
  generalize u 148 = u148
  generalize u 149 = u149
  generalize u 150 = u150
  generalize u 151 = u151
  generalize u 152 = u152
  generalize u 153 = u153
  generalize u 154 = u154
  generalize u 155 = u155
  generalize u 156 = u156
  generalize u 157 = u157
  generalize u 158 = u158
  generalize u 159 = u159
  generalize u 160 = u160
  generalize u 161 = u161
  generalize u 162 = u162
  generalize u 163 = u163
  generalize u 164 = u164
  generalize u 165 = u165
  generalize u 166 = u166
  generalize u 167 = u167
  generalize u 168 = u168
  generalize u 169 = u169
  generalize u 170 = u170
  generalize u 171 = u171
  generalize u 172 = u172
  generalize u 173 = u173
  generalize u 174 = u174
  generalize u 175 = u175
  generalize u 176 = u176
  generalize u 177 = u177
  generalize u 178 = u178
  generalize u 179 = u179
  generalize u 180 = u180
  generalize u 181 = u181
  generalize u 182 = u182
  generalize u 183 = u183
  generalize u 184 = u184
  generalize u 185 = u185
  generalize u 186 = u186
  generalize u 187 = u187
  generalize u 188 = u188
  generalize u 189 = u189
  generalize u 190 = u190
  generalize u 191 = u191
  generalize u 192 = u192
  generalize u 193 = u193
  generalize u 194 = u194
  generalize u 195 = u195
  generalize u 196 = u196
  generalize u 197 = u197
  generalize u 198 = u198
  generalize u 199 = u199
  generalize u 200 = u200
  generalize u 201 = u201
  generalize u 202 = u202
  generalize u 203 = u203
  generalize u 204 = u204
  generalize u 205 = u205
  generalize u 206 = u206
  generalize u 207 = u207
  generalize u 208 = u208
  generalize u 209 = u209
  generalize u 210 = u210
  generalize u 211 = u211
  generalize u 212 = u212
  generalize u 213 = u213
  generalize u 214 = u214
  generalize u 215 = u215
  generalize u 216 = u216
  generalize u 217 = u217
  generalize u 218 = u218
  generalize u 219 = u219
  generalize u 220 = u220
  generalize u 221 = u221
  generalize u 222 = u222
  generalize u 223 = u223
  generalize u 224 = u224
  generalize u 225 = u225
  generalize u 226 = u226
  generalize u 227 = u227
  generalize u 228 = u228
  generalize u 229 = u229
  generalize u 230 = u230
  generalize u 231 = u231
  generalize u 232 = u232
  generalize u 233 = u233
  generalize u 234 = u234
  generalize u 235 = u235
  generalize u 236 = u236
  generalize u 237 = u237
  generalize u 238 = u238
  generalize u 239 = u239
  generalize u 240 = u240
  generalize u 241 = u241
  generalize u 242 = u242
  generalize u 243 = u243
  generalize u 244 = u244
  generalize u 245 = u245
  generalize u 246 = u246
  generalize u 247 = u247
  generalize u 248 = u248
  generalize u 249 = u249
  generalize u 250 = u250
  generalize u 251 = u251
  generalize u 252 = u252
  generalize u 253 = u253
  generalize u 254 = u254
  generalize u 255 = u255
  generalize u 256 = u256
  generalize u 257 = u257
  generalize u 258 = u258
  generalize u 259 = u259
  generalize u 260 = u260
  generalize u 261 = u261
  generalize u 262 = u262
  generalize u 263 = u263
  generalize u 264 = u264
  generalize u 265 = u265
  generalize u 266 = u266
  generalize u 267 = u267
  generalize u 268 = u268
  generalize u 269 = u269
  generalize u 270 = u270
  generalize u 271 = u271
  generalize u 272 = u272
  generalize u 273 = u273
  generalize u 274 = u274
  generalize u 275 = u275
  generalize u 276 = u276
  generalize u 277 = u277
  generalize u 278 = u278
  generalize u 279 = u279
  generalize u 280 = u280
  generalize u 281 = u281
  generalize u 282 = u282
  generalize u 283 = u283
  generalize u 284 = u284
  generalize u 285 = u285
  generalize u 286 = u286
  generalize u 287 = u287
  generalize u 288 = u288
  generalize u 289 = u289
  generalize u 290 = u290
  generalize u 291 = u291
  generalize u 292 = u292
  generalize u 293 = u293
  generalize u 294 = u294
  generalize u 295 = u295
  generalize u 296 = u296
  generalize u 297 = u297
  generalize u 298 = u298
  generalize u 299 = u299
  clear u
  have hj1 : ((n + 1 : Nat) : Int) = (n : Int) + 1 := by omega
  rw [hj1] at HQ
  clear hj1
  go_wp2
  exact HQ.out _ ⟨rfl, rfl, rfl, rfl, rfl, rfl, rfl, rfl, rfl, rfl, rfl, rfl, rfl, rfl, rfl, rfl, rfl, rfl, rfl, rfl, rfl, rfl, rfl, rfl⟩
set_option maxHeartbeats 8000000 in
set_option maxRecDepth 100000 in
theorem anew_r52 {K : Act → World → Prop} {c : Code} (hc : regOf (Try.f4.body.getD .skip) 52 = some c) (a : Act) {v : AV} {wq : World} {n : Nat} (hF : AF a v) (h23v : v.v23 = .int .i64 (n : Int)) (hn : n ≤ 1000000) (hQ : ∀ a', AF a' { v with v23 := .int .i64 ((n + 1 : Nat) : Int) } → K a' wq) :
    Code.wp Try.prog c (Exit.then K fun _ _ _ => False) a wq := by
  have HQ := hide hQ
  clear hQ
  obtain ⟨t', d'⟩ := a
  obtain ⟨v0, v1, v5, v6, v7, v8, v9, v11, v12, v13, v14, v15, v16, v17, v18, v19, v20, v21, v22, v23, v24, v85⟩ := v
  simp only at h23v HQ
  subst h23v
  obtain ⟨hs1, hd1, q0, q1, q5, q6, q7, q8, q9, q11, q12, q13, q14, q15, q16, q17, q18, q19, q20, q21, q22, q23, q24, q85⟩ := hF
  obtain ⟨u, hu⟩ := frame300 t' hs1
  simp only at hd1 q0 q1 q5 q6 q7 q8 q9 q11 q12 q13 q14 q15 q16 q17 q18 q19 q20 q21 q22 q23 q24 q85
  subst hu hd1
  have e0 : u 0 = v0 := q0
  have e1 : u 1 = v1 := q1
  have e5 : u 5 = v5 := q5
  have e6 : u 6 = v6 := q6
  have e7 : u 7 = v7 := q7
  have e8 : u 8 = v8 := q8
  have e9 : u 9 = v9 := q9
  have e11 : u 11 = v11 := q11
  have e12 : u 12 = v12 := q12
  have e13 : u 13 = v13 := q13
  have e14 : u 14 = v14 := q14
  have e15 : u 15 = v15 := q15
  have e16 : u 16 = v16 := q16
  have e17 : u 17 = v17 := q17
  have e18 : u 18 = v18 := q18
  have e19 : u 19 = v19 := q19
  have e20 : u 20 = v20 := q20
  have e21 : u 21 = v21 := q21
  have e22 : u 22 = v22 := q22
  have e23 : u 23 = .int .i64 (n : Int) := q23
  have e24 : u 24 = v24 := q24
  have e85 : u 85 = v85 := q85
  rw [e0, e1, e5, e6, e7, e8, e9, e11, e12, e13, e14, e15, e16, e17, e18, e19, e20, e21, e22, e23, e24, e85]
  clear q0 e0 q1 e1 q5 e5 q6 e6 q7 e7 q8 e8 q9 e9 q11 e11 q12 e12 q13 e13 q14 e14 q15 e15 q16 e16 q17 e17 q18 e18 q19 e19 q20 e20 q21 e21 q22 e22 q23 e23 q24 e24 q85 e85 hs1
  simp only [Try.f4, Option.getD_some, regOf] at hc
  injection hc with hc
  subst hc
  generalize u 2 = u2
  generalize u 3 = u3
  generalize u 4 = u4
  generalize u 10 = u10
  generalize u 25 = u25
  generalize u 26 = u26
  generalize u 27 = u27
  generalize u 28 = u28
  generalize u 29 = u29
  generalize u 30 = u30
  generalize u 31 = u31
  generalize u 32 = u32
  generalize u 33 = u33
  generalize u 34 = u34
  generalize u 35 = u35
  generalize u 36 = u36
  generalize u 37 = u37
  generalize u 38 = u38
  generalize u 39 = u39
  generalize u 40 = u40
  generalize u 41 = u41
  generalize u 42 = u42
  generalize u 43 = u43
  generalize u 44 = u44
  generalize u 45 = u45
  generalize u 46 = u46
  generalize u 47 = u47
  generalize u 48 = u48
  generalize u 49 = u49
  generalize u 50 = u50
  generalize u 51 = u51
  generalize u 52 = u52
  generalize u 53 = u53
  generalize u 54 = u54
  generalize u 55 = u55
  generalize u 56 = u56
  generalize u 57 = u57
  generalize u 58 = u58
  generalize u 59 = u59
  generalize u 60 = u60
  generalize u 61 = u61
  generalize u 62 = u62
  generalize u 63 = u63
  generalize u 64 = u64
  generalize u 65 = u65
  generalize u 66 = u66
  generalize u 67 = u67
  generalize u 68 = u68
  generalize u 69 = u69
  generalize u 70 = u70
  generalize u 71 = u71
  generalize u 72 = u72
  generalize u 73 = u73
  generalize u 74 = u74
  generalize u 75 = u75
  generalize u 76 = u76
  generalize u 77 = u77
  generalize u 78 = u78
  generalize u 79 = u79
  generalize u 80 = u80
  generalize u 81 = u81
  generalize u 82 = u82
  generalize u 83 = u83
  generalize u 84 = u84
  generalize u 86 = u86
  generalize u 87 = u87
  generalize u 88 = u88
  generalize u 89 = u89
  generalize u 90 = u90
  generalize u 91 = u91
  generalize u 92 = u92
  generalize u 93 = u93
  generalize u 94 = u94
  generalize u 95 = u95
  generalize u 96 = u96
  generalize u 97 = u97
  generalize u 98 = u98
  generalize u 99 = u99
  generalize u 100 = u100
  generalize u 101 = u101
  generalize u 102 = u102
  generalize u 103 = u103
  generalize u 104 = u104
  generalize u 105 = u105
  generalize u 106 = u106
  generalize u 107 = u107
  generalize u 108 = u108
  generalize u 109 = u109
  generalize u 110 = u110
  generalize u 111 = u111
  generalize u 112 = u112
  generalize u 113 = u113
  generalize u 114 = u114
  generalize u 115 = u115
  generalize u 116 = u116
  generalize u 117 = u117
  generalize u 118 = u118
  generalize u 119 = u119
  generalize u 120 = u120
  generalize u 121 = u121
  generalize u 122 = u122
  generalize u 123 = u123
  generalize u 124 = u124
  generalize u 125 = u125
  generalize u 126 = u126
  generalize u 127 = u127
  generalize u 128 = u128
  generalize u 129 = u129
  generalize u 130 = u130
  generalize u 131 = u131
  generalize u 132 = u132
  generalize u 133 = u133
  generalize u 134 = u134
  generalize u 135 = u135
  generalize u 136 = u136
  generalize u 137 = u137
  generalize u 138 = u138
  generalize u 139 = u139
  generalize u 140 = u140
  generalize u 141 = u141
  generalize u 142 = u142
  generalize u 143 = u143
  generalize u 144 = u144
  generalize u 145 = u145
  generalize u 146 = u146
  generalize u 147 = u147
  generalize u 148 = u148
  generalize u 149 = u149
  generalize u 150 = u150
  generalize u 151 = u151
  generalize u 152 = u152
  generalize u 153 = u153
  generalize u 154 = u154
  generalize u 155 = u155
  generalize u 156 = u156
  generalize u 157 = u157
  generalize u 158 = u158
  generalize u 159 = u159
  generalize u 160 = u160
  generalize u 161 = u161
  generalize u 162 = u162
  generalize u 163 = u163
  generalize u 164 = u164
  generalize u 165 = u165
  generalize u 166 = u166
  generalize u 167 = u167
  generalize u 168 = u168
  generalize u 169 = u169
  generalize u 170 = u170
  generalize u 171 = u171
  generalize u 172 = u172
  generalize u 173 = u173
  generalize u 174 = u174
  generalize u 175 = u175
  generalize u 176 = u176
  generalize u 177 = u177
  generalize u 178 = u178
  generalize u 179 = u179
  generalize u 180 = u180
  generalize u 181 = u181
  generalize u 182 = u182
  generalize u 183 = u183
  generalize u 184 = u184
  generalize u 185 = u185
  generalize u 186 = u186
  generalize u 187 = u187
  generalize u 188 = u188
  generalize u 189 = u189
  generalize u 190 = u190
  generalize u 191 = u191
  generalize u 192 = u192
  generalize u 193 = u193
  generalize u 194 = u194
  generalize u 195 = u195
  generalize u 196 = u196
  generalize u 197 = u197
  generalize u 198 = u198
  generalize u 199 = u199
  generalize u 200 = u200
  generalize u 201 = u201
  generalize u 202 = u202
  generalize u 203 = u203
  generalize u 204 = u204
  generalize u 205 = u205
  generalize u 206 = u206
  generalize u 207 = u207
  generalize u 208 = u208
  generalize u 209 = u209
  generalize u 210 = u210
  generalize u 211 = u211
  generalize u 212 = u212
  generalize u 213 = u213
  generalize u 214 = u214
  generalize u 215 = u215
  generalize u 216 = u216
  generalize u 217 = u217
  generalize u 218 = u218
  generalize u 219 = u219
  generalize u 220 = u220
  generalize u 221 = u221
  generalize u 222 = u222
  generalize u 223 = u223
  generalize u 224 = u224
  generalize u 225 = u225
  generalize u 226 = u226
  generalize u 227 = u227
  generalize u 228 = u228
  generalize u 229 = u229
  generalize u 230 = u230
  generalize u 231 = u231
  generalize u 232 = u232
  generalize u 233 = u233
  generalize u 234 = u234
  generalize u 235 = u235
  generalize u 236 = u236
  generalize u 237 = u237
  generalize u 238 = u238
  generalize u 239 = u239
  generalize u 240 = u240
  generalize u 241 = u241
  generalize u 242 = u242
  generalize u 243 = u243
  generalize u 244 = u244
  generalize u 245 = u245
  generalize u 246 = u246
  generalize u 247 = u247
  generalize u 248 = u248
  generalize u 249 = u249
  generalize u 250 = u250
  generalize u 251 = u251
  generalize u 252 = u252
  generalize u 253 = u253
  generalize u 254 = u254
  generalize u 255 = u255
  generalize u 256 = u256
  generalize u 257 = u257
  generalize u 258 = u258
  generalize u 259 = u259
  generalize u 260 = u260
  generalize u 261 = u261
  generalize u 262 = u262
  generalize u 263 = u263
  generalize u 264 = u264
  generalize u 265 = u265
  generalize u 266 = u266
  generalize u 267 = u267
  generalize u 268 = u268
  generalize u 269 = u269
  generalize u 270 = u270
  generalize u 271 = u271
  generalize u 272 = u272
  generalize u 273 = u273
  generalize u 274 = u274
  generalize u 275 = u275
  generalize u 276 = u276
  generalize u 277 = u277
  generalize u 278 = u278
  generalize u 279 = u279
  generalize u 280 = u280
  generalize u 281 = u281
  generalize u 282 = u282
  generalize u 283 = u283
  generalize u 284 = u284
  generalize u 285 = u285
  generalize u 286 = u286
  generalize u 287 = u287
  generalize u 288 = u288
  generalize u 289 = u289
  generalize u 290 = u290
  generalize u 291 = u291
  generalize u 292 = u292
  generalize u 293 = u293
  generalize u 294 = u294
  generalize u 295 = u295
  generalize u 296 = u296
  generalize u 297 = u297
  generalize u 298 = u298
  generalize u 299 = u299
  clear u
  have hj1 : ((n + 1 : Nat) : Int) = (n : Int) + 1 := by omega
  rw [hj1] at HQ
  clear hj1
  go_wp2
  exact HQ.out _ ⟨rfl, rfl, rfl, rfl, rfl, rfl, rfl, rfl, rfl, rfl, rfl, rfl, rfl, rfl, rfl, rfl, rfl, rfl, rfl, rfl, rfl, rfl, rfl, rfl⟩
set_option maxHeartbeats 8000000 in
set_option maxRecDepth 100000 in
theorem anew_r57 {K : Act → World → Prop} {c : Code} (hc : regOf (Try.f4.body.getD .skip) 57 = some c) (a : Act) {v : AV} {wq : World} {n : Nat} (hF : AF a v) (h24v : v.v24 = .int .i64 (n : Int)) (hn : n ≤ 1000000) (hQ : ∀ a', AF a' { v with v24 := .int .i64 ((n + 1 : Nat) : Int) } → K a' wq) :
    Code.wp Try.prog c (Exit.then K fun _ _ _ => False) a wq := by
  have HQ := hide hQ
  clear hQ
  obtain ⟨t', d'⟩ := a
  obtain ⟨v0, v1, v5, v6, v7, v8, v9, v11, v12, v13, v14, v15, v16, v17, v18, v19, v20, v21, v22, v23, v24, v85⟩ := v
  simp only at h24v HQ
  subst h24v
  obtain ⟨hs1, hd1, q0, q1, q5, q6, q7, q8, q9, q11, q12, q13, q14, q15, q16, q17, q18, q19, q20, q21, q22, q23, q24, q85⟩ := hF
  obtain ⟨u, hu⟩ := frame300 t' hs1
  simp only at hd1 q0 q1 q5 q6 q7 q8 q9 q11 q12 q13 q14 q15 q16 q17 q18 q19 q20 q21 q22 q23 q24 q85
  subst hu hd1
  have e0 : u 0 = v0 := q0
  have e1 : u 1 = v1 := q1
  have e5 : u 5 = v5 := q5
  have e6 : u 6 = v6 := q6
  have e7 : u 7 = v7 := q7
  have e8 : u 8 = v8 := q8
  have e9 : u 9 = v9 := q9
  have e11 : u 11 = v11 := q11
  have e12 : u 12 = v12 := q12
  have e13 : u 13 = v13 := q13
  have e14 : u 14 = v14 := q14
  have e15 : u 15 = v15 := q15
  have e16 : u 16 = v16 := q16
  have e17 : u 17 = v17 := q17
  have e18 : u 18 = v18 := q18
  have e19 : u 19 = v19 := q19
  have e20 : u 20 = v20 := q20
  have e21 : u 21 = v21 := q21
  have e22 : u 22 = v22 := q22
  have e23 : u 23 = v23 := q23
  have e24 : u 24 = .int .i64 (n : Int) := q24
  have e85 : u 85 = v85 := q85
  rw [e0, e1, e5, e6, e7, e8, e9, e11, e12, e13, e14, e15, e16, e17, e18, e19, e20, e21, e22, e23, e24, e85]
  clear q0 e0 q1 e1 q5 e5 q6 e6 q7 e7 q8 e8 q9 e9 q11 e11 q12 e12 q13 e13 q14 e14 q15 e15 q16 e16 q17 e17 q18 e18 q19 e19 q20 e20 q21 e21 q22 e22 q23 e23 q24 e24 q85 e85 hs1
  simp only [Try.f4, Option.getD_some, regOf] at hc
  injection hc with hc
  subst hc
  generalize u 2 = u2
  generalize u 3 = u3
  generalize u 4 = u4
  generalize u 10 = u10
  generalize u 25 = u25
  generalize u 26 = u26
  generalize u 27 = u27
  generalize u 28 = u28
  generalize u 29 = u29
  generalize u 30 = u30
  generalize u 31 = u31
  generalize u 32 = u32
  generalize u 33 = u33
  generalize u 34 = u34
  generalize u 35 = u35
  generalize u 36 = u36
  generalize u 37 = u37
  generalize u 38 = u38
  generalize u 39 = u39
  generalize u 40 = u40
  generalize u 41 = u41
  generalize u 42 = u42
  generalize u 43 = u43
  generalize u 44 = u44
  generalize u 45 = u45
  generalize u 46 = u46
  generalize u 47 = u47
  generalize u 48 = u48
  generalize u 49 = u49
  generalize u 50 = u50
  generalize u 51 = u51
  generalize u 52 = u52
  generalize u 53 = u53
  generalize u 54 = u54
  generalize u 55 = u55
  generalize u 56 = u56
  generalize u 57 = u57
  generalize u 58 = u58
  generalize u 59 = u59
  generalize u 60 = u60
  generalize u 61 = u61
  generalize u 62 = u62
  generalize u 63 = u63
  generalize u 64 = u64
  generalize u 65 = u65
  generalize u 66 = u66
  generalize u 67 = u67
  generalize u 68 = u68
  generalize u 69 = u69
  generalize u 70 = u70
  generalize u 71 = u71
  generalize u 72 = u72
  generalize u 73 = u73
  generalize u 74 = u74
  generalize u 75 = u75
  generalize u 76 = u76
  generalize u 77 = u77
  generalize u 78 = u78
  generalize u 79 = u79
  generalize u 80 = u80
  generalize u 81 = u81
  generalize u 82 = u82
  generalize u 83 = u83
  generalize u 84 = u84
  generalize u 86 = u86
  generalize u 87 = u87
  generalize u 88 = u88
  generalize u 89 = u89
  generalize u 90 = u90
  generalize u 91 = u91
  generalize u 92 = u92
  generalize u 93 = u93
  generalize u 94 = u94
  generalize u 95 = u95
  generalize u 96 = u96
  generalize u 97 = u97
  generalize u 98 = u98
  generalize u 99 = u99
  generalize u 100 = u100
  generalize u 101 = u101
  generalize u 102 = u102
  generalize u 103 = u103
  generalize u 104 = u104
  generalize u 105 = u105
  generalize u 106 = u106
  generalize u 107 = u107
  generalize u 108 = u108
  generalize u 109 = u109
  generalize u 110 = u110
  generalize u 111 = u111
  generalize u 112 = u112
  generalize u 113 = u113
  generalize u 114 = u114
  generalize u 115 = u115
  generalize u 116 = u116
  generalize u 117 = u117
  generalize u 118 = u118
  generalize u 119 = u119
  generalize u 120 = u120
  generalize u 121 = u121
  generalize u 122 = u122
  generalize u 123 = u123
  generalize u 124 = u124
  generalize u 125 = u125
  generalize u 126 = u126
  generalize u 127 = u127
  generalize u 128 = u128
  generalize u 129 = u129
  generalize u 130 = u130
  generalize u 131 = u131
  generalize u 132 = u132
  generalize u 133 = u133
  generalize u 134 = u134
  generalize u 135 = u135
  generalize u 136 = u136
  generalize u 137 = u137
  generalize u 138 = u138
  generalize u 139 = u139
  generalize u 140 = u140
  generalize u 141 = u141
  generalize u 142 = u142
  generalize u 143 = u143
  generalize u 144 = u144
  generalize u 145 = u145
  generalize u 146 = u146
  generalize u 147 = u147
  generalize u 148 = u148
  generalize u 149 = u149
  generalize u 150 = u150
  generalize u 151 = u151
  generalize u 152 = u152
  generalize u 153 = u153
  generalize u 154 = u154
  generalize u 155 = u155
  generalize u 156 = u156
  generalize u 157 = u157
  generalize u 158 = u158
  generalize u 159 = u159
  generalize u 160 = u160
  generalize u 161 = u161
  generalize u 162 = u162
  generalize u 163 = u163
  generalize u 164 = u164
  generalize u 165 = u165
  generalize u 166 = u166
  generalize u 167 = u167
  generalize u 168 = u168
  generalize u 169 = u169
  generalize u 170 = u170
  generalize u 171 = u171
  generalize u 172 = u172
  generalize u 173 = u173
  generalize u 174 = u174
  generalize u 175 = u175
  generalize u 176 = u176
  generalize u 177 = u177
  generalize u 178 = u178
  generalize u 179 = u179
  generalize u 180 = u180
  generalize u 181 = u181
  generalize u 182 = u182
  generalize u 183 = u183
  generalize u 184 = u184
  generalize u 185 = u185
  generalize u 186 = u186
  generalize u 187 = u187
  generalize u 188 = u188
  generalize u 189 = u189
  generalize u 190 = u190
  generalize u 191 = u191
  generalize u 192 = u192
  generalize u 193 = u193
  generalize u 194 = u194
  generalize u 195 = u195
  generalize u 196 = u196
  generalize u 197 = u197
  generalize u 198 = u198
  generalize u 199 = u199
  generalize u 200 = u200
  generalize u 201 = u201
  generalize u 202 = u202
  generalize u 203 = u203
  generalize u 204 = u204
  generalize u 205 = u205
  generalize u 206 = u206
  generalize u 207 = u207
  generalize u 208 = u208
  generalize u 209 = u209
  generalize u 210 = u210
  generalize u 211 = u211
  generalize u 212 = u212
  generalize u 213 = u213
  generalize u 214 = u214
  generalize u 215 = u215
  generalize u 216 = u216
  generalize u 217 = u217
  generalize u 218 = u218
  generalize u 219 = u219
  generalize u 220 = u220
  generalize u 221 = u221
  generalize u 222 = u222
  generalize u 223 = u223
  generalize u 224 = u224
  generalize u 225 = u225
  generalize u 226 = u226
  generalize u 227 = u227
  generalize u 228 = u228
  generalize u 229 = u229
  generalize u 230 = u230
  generalize u 231 = u231
  generalize u 232 = u232
  generalize u 233 = u233
  generalize u 234 = u234
  generalize u 235 = u235
  generalize u 236 = u236
  generalize u 237 = u237
  generalize u 238 = u238
  generalize u 239 = u239
  generalize u 240 = u240
  generalize u 241 = u241
  generalize u 242 = u242
  generalize u 243 = u243
  generalize u 244 = u244
  generalize u 245 = u245
  generalize u 246 = u246
  generalize u 247 = u247
  generalize u 248 = u248
  generalize u 249 = u249
  generalize u 250 = u250
  generalize u 251 = u251
  generalize u 252 = u252
  generalize u 253 = u253
  generalize u 254 = u254
  generalize u 255 = u255
  generalize u 256 = u256
  generalize u 257 = u257
  generalize u 258 = u258
  generalize u 259 = u259
  generalize u 260 = u260
  generalize u 261 = u261
  generalize u 262 = u262
  generalize u 263 = u263
  generalize u 264 = u264
  generalize u 265 = u265
  generalize u 266 = u266
  generalize u 267 = u267
  generalize u 268 = u268
  generalize u 269 = u269
  generalize u 270 = u270
  generalize u 271 = u271
  generalize u 272 = u272
  generalize u 273 = u273
  generalize u 274 = u274
  generalize u 275 = u275
  generalize u 276 = u276
  generalize u 277 = u277
  generalize u 278 = u278
  generalize u 279 = u279
  generalize u 280 = u280
  generalize u 281 = u281
  generalize u 282 = u282
  generalize u 283 = u283
  generalize u 284 = u284
  generalize u 285 = u285
  generalize u 286 = u286
  generalize u 287 = u287
  generalize u 288 = u288
  generalize u 289 = u289
  generalize u 290 = u290
  generalize u 291 = u291
  generalize u 292 = u292
  generalize u 293 = u293
  generalize u 294 = u294
  generalize u 295 = u295
  generalize u 296 = u296
  generalize u 297 = u297
  generalize u 298 = u298
  generalize u 299 = u299
  clear u
  have hj1 : ((n + 1 : Nat) : Int) = (n : Int) + 1 := by omega
  rw [hj1] at HQ
  clear hj1
  go_wp2
  exact HQ.out _ ⟨rfl, rfl, rfl, rfl, rfl, rfl, rfl, rfl, rfl, rfl, rfl, rfl, rfl, rfl, rfl, rfl, rfl, rfl, rfl, rfl, rfl, rfl, rfl, rfl⟩
end Go.Proofs.Ythgfijmpofbchaa
