/-
  LinkAnew: regions of it as they run (mkanew.py).
-/
import Derived.Test.YthgfijmpofbchaaZN0
namespace Go.Proofs.Ythgfijmpofbchaa
open Go.RowKit

attribute [local go_sem ↓] Go.wp_at_zero Go.wp_at_succ
set_option linter.unusedSimpArgs false
set_option linter.unusedVariables false
set_option maxHeartbeats 8000000 in
set_option maxRecDepth 100000 in
theorem anew_r27 {K : Act → World → Prop} {c : Code} (hc : regOf (Try.f4.body.getD .skip) 27 = some c) (a : Act) {v : AV} {wq : World} {B : BE} {G : PG} {r q : Nat → Nat} {p : PR} {rv : Nat → Value} {rl : Nat → List ByteArray} {d : Nat} {t : TN} {i : Nat} {x : Bool} {k : Nat} (hF : AF a v) (h6v : v.v6 = .pointer (some ⟨G.pb, 0, none⟩)) (h17v : v.v17 = .pointer (some ⟨d, 0, none⟩)) (h18v : v.v18 = .int .i64 (k : Int)) (hk : k = ix x) (hA : AM B wq G r q p rv rl) (hD : BX wq r q d (.cells t.c 52 (0, 0))) (hto : t.ok) (hl : (p.way x).length ≤ 100000) (hi : i < (p.way x).length) (hiz : pickZ t.i (p.way x).length = (i : Int))
    (hQ : ∀ a' w', AF a' { v with v20 := .pointer (some ⟨wq.heap.size, 0, none⟩) } → Below wq.heap.size wq w' → w'.heap[wq.heap.size]? = some (.cells #[.int .i64 ((p.way x)[i]).epoch, .int .i64 ((p.way x)[i]).peer, .int .i64 ((p.way x)[i]).seq, .int .i64 ((p.way x)[i]).ack, .string ((p.way x)[i]).body] 31 (0, 0)) → K a' w') :
    Code.wp Try.prog c (Exit.then K fun _ _ _ => False) a wq := by
  have HQ := hide hQ
  clear hQ
  obtain ⟨t', d'⟩ := a
  obtain ⟨v0, v1, v5, v6, v7, v8, v9, v11, v12, v13, v14, v15, v16, v17, v18, v19, v20, v21, v22, v23, v24, v85⟩ := v
  simp only at h6v h17v h18v HQ
  subst h6v h17v h18v
  obtain ⟨hs1, hd1, q0, q1, q5, q6, q7, q8, q9, q11, q12, q13, q14, q15, q16, q17, q18, q19, q20, q21, q22, q23, q24, q85⟩ := hF
  obtain ⟨u, hu⟩ := frame300 t' hs1
  simp only at hd1 q0 q1 q5 q6 q7 q8 q9 q11 q12 q13 q14 q15 q16 q17 q18 q19 q20 q21 q22 q23 q24 q85
  subst hu hd1
  have e0 : u 0 = v0 := q0
  have e1 : u 1 = v1 := q1
  have e5 : u 5 = v5 := q5
  have e6 : u 6 = .pointer (some ⟨G.pb, 0, none⟩) := q6
  have e7 : u 7 = v7 := q7
  have e8 : u 8 = v8 := q8
  have e9 : u 9 = v9 := q9
  have e11 : u 11 = v11 := q11
  have e12 : u 12 = v12 := q12
  have e13 : u 13 = v13 := q13
  have e14 : u 14 = v14 := q14
  have e15 : u 15 = v15 := q15
  have e16 : u 16 = v16 := q16
  have e17 : u 17 = .pointer (some ⟨d, 0, none⟩) := q17
  have e18 : u 18 = .int .i64 (k : Int) := q18
  have e19 : u 19 = v19 := q19
  have e20 : u 20 = v20 := q20
  have e21 : u 21 = v21 := q21
  have e22 : u 22 = v22 := q22
  have e23 : u 23 = v23 := q23
  have e24 : u 24 = v24 := q24
  have e85 : u 85 = v85 := q85
  rw [e0, e1, e5, e6, e7, e8, e9, e11, e12, e13, e14, e15, e16, e17, e18, e19, e20, e21, e22, e23, e24, e85]
  clear q0 e0 q1 e1 q5 e5 q6 e6 q7 e7 q8 e8 q9 e9 q11 e11 q12 e12 q13 e13 q14 e14 q15 e15 q16 e16 q17 e17 q18 e18 q19 e19 q20 e20 q21 e21 q22 e22 q23 e23 q24 e24 q85 e85 hs1
  simp only [Try.f4, Option.getD_some, regOf] at hc
  injection hc with hc
  subst hc
  generalize u 2 = u2
  generalize u 3 = u3
  generalize u 4 = u4
  generalize u 10 = u10
  generalize u 25 = u25
  generalize u 26 = u26
  generalize u 27 = u27
  generalize u 28 = u28
  generalize u 29 = u29
  generalize u 30 = u30
  generalize u 31 = u31
  generalize u 32 = u32
  generalize u 33 = u33
  generalize u 34 = u34
  generalize u 35 = u35
  generalize u 36 = u36
  generalize u 37 = u37
  generalize u 38 = u38
  generalize u 39 = u39
  generalize u 40 = u40
  generalize u 41 = u41
  generalize u 42 = u42
  generalize u 43 = u43
  generalize u 44 = u44
  generalize u 45 = u45
  generalize u 46 = u46
  generalize u 47 = u47
  generalize u 48 = u48
  generalize u 49 = u49
  generalize u 50 = u50
  generalize u 51 = u51
  generalize u 52 = u52
  generalize u 53 = u53
  generalize u 54 = u54
  generalize u 55 = u55
  generalize u 56 = u56
  generalize u 57 = u57
  generalize u 58 = u58
  generalize u 59 = u59
  generalize u 60 = u60
  generalize u 61 = u61
  generalize u 62 = u62
  generalize u 63 = u63
  generalize u 64 = u64
  generalize u 65 = u65
  generalize u 66 = u66
  generalize u 67 = u67
  generalize u 68 = u68
  generalize u 69 = u69
  generalize u 70 = u70
  generalize u 71 = u71
  generalize u 72 = u72
  generalize u 73 = u73
  generalize u 74 = u74
  generalize u 75 = u75
  generalize u 76 = u76
  generalize u 77 = u77
  generalize u 78 = u78
  generalize u 79 = u79
  generalize u 80 = u80
  generalize u 81 = u81
  generalize u 82 = u82
  generalize u 83 = u83
  generalize u 84 = u84
  generalize u 86 = u86
  generalize u 87 = u87
  generalize u 88 = u88
  generalize u 89 = u89
  generalize u 90 = u90
  generalize u 91 = u91
  generalize u 92 = u92
  generalize u 93 = u93
  generalize u 94 = u94
  generalize u 95 = u95
  generalize u 96 = u96
  generalize u 97 = u97
  generalize u 98 = u98
  generalize u 99 = u99
  generalize u 100 = u100
  generalize u 101 = u101
  generalize u 102 = u102
  generalize u 103 = u103
  generalize u 104 = u104
  generalize u 105 = u105
  generalize u 106 = u106
  generalize u 107 = u107
  generalize u 108 = u108
  generalize u 109 = u109
  generalize u 110 = u110
  generalize u 111 = u111
  generalize u 112 = u112
  generalize u 113 = u113
  generalize u 114 = u114
  generalize u 115 = u115
  generalize u 116 = u116
  generalize u 117 = u117
  generalize u 118 = u118
  generalize u 119 = u119
  generalize u 120 = u120
  generalize u 121 = u121
  generalize u 122 = u122
  generalize u 123 = u123
  generalize u 124 = u124
  generalize u 125 = u125
  generalize u 126 = u126
  generalize u 127 = u127
  generalize u 128 = u128
  generalize u 129 = u129
  generalize u 130 = u130
  generalize u 131 = u131
  generalize u 132 = u132
  generalize u 133 = u133
  generalize u 134 = u134
  generalize u 135 = u135
  generalize u 136 = u136
  generalize u 137 = u137
  generalize u 138 = u138
  generalize u 139 = u139
  generalize u 140 = u140
  generalize u 141 = u141
  generalize u 142 = u142
  generalize u 143 = u143
  generalize u 144 = u144
  generalize u 145 = u145
  generalize u 146 = u146
  generalize u 147 = u147
  generalize u 148 = u148
  generalize u 149 = u149
  generalize u 150 = u150
  generalize u 151 = u151
  generalize u 152 = u152
  generalize u 153 = u153
  generalize u 154 = u154
  generalize u 155 = u155
  generalize u 156 = u156
  generalize u 157 = u157
  generalize u 158 = u158
  generalize u 159 = u159
  generalize u 160 = u160
  generalize u 161 = u161
  generalize u 162 = u162
  generalize u 163 = u163
  generalize u 164 = u164
  generalize u 165 = u165
  generalize u 166 = u166
  generalize u 167 = u167
  generalize u 168 = u168
  generalize u 169 = u169
  generalize u 170 = u170
  generalize u 171 = u171
  generalize u 172 = u172
  generalize u 173 = u173
  generalize u 174 = u174
  generalize u 175 = u175
  generalize u 176 = u176
  generalize u 177 = u177
  generalize u 178 = u178
  generalize u 179 = u179
  generalize u 180 = u180
  generalize u 181 = u181
  generalize u 182 = u182
  generalize u 183 = u183
  generalize u 184 = u184
  generalize u 185 = u185
  generalize u 186 = u186
  generalize u 187 = u187
  generalize u 188 = u188
  generalize u 189 = u189
  generalize u 190 = u190
  generalize u 191 = u191
  generalize u 192 = u192
  generalize u 193 = u193
  generalize u 194 = u194
  generalize u 195 = u195
  generalize u 196 = u196
  generalize u 197 = u197
  generalize u 198 = u198
  generalize u 199 = u199
  generalize u 200 = u200
  generalize u 201 = u201
  generalize u 202 = u202
  generalize u 203 = u203
  generalize u 204 = u204
  generalize u 205 = u205
  generalize u 206 = u206
  generalize u 207 = u207
  generalize u 208 = u208
  generalize u 209 = u209
  generalize u 210 = u210
  generalize u 211 = u211
  generalize u 212 = u212
  generalize u 213 = u213
  generalize u 214 = u214
  generalize u 215 = u215
  generalize u 216 = u216
  generalize u 217 = u217
  generalize u 218 = u218
  generalize u 219 = u219
  generalize u 220 = u220
  generalize u 221 = u221
  generalize u 222 = u222
  generalize u 223 = u223
  generalize u 224 = u224
  generalize u 225 = u225
  generalize u 226 = u226
  generalize u 227 = u227
  generalize u 228 = u228
  generalize u 229 = u229
  generalize u 230 = u230
  generalize u 231 = u231
  generalize u 232 = u232
  generalize u 233 = u233
  generalize u 234 = u234
  generalize u 235 = u235
  generalize u 236 = u236
  generalize u 237 = u237
  generalize u 238 = u238
  generalize u 239 = u239
  generalize u 240 = u240
  generalize u 241 = u241
  generalize u 242 = u242
  generalize u 243 = u243
  generalize u 244 = u244
  generalize u 245 = u245
  generalize u 246 = u246
  generalize u 247 = u247
  generalize u 248 = u248
  generalize u 249 = u249
  generalize u 250 = u250
  generalize u 251 = u251
  generalize u 252 = u252
  generalize u 253 = u253
  generalize u 254 = u254
  generalize u 255 = u255
  generalize u 256 = u256
  generalize u 257 = u257
  generalize u 258 = u258
  generalize u 259 = u259
  generalize u 260 = u260
  generalize u 261 = u261
  generalize u 262 = u262
  generalize u 263 = u263
  generalize u 264 = u264
  generalize u 265 = u265
  generalize u 266 = u266
  generalize u 267 = u267
  generalize u 268 = u268
  generalize u 269 = u269
  generalize u 270 = u270
  generalize u 271 = u271
  generalize u 272 = u272
  generalize u 273 = u273
  generalize u 274 = u274
  generalize u 275 = u275
  generalize u 276 = u276
  generalize u 277 = u277
  generalize u 278 = u278
  generalize u 279 = u279
  generalize u 280 = u280
  generalize u 281 = u281
  generalize u 282 = u282
  generalize u 283 = u283
  generalize u 284 = u284
  generalize u 285 = u285
  generalize u 286 = u286
  generalize u 287 = u287
  generalize u 288 = u288
  generalize u 289 = u289
  generalize u 290 = u290
  generalize u 291 = u291
  generalize u 292 = u292
  generalize u 293 = u293
  generalize u 294 = u294
  generalize u 295 = u295
  generalize u 296 = u296
  generalize u 297 = u297
  generalize u 298 = u298
  generalize u 299 = u299
  clear u
  have HA := hide hA
  obtain ⟨c0, c1, c2, c3⟩ := hA.pa.cp
  have HX := hide hk
  have hk0 : (0 : Int) ≤ (k : Int) := by omega
  have hk1 : (k : Int) < 2 := by have := ix_lt x; omega
  have cs := hA.pa.cw x
  rw [← hk] at cs
  have cd := box_cell hD.at_ 2 rfl
  obtain ⟨so, sc, hsv⟩ := row_slice (hA.pa.way x)
  have hrow := hA.pa.way x
  rw [hsv] at cs hrow
  obtain ⟨g, rfl, hgB, hgl, y0, y1, y2, y3, y4⟩ := fr_at hrow i hi
  have hi0 : (0 : Int) ≤ (i : Int) := by omega
  have hi1 : (i : Int) < ((p.way x).length : Int) := by omega
  have HPK := hide (fun w => pick_any t.i (p.way x).length w hto.2.2.1 (by omega))
  rw [hiz] at HPK
  generalize (p.way x)[i] = f at *
  generalize (p.way x).length = n at *
  obtain ⟨fe, fp, fs, fa, fy⟩ := f
  obtain ⟨tk, tw, ti, ts⟩ := t
  simp only [TN.c] at *
  have HKK := hide (enters_of Try.func8 (by kernel_rfl) rfl)
  clear hA hD hk hsv hrow hto hiz
  go_region_held_law (fun w' => w'.cell? ⟨d, 2, none⟩ = some (.int .i64 ti) ∧ w'.cell? ⟨G.pb, 1, none⟩ = some (sl2 G.wb) ∧ w'.cell? ⟨G.wb, k, none⟩ = some (.slice (some ⟨g, 0, none⟩) n sc) ∧ w'.cell? ⟨g, i * 5, none⟩ = some (.int .i64 fe) ∧ w'.cell? ⟨g, i * 5 + 1, none⟩ = some (.int .i64 fp) ∧ w'.cell? ⟨g, i * 5 + 2, none⟩ = some (.int .i64 fs) ∧ w'.cell? ⟨g, i * 5 + 3, none⟩ = some (.int .i64 fa) ∧ w'.cell? ⟨g, i * 5 + 4, none⟩ = some (.string fy)) (first | go_keep | exact ⟨cd, c1, cs, y0, y1, y2, y3, y4⟩) ((refine step_fn_d (by rfl) 112 (by rfl) 8 _ _ (by rfl) HKK.out [.int .i64 ti, .int .i64 n] rfl (HPK.out _) ?_; rintro e w1 ⟨rfl, hw⟩; obtain rfl := hw.symm; refine ⟨_, rfl, ?_⟩; clear hw))
  all_goals exact HQ.out _ _ ⟨rfl, rfl, rfl, rfl, rfl, rfl, rfl, rfl, rfl, rfl, rfl, rfl, rfl, rfl, rfl, rfl, rfl, rfl, rfl, rfl, rfl, rfl, rfl, rfl⟩ (((Below.refl _ wq).alloc (Nat.le_refl _) _).drew) (heap_alloc_new wq _)
end Go.Proofs.Ythgfijmpofbchaa
/-
  LinkAnew: regions of it as they run (mkanew.py).
-/
namespace Go.Proofs.Ythgfijmpofbchaa
open Go.RowKit

attribute [local go_sem ↓] Go.wp_at_zero Go.wp_at_succ
set_option linter.unusedSimpArgs false
set_option linter.unusedVariables false
set_option maxHeartbeats 8000000 in
set_option maxRecDepth 100000 in
theorem anew_r28 {K : Act → World → Prop} {c : Code} (hc : regOf (Try.f4.body.getD .skip) 28 = some c) (a : Act) {v : AV} {wq : World} {B : BE} {G : PG} {r q : Nat → Nat} {p : PR} {rv : Nat → Value} {rl : Nat → List ByteArray} {fb : Nat} {f : FR} {x : Bool} {k : Nat} (hF : AF a v) (h6v : v.v6 = .pointer (some ⟨G.pb, 0, none⟩)) (h18v : v.v18 = .int .i64 (k : Int)) (h20v : v.v20 = .pointer (some ⟨fb, 0, none⟩)) (hk : k = ix x) (hA : AM B wq G r q p rv rl) (hB : BX wq r q fb (.cells #[.int .i64 f.epoch, .int .i64 f.peer, .int .i64 f.seq, .int .i64 f.ack, .string f.body] 31 (0, 0))) (hfo : f.ok)
    (hQ : ∀ a' w' v' rr ao cp, AF a' { v with v21 := .slice ao ((p.l x).take f).1.1.length cp, v22 := .bool ((p.l x).take f).1.2 } → AM B w' { G with v := set G.v x v' } rr q { p with l := set p.l x ((p.l x).take f).2 } rv rl → BX w' rr q fb (.cells #[.int .i64 f.epoch, .int .i64 f.peer, .int .i64 f.seq, .int .i64 f.ack, .string f.body] 31 (0, 0)) → w'.ownsRow wq.heap.size 9 1 (.slice ao ((p.l x).take f).1.1.length cp) ((p.l x).take f).1.1.length (((p.l x).take f).1.1.map .string) → Below B.n wq w' → K a' w') :
    Code.wp Try.prog c (Exit.then K fun _ _ _ => False) a wq := by
  have HQ := hide hQ
  clear hQ
  obtain ⟨t', d'⟩ := a
  obtain ⟨v0, v1, v5, v6, v7, v8, v9, v11, v12, v13, v14, v15, v16, v17, v18, v19, v20, v21, v22, v23, v24, v85⟩ := v
  simp only at h6v h18v h20v HQ
  subst h6v h18v h20v
  obtain ⟨hs1, hd1, q0, q1, q5, q6, q7, q8, q9, q11, q12, q13, q14, q15, q16, q17, q18, q19, q20, q21, q22, q23, q24, q85⟩ := hF
  obtain ⟨u, hu⟩ := frame300 t' hs1
  simp only at hd1 q0 q1 q5 q6 q7 q8 q9 q11 q12 q13 q14 q15 q16 q17 q18 q19 q20 q21 q22 q23 q24 q85
  subst hu hd1
  have e0 : u 0 = v0 := q0
  have e1 : u 1 = v1 := q1
  have e5 : u 5 = v5 := q5
  have e6 : u 6 = .pointer (some ⟨G.pb, 0, none⟩) := q6
  have e7 : u 7 = v7 := q7
  have e8 : u 8 = v8 := q8
  have e9 : u 9 = v9 := q9
  have e11 : u 11 = v11 := q11
  have e12 : u 12 = v12 := q12
  have e13 : u 13 = v13 := q13
  have e14 : u 14 = v14 := q14
  have e15 : u 15 = v15 := q15
  have e16 : u 16 = v16 := q16
  have e17 : u 17 = v17 := q17
  have e18 : u 18 = .int .i64 (k : Int) := q18
  have e19 : u 19 = v19 := q19
  have e20 : u 20 = .pointer (some ⟨fb, 0, none⟩) := q20
  have e21 : u 21 = v21 := q21
  have e22 : u 22 = v22 := q22
  have e23 : u 23 = v23 := q23
  have e24 : u 24 = v24 := q24
  have e85 : u 85 = v85 := q85
  rw [e0, e1, e5, e6, e7, e8, e9, e11, e12, e13, e14, e15, e16, e17, e18, e19, e20, e21, e22, e23, e24, e85]
  clear q0 e0 q1 e1 q5 e5 q6 e6 q7 e7 q8 e8 q9 e9 q11 e11 q12 e12 q13 e13 q14 e14 q15 e15 q16 e16 q17 e17 q18 e18 q19 e19 q20 e20 q21 e21 q22 e22 q23 e23 q24 e24 q85 e85 hs1
  simp only [Try.f4, Option.getD_some, regOf] at hc
  injection hc with hc
  subst hc
  generalize u 2 = u2
  generalize u 3 = u3
  generalize u 4 = u4
  generalize u 10 = u10
  generalize u 25 = u25
  generalize u 26 = u26
  generalize u 27 = u27
  generalize u 28 = u28
  generalize u 29 = u29
  generalize u 30 = u30
  generalize u 31 = u31
  generalize u 32 = u32
  generalize u 33 = u33
  generalize u 34 = u34
  generalize u 35 = u35
  generalize u 36 = u36
  generalize u 37 = u37
  generalize u 38 = u38
  generalize u 39 = u39
  generalize u 40 = u40
  generalize u 41 = u41
  generalize u 42 = u42
  generalize u 43 = u43
  generalize u 44 = u44
  generalize u 45 = u45
  generalize u 46 = u46
  generalize u 47 = u47
  generalize u 48 = u48
  generalize u 49 = u49
  generalize u 50 = u50
  generalize u 51 = u51
  generalize u 52 = u52
  generalize u 53 = u53
  generalize u 54 = u54
  generalize u 55 = u55
  generalize u 56 = u56
  generalize u 57 = u57
  generalize u 58 = u58
  generalize u 59 = u59
  generalize u 60 = u60
  generalize u 61 = u61
  generalize u 62 = u62
  generalize u 63 = u63
  generalize u 64 = u64
  generalize u 65 = u65
  generalize u 66 = u66
  generalize u 67 = u67
  generalize u 68 = u68
  generalize u 69 = u69
  generalize u 70 = u70
  generalize u 71 = u71
  generalize u 72 = u72
  generalize u 73 = u73
  generalize u 74 = u74
  generalize u 75 = u75
  generalize u 76 = u76
  generalize u 77 = u77
  generalize u 78 = u78
  generalize u 79 = u79
  generalize u 80 = u80
  generalize u 81 = u81
  generalize u 82 = u82
  generalize u 83 = u83
  generalize u 84 = u84
  generalize u 86 = u86
  generalize u 87 = u87
  generalize u 88 = u88
  generalize u 89 = u89
  generalize u 90 = u90
  generalize u 91 = u91
  generalize u 92 = u92
  generalize u 93 = u93
  generalize u 94 = u94
  generalize u 95 = u95
  generalize u 96 = u96
  generalize u 97 = u97
  generalize u 98 = u98
  generalize u 99 = u99
  generalize u 100 = u100
  generalize u 101 = u101
  generalize u 102 = u102
  generalize u 103 = u103
  generalize u 104 = u104
  generalize u 105 = u105
  generalize u 106 = u106
  generalize u 107 = u107
  generalize u 108 = u108
  generalize u 109 = u109
  generalize u 110 = u110
  generalize u 111 = u111
  generalize u 112 = u112
  generalize u 113 = u113
  generalize u 114 = u114
  generalize u 115 = u115
  generalize u 116 = u116
  generalize u 117 = u117
  generalize u 118 = u118
  generalize u 119 = u119
  generalize u 120 = u120
  generalize u 121 = u121
  generalize u 122 = u122
  generalize u 123 = u123
  generalize u 124 = u124
  generalize u 125 = u125
  generalize u 126 = u126
  generalize u 127 = u127
  generalize u 128 = u128
  generalize u 129 = u129
  generalize u 130 = u130
  generalize u 131 = u131
  generalize u 132 = u132
  generalize u 133 = u133
  generalize u 134 = u134
  generalize u 135 = u135
  generalize u 136 = u136
  generalize u 137 = u137
  generalize u 138 = u138
  generalize u 139 = u139
  generalize u 140 = u140
  generalize u 141 = u141
  generalize u 142 = u142
  generalize u 143 = u143
  generalize u 144 = u144
  generalize u 145 = u145
  generalize u 146 = u146
  generalize u 147 = u147
  generalize u 148 = u148
  generalize u 149 = u149
  generalize u 150 = u150
  generalize u 151 = u151
  generalize u 152 = u152
  generalize u 153 = u153
  generalize u 154 = u154
  generalize u 155 = u155
  generalize u 156 = u156
  generalize u 157 = u157
  generalize u 158 = u158
  generalize u 159 = u159
  generalize u 160 = u160
  generalize u 161 = u161
  generalize u 162 = u162
  generalize u 163 = u163
  generalize u 164 = u164
  generalize u 165 = u165
  generalize u 166 = u166
  generalize u 167 = u167
  generalize u 168 = u168
  generalize u 169 = u169
  generalize u 170 = u170
  generalize u 171 = u171
  generalize u 172 = u172
  generalize u 173 = u173
  generalize u 174 = u174
  generalize u 175 = u175
  generalize u 176 = u176
  generalize u 177 = u177
  generalize u 178 = u178
  generalize u 179 = u179
  generalize u 180 = u180
  generalize u 181 = u181
  generalize u 182 = u182
  generalize u 183 = u183
  generalize u 184 = u184
  generalize u 185 = u185
  generalize u 186 = u186
  generalize u 187 = u187
  generalize u 188 = u188
  generalize u 189 = u189
  generalize u 190 = u190
  generalize u 191 = u191
  generalize u 192 = u192
  generalize u 193 = u193
  generalize u 194 = u194
  generalize u 195 = u195
  generalize u 196 = u196
  generalize u 197 = u197
  generalize u 198 = u198
  generalize u 199 = u199
  generalize u 200 = u200
  generalize u 201 = u201
  generalize u 202 = u202
  generalize u 203 = u203
  generalize u 204 = u204
  generalize u 205 = u205
  generalize u 206 = u206
  generalize u 207 = u207
  generalize u 208 = u208
  generalize u 209 = u209
  generalize u 210 = u210
  generalize u 211 = u211
  generalize u 212 = u212
  generalize u 213 = u213
  generalize u 214 = u214
  generalize u 215 = u215
  generalize u 216 = u216
  generalize u 217 = u217
  generalize u 218 = u218
  generalize u 219 = u219
  generalize u 220 = u220
  generalize u 221 = u221
  generalize u 222 = u222
  generalize u 223 = u223
  generalize u 224 = u224
  generalize u 225 = u225
  generalize u 226 = u226
  generalize u 227 = u227
  generalize u 228 = u228
  generalize u 229 = u229
  generalize u 230 = u230
  generalize u 231 = u231
  generalize u 232 = u232
  generalize u 233 = u233
  generalize u 234 = u234
  generalize u 235 = u235
  generalize u 236 = u236
  generalize u 237 = u237
  generalize u 238 = u238
  generalize u 239 = u239
  generalize u 240 = u240
  generalize u 241 = u241
  generalize u 242 = u242
  generalize u 243 = u243
  generalize u 244 = u244
  generalize u 245 = u245
  generalize u 246 = u246
  generalize u 247 = u247
  generalize u 248 = u248
  generalize u 249 = u249
  generalize u 250 = u250
  generalize u 251 = u251
  generalize u 252 = u252
  generalize u 253 = u253
  generalize u 254 = u254
  generalize u 255 = u255
  generalize u 256 = u256
  generalize u 257 = u257
  generalize u 258 = u258
  generalize u 259 = u259
  generalize u 260 = u260
  generalize u 261 = u261
  generalize u 262 = u262
  generalize u 263 = u263
  generalize u 264 = u264
  generalize u 265 = u265
  generalize u 266 = u266
  generalize u 267 = u267
  generalize u 268 = u268
  generalize u 269 = u269
  generalize u 270 = u270
  generalize u 271 = u271
  generalize u 272 = u272
  generalize u 273 = u273
  generalize u 274 = u274
  generalize u 275 = u275
  generalize u 276 = u276
  generalize u 277 = u277
  generalize u 278 = u278
  generalize u 279 = u279
  generalize u 280 = u280
  generalize u 281 = u281
  generalize u 282 = u282
  generalize u 283 = u283
  generalize u 284 = u284
  generalize u 285 = u285
  generalize u 286 = u286
  generalize u 287 = u287
  generalize u 288 = u288
  generalize u 289 = u289
  generalize u 290 = u290
  generalize u 291 = u291
  generalize u 292 = u292
  generalize u 293 = u293
  generalize u 294 = u294
  generalize u 295 = u295
  generalize u 296 = u296
  generalize u 297 = u297
  generalize u 298 = u298
  generalize u 299 = u299
  clear u
  have HA := hide hA
  obtain ⟨c0, c1, c2, c3⟩ := hA.pa.cp
  have HX := hide hk
  have hk0 : (0 : Int) ≤ (k : Int) := by omega
  have hk1 : (k : Int) < 2 := by have := ix_lt x; omega
  have HB := hide hB
  have cl := hA.pa.cl x
  rw [← hk] at cl
  have HS := hide (fun W (hW : PL W (G.b x) (G.v x) (p.l x)) => ptake hW f hfo)
  have HKK := hide (enters_of Try.func16 (by kernel_rfl) rfl)
  have PD : Hid (PL wq.drew (G.b x) (G.v x) (p.l x)) := hA.pa.drew.link x
  obtain ⟨y0, y1, y2, y3, y4⟩ := box5f hB.at_
  have own : ∀ j, pown (G.b x) (G.v x) j → 1 ≤ r j := fun j hj => by
    rcases hj with rfl | hj
    · rw [HA.out.pa.rb x]; omega
    · rw [HA.out.pa.rv x j hj]; omega
  have OW := hide own
  obtain ⟨bodies, hbo⟩ : ∃ bodies, ((p.l x).take f).1.1 = bodies := ⟨_, rfl⟩
  obtain ⟨res, hre⟩ : ∃ res, ((p.l x).take f).1.2 = res := ⟨_, rfl⟩
  obtain ⟨l2, hl2⟩ : ∃ l2, ((p.l x).take f).2 = l2 := ⟨_, rfl⟩
  rw [hbo, hre, hl2] at HS HQ
  obtain ⟨nb, hnb⟩ : ∃ nb, bodies.length = nb := ⟨_, rfl⟩
  rw [hnb] at HS HQ
  have HNB := hide hnb
  clear hbo hre hl2 hnb
  obtain ⟨fe, fp, fs, fa, fy⟩ := f
  simp only [FR.v] at *
  clear own hA hk hB hfo
  go_region_held_law (fun w' => w'.cell? ⟨G.pb, 0, none⟩ = some (sl2 G.lb) ∧ w'.cell? ⟨G.lb, k, none⟩ = some (.pointer (some ⟨G.b x, 0, none⟩)) ∧ w'.cell? ⟨fb, 0, none⟩ = some (.int .i64 fe) ∧ w'.cell? ⟨fb, 1, none⟩ = some (.int .i64 fp) ∧ w'.cell? ⟨fb, 2, none⟩ = some (.int .i64 fs) ∧ w'.cell? ⟨fb, 3, none⟩ = some (.int .i64 fa) ∧ w'.cell? ⟨fb, 4, none⟩ = some (.string fy)) (first | exact KS.out | exact ⟨c0, cl, y0, y1, y2, y3, y4⟩) ((refine step_fn_d (by rfl) 124 (by rfl) 16 _ _ (by rfl) HKK.out [.pointer (some ⟨G.b x, 0, none⟩), .agg #[.int .i64 fe, .int .i64 fp, .int .i64 fs, .int .i64 fa, .string fy]] rfl (HS.out _ PD.out) ?_; rintro e w1 ⟨ao, cp, v1, rfl, tk⟩; refine ⟨_, rfl, ?_⟩; have P1 := hide (HA.out.drew.pair (HA.out.drew.pa.call x tk.link tk.step) tk.step.touch (fun j e _ => OW.out j e) (fun j e => upd_old e)); have B1 := hide (below_of_drew (HA.out.drew.pa.toBelow tk.step.touch fun j e _ => OW.out j e)); have R1 := hide tk.row; have KF := hide (HB.out.drew.pair (r' := upd r wq.heap.size v1.ownBlock (8 + ix x)) tk.step.touch (fun j e _ => OW.out j e) (fun j e => upd_old e)); have KS : Hid (w1.cell? ⟨G.pb, 0, none⟩ = some (sl2 G.lb) ∧ w1.cell? ⟨G.lb, k, none⟩ = some (.pointer (some ⟨G.b x, 0, none⟩)) ∧ w1.cell? ⟨fb, 0, none⟩ = some (.int .i64 fe) ∧ w1.cell? ⟨fb, 1, none⟩ = some (.int .i64 fp) ∧ w1.cell? ⟨fb, 2, none⟩ = some (.int .i64 fs) ∧ w1.cell? ⟨fb, 3, none⟩ = some (.int .i64 fa) ∧ w1.cell? ⟨fb, 4, none⟩ = some (.string fy)) := ⟨P1.out.pa.cp.1, by rw [HX.out]; exact P1.out.pa.cl x, box5f KF.out.at_⟩; clear tk))
  all_goals exact HQ.out _ _ v1 _ ao cp ⟨rfl, rfl, rfl, rfl, rfl, rfl, rfl, rfl, rfl, rfl, rfl, rfl, rfl, rfl, rfl, rfl, rfl, rfl, rfl, rfl, rfl, rfl, rfl, rfl⟩ P1.out KF.out (by have h9 := R1.out; rw [HNB.out] at h9; exact h9) B1.out
end Go.Proofs.Ythgfijmpofbchaa
/-
  LinkAnew: regions of it as they run (mkanew.py).
-/
namespace Go.Proofs.Ythgfijmpofbchaa
open Go.RowKit

attribute [local go_sem ↓] Go.wp_at_zero Go.wp_at_succ
set_option linter.unusedSimpArgs false
set_option linter.unusedVariables false
set_option maxHeartbeats 8000000 in
set_option maxRecDepth 100000 in
theorem anew_r43 {K : Act → World → Prop} {c : Code} (hc : regOf (Try.f4.body.getD .skip) 43 = some c) (a : Act) {v : AV} {wq : World} {B : BE} {G : PG} {r q : Nat → Nat} {p : PR} {rv : Nat → Value} {rl : Nat → List ByteArray} {d : Nat} {t : TN} (hF : AF a v) (h17v : v.v17 = .pointer (some ⟨d, 0, none⟩)) (h14v : v.v14 = rv 1) (hA : AM B wq G r q p rv rl) (hD : BX wq r q d (.cells t.c 52 (0, 0))) (hl : (rl 1).length ≤ 100000)
    (hQ : ∀ a' w' v' rr qq, AF a' { v with v14 := v' } → AM B w' G rr qq p (putv rv 1 v') (putv rl 1 (rl 1 ++ [t.s])) → Below B.n wq w' → K a' w') :
    Code.wp Try.prog c (Exit.then K fun _ _ _ => False) a wq := by
  have HQ := hide hQ
  clear hQ
  obtain ⟨t', d'⟩ := a
  obtain ⟨v0, v1, v5, v6, v7, v8, v9, v11, v12, v13, v14, v15, v16, v17, v18, v19, v20, v21, v22, v23, v24, v85⟩ := v
  simp only at h17v h14v HQ
  subst h17v h14v
  obtain ⟨hs1, hd1, q0, q1, q5, q6, q7, q8, q9, q11, q12, q13, q14, q15, q16, q17, q18, q19, q20, q21, q22, q23, q24, q85⟩ := hF
  obtain ⟨u, hu⟩ := frame300 t' hs1
  simp only at hd1 q0 q1 q5 q6 q7 q8 q9 q11 q12 q13 q14 q15 q16 q17 q18 q19 q20 q21 q22 q23 q24 q85
  subst hu hd1
  have e0 : u 0 = v0 := q0
  have e1 : u 1 = v1 := q1
  have e5 : u 5 = v5 := q5
  have e6 : u 6 = v6 := q6
  have e7 : u 7 = v7 := q7
  have e8 : u 8 = v8 := q8
  have e9 : u 9 = v9 := q9
  have e11 : u 11 = v11 := q11
  have e12 : u 12 = v12 := q12
  have e13 : u 13 = v13 := q13
  have e14 : u 14 = rv 1 := q14
  have e15 : u 15 = v15 := q15
  have e16 : u 16 = v16 := q16
  have e17 : u 17 = .pointer (some ⟨d, 0, none⟩) := q17
  have e18 : u 18 = v18 := q18
  have e19 : u 19 = v19 := q19
  have e20 : u 20 = v20 := q20
  have e21 : u 21 = v21 := q21
  have e22 : u 22 = v22 := q22
  have e23 : u 23 = v23 := q23
  have e24 : u 24 = v24 := q24
  have e85 : u 85 = v85 := q85
  rw [e0, e1, e5, e6, e7, e8, e9, e11, e12, e13, e14, e15, e16, e17, e18, e19, e20, e21, e22, e23, e24, e85]
  clear q0 e0 q1 e1 q5 e5 q6 e6 q7 e7 q8 e8 q9 e9 q11 e11 q12 e12 q13 e13 q14 e14 q15 e15 q16 e16 q17 e17 q18 e18 q19 e19 q20 e20 q21 e21 q22 e22 q23 e23 q24 e24 q85 e85 hs1
  simp only [Try.f4, Option.getD_some, regOf] at hc
  injection hc with hc
  subst hc
  generalize u 2 = u2
  generalize u 3 = u3
  generalize u 4 = u4
  generalize u 10 = u10
  generalize u 25 = u25
  generalize u 26 = u26
  generalize u 27 = u27
  generalize u 28 = u28
  generalize u 29 = u29
  generalize u 30 = u30
  generalize u 31 = u31
  generalize u 32 = u32
  generalize u 33 = u33
  generalize u 34 = u34
  generalize u 35 = u35
  generalize u 36 = u36
  generalize u 37 = u37
  generalize u 38 = u38
  generalize u 39 = u39
  generalize u 40 = u40
  generalize u 41 = u41
  generalize u 42 = u42
  generalize u 43 = u43
  generalize u 44 = u44
  generalize u 45 = u45
  generalize u 46 = u46
  generalize u 47 = u47
  generalize u 48 = u48
  generalize u 49 = u49
  generalize u 50 = u50
  generalize u 51 = u51
  generalize u 52 = u52
  generalize u 53 = u53
  generalize u 54 = u54
  generalize u 55 = u55
  generalize u 56 = u56
  generalize u 57 = u57
  generalize u 58 = u58
  generalize u 59 = u59
  generalize u 60 = u60
  generalize u 61 = u61
  generalize u 62 = u62
  generalize u 63 = u63
  generalize u 64 = u64
  generalize u 65 = u65
  generalize u 66 = u66
  generalize u 67 = u67
  generalize u 68 = u68
  generalize u 69 = u69
  generalize u 70 = u70
  generalize u 71 = u71
  generalize u 72 = u72
  generalize u 73 = u73
  generalize u 74 = u74
  generalize u 75 = u75
  generalize u 76 = u76
  generalize u 77 = u77
  generalize u 78 = u78
  generalize u 79 = u79
  generalize u 80 = u80
  generalize u 81 = u81
  generalize u 82 = u82
  generalize u 83 = u83
  generalize u 84 = u84
  generalize u 86 = u86
  generalize u 87 = u87
  generalize u 88 = u88
  generalize u 89 = u89
  generalize u 90 = u90
  generalize u 91 = u91
  generalize u 92 = u92
  generalize u 93 = u93
  generalize u 94 = u94
  generalize u 95 = u95
  generalize u 96 = u96
  generalize u 97 = u97
  generalize u 98 = u98
  generalize u 99 = u99
  generalize u 100 = u100
  generalize u 101 = u101
  generalize u 102 = u102
  generalize u 103 = u103
  generalize u 104 = u104
  generalize u 105 = u105
  generalize u 106 = u106
  generalize u 107 = u107
  generalize u 108 = u108
  generalize u 109 = u109
  generalize u 110 = u110
  generalize u 111 = u111
  generalize u 112 = u112
  generalize u 113 = u113
  generalize u 114 = u114
  generalize u 115 = u115
  generalize u 116 = u116
  generalize u 117 = u117
  generalize u 118 = u118
  generalize u 119 = u119
  generalize u 120 = u120
  generalize u 121 = u121
  generalize u 122 = u122
  generalize u 123 = u123
  generalize u 124 = u124
  generalize u 125 = u125
  generalize u 126 = u126
  generalize u 127 = u127
  generalize u 128 = u128
  generalize u 129 = u129
  generalize u 130 = u130
  generalize u 131 = u131
  generalize u 132 = u132
  generalize u 133 = u133
  generalize u 134 = u134
  generalize u 135 = u135
  generalize u 136 = u136
  generalize u 137 = u137
  generalize u 138 = u138
  generalize u 139 = u139
  generalize u 140 = u140
  generalize u 141 = u141
  generalize u 142 = u142
  generalize u 143 = u143
  generalize u 144 = u144
  generalize u 145 = u145
  generalize u 146 = u146
  generalize u 147 = u147
  generalize u 148 = u148
  generalize u 149 = u149
  generalize u 150 = u150
  generalize u 151 = u151
  generalize u 152 = u152
  generalize u 153 = u153
  generalize u 154 = u154
  generalize u 155 = u155
  generalize u 156 = u156
  generalize u 157 = u157
  generalize u 158 = u158
  generalize u 159 = u159
  generalize u 160 = u160
  generalize u 161 = u161
  generalize u 162 = u162
  generalize u 163 = u163
  generalize u 164 = u164
  generalize u 165 = u165
  generalize u 166 = u166
  generalize u 167 = u167
  generalize u 168 = u168
  generalize u 169 = u169
  generalize u 170 = u170
  generalize u 171 = u171
  generalize u 172 = u172
  generalize u 173 = u173
  generalize u 174 = u174
  generalize u 175 = u175
  generalize u 176 = u176
  generalize u 177 = u177
  generalize u 178 = u178
  generalize u 179 = u179
  generalize u 180 = u180
  generalize u 181 = u181
  generalize u 182 = u182
  generalize u 183 = u183
  generalize u 184 = u184
  generalize u 185 = u185
  generalize u 186 = u186
  generalize u 187 = u187
  generalize u 188 = u188
  generalize u 189 = u189
  generalize u 190 = u190
  generalize u 191 = u191
  generalize u 192 = u192
  generalize u 193 = u193
  generalize u 194 = u194
  generalize u 195 = u195
  generalize u 196 = u196
  generalize u 197 = u197
  generalize u 198 = u198
  generalize u 199 = u199
  generalize u 200 = u200
  generalize u 201 = u201
  generalize u 202 = u202
  generalize u 203 = u203
  generalize u 204 = u204
  generalize u 205 = u205
  generalize u 206 = u206
  generalize u 207 = u207
  generalize u 208 = u208
  generalize u 209 = u209
  generalize u 210 = u210
  generalize u 211 = u211
  generalize u 212 = u212
  generalize u 213 = u213
  generalize u 214 = u214
  generalize u 215 = u215
  generalize u 216 = u216
  generalize u 217 = u217
  generalize u 218 = u218
  generalize u 219 = u219
  generalize u 220 = u220
  generalize u 221 = u221
  generalize u 222 = u222
  generalize u 223 = u223
  generalize u 224 = u224
  generalize u 225 = u225
  generalize u 226 = u226
  generalize u 227 = u227
  generalize u 228 = u228
  generalize u 229 = u229
  generalize u 230 = u230
  generalize u 231 = u231
  generalize u 232 = u232
  generalize u 233 = u233
  generalize u 234 = u234
  generalize u 235 = u235
  generalize u 236 = u236
  generalize u 237 = u237
  generalize u 238 = u238
  generalize u 239 = u239
  generalize u 240 = u240
  generalize u 241 = u241
  generalize u 242 = u242
  generalize u 243 = u243
  generalize u 244 = u244
  generalize u 245 = u245
  generalize u 246 = u246
  generalize u 247 = u247
  generalize u 248 = u248
  generalize u 249 = u249
  generalize u 250 = u250
  generalize u 251 = u251
  generalize u 252 = u252
  generalize u 253 = u253
  generalize u 254 = u254
  generalize u 255 = u255
  generalize u 256 = u256
  generalize u 257 = u257
  generalize u 258 = u258
  generalize u 259 = u259
  generalize u 260 = u260
  generalize u 261 = u261
  generalize u 262 = u262
  generalize u 263 = u263
  generalize u 264 = u264
  generalize u 265 = u265
  generalize u 266 = u266
  generalize u 267 = u267
  generalize u 268 = u268
  generalize u 269 = u269
  generalize u 270 = u270
  generalize u 271 = u271
  generalize u 272 = u272
  generalize u 273 = u273
  generalize u 274 = u274
  generalize u 275 = u275
  generalize u 276 = u276
  generalize u 277 = u277
  generalize u 278 = u278
  generalize u 279 = u279
  generalize u 280 = u280
  generalize u 281 = u281
  generalize u 282 = u282
  generalize u 283 = u283
  generalize u 284 = u284
  generalize u 285 = u285
  generalize u 286 = u286
  generalize u 287 = u287
  generalize u 288 = u288
  generalize u 289 = u289
  generalize u 290 = u290
  generalize u 291 = u291
  generalize u 292 = u292
  generalize u 293 = u293
  generalize u 294 = u294
  generalize u 295 = u295
  generalize u 296 = u296
  generalize u 297 = u297
  generalize u 298 = u298
  generalize u 299 = u299
  clear u
  have HA := hide hA
  have HD := hide hD
  have cd := box_cell hD.at_ 3 rfl
  have hrow := hA.row 1
  obtain ⟨i0, hi0, hz0, hz1, hz2⟩ := info_parts infoStr
  obtain ⟨so, sc, hsv⟩ := row_slice hrow
  obtain ⟨n, hn⟩ : ∃ n, (rl 1).length = n := ⟨_, rfl⟩
  have HN := hide hn
  rw [hn] at hl
  rw [hsv, hn] at hrow
  rw [hn] at hsv
  have RO := hide hrow
  have SV := hide hsv
  rw [hsv]
  clear hA hD hrow hsv hn
  obtain ⟨tk, tw, ti, ts⟩ := t
  simp only [TN.c] at *
  go_wp2_with (first | (at_builtin; refine wpList_append_own_at _ rfl _ _ 40 rfl B.n 9 i0 _ 1 16 Try.underlying40 hi0 hz0 hz1 hz2 rfl (by omega) (.slice so n sc) n ((rl 1).map .string) rfl (RO.out.alloc _) ⟨wq.heap.size, 0, none⟩ 1 1 [.string ts] rfl rfl (World.news_of_block (cs := #[.string ts]) (t := 9) (fr := (0, 0)) (heap_alloc_new wq _)) (by simp [Value.oneCell']) (by unfold maxLen; omega) (by omega) (by have := HA.out.pa.size; simp; omega) ?_; intro v4 w4 hown4 hgrow4 hnil4 hloc4; obtain ⟨a4, c4, rfl⟩ := row_slice hown4) | go_in)
  have T4 : Touch (fun j => (rv 1).ownBlock = some j) wq w4 := ((Touch.refl _ wq).alloc _).grown hgrow4 fun j e _ => by rw [SV.out]; exact e
  refine HQ.out _ _ (.slice a4 (n + 1) c4) _ _ ⟨rfl, rfl, rfl, rfl, rfl, rfl, rfl, rfl, rfl, rfl, rfl, rfl, rfl, rfl, rfl, rfl, rfl, rfl, rfl, rfl, rfl, rfl, rfl, rfl⟩ (HA.out.grow 1 (v' := .slice a4 (n + 1) c4) (L := rl 1 ++ [ts]) T4 (by rw [List.length_append, HN.out, List.map_append]; exact hown4) fun j e => ?_) (HA.out.toBelow 1 T4)
  rcases hloc4 with h | h
  · exact .inl (by rw [SV.out]; exact h ▸ e)
  · exact .inr (by rw [h] at e; have h2 := Option.some.inj e; simp at h2; omega)
end Go.Proofs.Ythgfijmpofbchaa
/-
  LinkAnew: regions of it as they run (mkanew.py).
-/
namespace Go.Proofs.Ythgfijmpofbchaa
open Go.RowKit

attribute [local go_sem ↓] Go.wp_at_zero Go.wp_at_succ
set_option linter.unusedSimpArgs false
set_option linter.unusedVariables false
set_option maxHeartbeats 8000000 in
set_option maxRecDepth 100000 in
theorem anew_r33 {K : Act → World → Prop} {c : Code} (hc : regOf (Try.f4.body.getD .skip) 33 = some c) (a : Act) {v : AV} {wq : World} {B : BE} {G : PG} {r q : Nat → Nat} {p : PR} {rv : Nat → Value} {rl : Nat → List ByteArray} {fb : Nat} {o : Obj} {ys : List ByteArray} {ab : Option Addr} {cb B2 : Nat} (hF : AF a v) (h21v : v.v21 = .slice ab ys.length cb) (h12v : v.v12 = rv 0) (hA : AM B wq G r q p rv rl) (hB : BX wq r q fb o) (hl : (rl 0).length ≤ 100000) (hml : ys.length ≤ 100000) (hR : wq.ownsRow B2 9 1 (.slice ab ys.length cb) ys.length (ys.map .string))
    (hQ : ∀ a' w' v' rr qq, AF a' { v with v12 := v' } → AM B w' G rr qq p (putv rv 0 v') (putv rl 0 (rl 0 ++ ys)) → BX w' rr qq fb o → Below B.n wq w' → K a' w') :
    Code.wp Try.prog c (Exit.then K fun _ _ _ => False) a wq := by
  have HQ := hide hQ
  clear hQ
  obtain ⟨t', d'⟩ := a
  obtain ⟨v0, v1, v5, v6, v7, v8, v9, v11, v12, v13, v14, v15, v16, v17, v18, v19, v20, v21, v22, v23, v24, v85⟩ := v
  simp only at h21v h12v HQ
  subst h21v h12v
  obtain ⟨hs1, hd1, q0, q1, q5, q6, q7, q8, q9, q11, q12, q13, q14, q15, q16, q17, q18, q19, q20, q21, q22, q23, q24, q85⟩ := hF
  obtain ⟨u, hu⟩ := frame300 t' hs1
  simp only at hd1 q0 q1 q5 q6 q7 q8 q9 q11 q12 q13 q14 q15 q16 q17 q18 q19 q20 q21 q22 q23 q24 q85
  subst hu hd1
  have e0 : u 0 = v0 := q0
  have e1 : u 1 = v1 := q1
  have e5 : u 5 = v5 := q5
  have e6 : u 6 = v6 := q6
  have e7 : u 7 = v7 := q7
  have e8 : u 8 = v8 := q8
  have e9 : u 9 = v9 := q9
  have e11 : u 11 = v11 := q11
  have e12 : u 12 = rv 0 := q12
  have e13 : u 13 = v13 := q13
  have e14 : u 14 = v14 := q14
  have e15 : u 15 = v15 := q15
  have e16 : u 16 = v16 := q16
  have e17 : u 17 = v17 := q17
  have e18 : u 18 = v18 := q18
  have e19 : u 19 = v19 := q19
  have e20 : u 20 = v20 := q20
  have e21 : u 21 = .slice ab ys.length cb := q21
  have e22 : u 22 = v22 := q22
  have e23 : u 23 = v23 := q23
  have e24 : u 24 = v24 := q24
  have e85 : u 85 = v85 := q85
  rw [e0, e1, e5, e6, e7, e8, e9, e11, e12, e13, e14, e15, e16, e17, e18, e19, e20, e21, e22, e23, e24, e85]
  clear q0 e0 q1 e1 q5 e5 q6 e6 q7 e7 q8 e8 q9 e9 q11 e11 q12 e12 q13 e13 q14 e14 q15 e15 q16 e16 q17 e17 q18 e18 q19 e19 q20 e20 q21 e21 q22 e22 q23 e23 q24 e24 q85 e85 hs1
  simp only [Try.f4, Option.getD_some, regOf] at hc
  injection hc with hc
  subst hc
  generalize u 2 = u2
  generalize u 3 = u3
  generalize u 4 = u4
  generalize u 10 = u10
  generalize u 25 = u25
  generalize u 26 = u26
  generalize u 27 = u27
  generalize u 28 = u28
  generalize u 29 = u29
  generalize u 30 = u30
  generalize u 31 = u31
  generalize u 32 = u32
  generalize u 33 = u33
  generalize u 34 = u34
  generalize u 35 = u35
  generalize u 36 = u36
  generalize u 37 = u37
  generalize u 38 = u38
  generalize u 39 = u39
  generalize u 40 = u40
  generalize u 41 = u41
  generalize u 42 = u42
  generalize u 43 = u43
  generalize u 44 = u44
  generalize u 45 = u45
  generalize u 46 = u46
  generalize u 47 = u47
  generalize u 48 = u48
  generalize u 49 = u49
  generalize u 50 = u50
  generalize u 51 = u51
  generalize u 52 = u52
  generalize u 53 = u53
  generalize u 54 = u54
  generalize u 55 = u55
  generalize u 56 = u56
  generalize u 57 = u57
  generalize u 58 = u58
  generalize u 59 = u59
  generalize u 60 = u60
  generalize u 61 = u61
  generalize u 62 = u62
  generalize u 63 = u63
  generalize u 64 = u64
  generalize u 65 = u65
  generalize u 66 = u66
  generalize u 67 = u67
  generalize u 68 = u68
  generalize u 69 = u69
  generalize u 70 = u70
  generalize u 71 = u71
  generalize u 72 = u72
  generalize u 73 = u73
  generalize u 74 = u74
  generalize u 75 = u75
  generalize u 76 = u76
  generalize u 77 = u77
  generalize u 78 = u78
  generalize u 79 = u79
  generalize u 80 = u80
  generalize u 81 = u81
  generalize u 82 = u82
  generalize u 83 = u83
  generalize u 84 = u84
  generalize u 86 = u86
  generalize u 87 = u87
  generalize u 88 = u88
  generalize u 89 = u89
  generalize u 90 = u90
  generalize u 91 = u91
  generalize u 92 = u92
  generalize u 93 = u93
  generalize u 94 = u94
  generalize u 95 = u95
  generalize u 96 = u96
  generalize u 97 = u97
  generalize u 98 = u98
  generalize u 99 = u99
  generalize u 100 = u100
  generalize u 101 = u101
  generalize u 102 = u102
  generalize u 103 = u103
  generalize u 104 = u104
  generalize u 105 = u105
  generalize u 106 = u106
  generalize u 107 = u107
  generalize u 108 = u108
  generalize u 109 = u109
  generalize u 110 = u110
  generalize u 111 = u111
  generalize u 112 = u112
  generalize u 113 = u113
  generalize u 114 = u114
  generalize u 115 = u115
  generalize u 116 = u116
  generalize u 117 = u117
  generalize u 118 = u118
  generalize u 119 = u119
  generalize u 120 = u120
  generalize u 121 = u121
  generalize u 122 = u122
  generalize u 123 = u123
  generalize u 124 = u124
  generalize u 125 = u125
  generalize u 126 = u126
  generalize u 127 = u127
  generalize u 128 = u128
  generalize u 129 = u129
  generalize u 130 = u130
  generalize u 131 = u131
  generalize u 132 = u132
  generalize u 133 = u133
  generalize u 134 = u134
  generalize u 135 = u135
  generalize u 136 = u136
  generalize u 137 = u137
  generalize u 138 = u138
  generalize u 139 = u139
  generalize u 140 = u140
  generalize u 141 = u141
  generalize u 142 = u142
  generalize u 143 = u143
  generalize u 144 = u144
  generalize u 145 = u145
  generalize u 146 = u146
  generalize u 147 = u147
  generalize u 148 = u148
  generalize u 149 = u149
  generalize u 150 = u150
  generalize u 151 = u151
  generalize u 152 = u152
  generalize u 153 = u153
  generalize u 154 = u154
  generalize u 155 = u155
  generalize u 156 = u156
  generalize u 157 = u157
  generalize u 158 = u158
  generalize u 159 = u159
  generalize u 160 = u160
  generalize u 161 = u161
  generalize u 162 = u162
  generalize u 163 = u163
  generalize u 164 = u164
  generalize u 165 = u165
  generalize u 166 = u166
  generalize u 167 = u167
  generalize u 168 = u168
  generalize u 169 = u169
  generalize u 170 = u170
  generalize u 171 = u171
  generalize u 172 = u172
  generalize u 173 = u173
  generalize u 174 = u174
  generalize u 175 = u175
  generalize u 176 = u176
  generalize u 177 = u177
  generalize u 178 = u178
  generalize u 179 = u179
  generalize u 180 = u180
  generalize u 181 = u181
  generalize u 182 = u182
  generalize u 183 = u183
  generalize u 184 = u184
  generalize u 185 = u185
  generalize u 186 = u186
  generalize u 187 = u187
  generalize u 188 = u188
  generalize u 189 = u189
  generalize u 190 = u190
  generalize u 191 = u191
  generalize u 192 = u192
  generalize u 193 = u193
  generalize u 194 = u194
  generalize u 195 = u195
  generalize u 196 = u196
  generalize u 197 = u197
  generalize u 198 = u198
  generalize u 199 = u199
  generalize u 200 = u200
  generalize u 201 = u201
  generalize u 202 = u202
  generalize u 203 = u203
  generalize u 204 = u204
  generalize u 205 = u205
  generalize u 206 = u206
  generalize u 207 = u207
  generalize u 208 = u208
  generalize u 209 = u209
  generalize u 210 = u210
  generalize u 211 = u211
  generalize u 212 = u212
  generalize u 213 = u213
  generalize u 214 = u214
  generalize u 215 = u215
  generalize u 216 = u216
  generalize u 217 = u217
  generalize u 218 = u218
  generalize u 219 = u219
  generalize u 220 = u220
  generalize u 221 = u221
  generalize u 222 = u222
  generalize u 223 = u223
  generalize u 224 = u224
  generalize u 225 = u225
  generalize u 226 = u226
  generalize u 227 = u227
  generalize u 228 = u228
  generalize u 229 = u229
  generalize u 230 = u230
  generalize u 231 = u231
  generalize u 232 = u232
  generalize u 233 = u233
  generalize u 234 = u234
  generalize u 235 = u235
  generalize u 236 = u236
  generalize u 237 = u237
  generalize u 238 = u238
  generalize u 239 = u239
  generalize u 240 = u240
  generalize u 241 = u241
  generalize u 242 = u242
  generalize u 243 = u243
  generalize u 244 = u244
  generalize u 245 = u245
  generalize u 246 = u246
  generalize u 247 = u247
  generalize u 248 = u248
  generalize u 249 = u249
  generalize u 250 = u250
  generalize u 251 = u251
  generalize u 252 = u252
  generalize u 253 = u253
  generalize u 254 = u254
  generalize u 255 = u255
  generalize u 256 = u256
  generalize u 257 = u257
  generalize u 258 = u258
  generalize u 259 = u259
  generalize u 260 = u260
  generalize u 261 = u261
  generalize u 262 = u262
  generalize u 263 = u263
  generalize u 264 = u264
  generalize u 265 = u265
  generalize u 266 = u266
  generalize u 267 = u267
  generalize u 268 = u268
  generalize u 269 = u269
  generalize u 270 = u270
  generalize u 271 = u271
  generalize u 272 = u272
  generalize u 273 = u273
  generalize u 274 = u274
  generalize u 275 = u275
  generalize u 276 = u276
  generalize u 277 = u277
  generalize u 278 = u278
  generalize u 279 = u279
  generalize u 280 = u280
  generalize u 281 = u281
  generalize u 282 = u282
  generalize u 283 = u283
  generalize u 284 = u284
  generalize u 285 = u285
  generalize u 286 = u286
  generalize u 287 = u287
  generalize u 288 = u288
  generalize u 289 = u289
  generalize u 290 = u290
  generalize u 291 = u291
  generalize u 292 = u292
  generalize u 293 = u293
  generalize u 294 = u294
  generalize u 295 = u295
  generalize u 296 = u296
  generalize u 297 = u297
  generalize u 298 = u298
  generalize u 299 = u299
  clear u
  have HA := hide hA
  have HB := hide hB
  have hrow := hA.row 0
  obtain ⟨i0, hi0, hz0, hz1, hz2⟩ := info_parts infoStr
  obtain ⟨so, sc, hsv⟩ := row_slice hrow
  obtain ⟨n, hn⟩ : ∃ n, (rl 0).length = n := ⟨_, rfl⟩
  have HN := hide hn
  rw [hn] at hl
  rw [hsv, hn] at hrow
  rw [hn] at hsv
  have RO := hide hrow
  have SV := hide hsv
  have HR := hide hR
  have HLB := hide (fun j e => (hR.lt j e).2)
  rw [hsv]
  obtain ⟨m, hm⟩ : ∃ m, ys.length = m := ⟨_, rfl⟩
  have HM := hide hm
  rw [hm] at hml HQ hR ⊢
  clear hA hB hrow hsv hn
  cases ab with
  | none =>
    have h0 : m = 0 ∧ cb = 0 := by
      rcases hR.2 with ⟨h1, h2⟩ | ⟨_, _, _, h1, _⟩
      · injection h1 with _ h3 h4
        exact ⟨by omega, h4⟩
      · cases h1
    obtain ⟨rfl, rfl⟩ := h0
    clear hR
    have hys : ys = [] := List.eq_nil_of_length_eq_zero HM.out
    go_wp2_with (first | (at_builtin; refine wpList_append_own_none rfl _ _ 40 rfl B.n 9 i0 1 Try.underlying40 hi0 (.slice so n sc) n ((rl 0).map .string) rfl RO.out rfl ?_) | go_in)
    refine HQ.out _ _ (.slice so n sc) _ _ ⟨rfl, rfl, rfl, rfl, rfl, rfl, rfl, rfl, rfl, rfl, rfl, rfl, rfl, rfl, rfl, rfl, rfl, rfl, rfl, rfl, rfl, rfl, rfl, rfl⟩ (HA.out.grow 0 (v' := .slice so n sc) (L := rl 0 ++ ys) (Touch.refl _ wq) (by rw [hys, List.append_nil, HN.out]; exact RO.out) (fun j e => .inl (by rw [SV.out]; exact e))) (BX.grow HA.out HB.out 0 (Touch.refl _ wq)) (Below.refl _ wq)
  | some ad =>
    have hnews : Hid (∀ j u, (ys.map Value.string)[j]? = some u → wq.cell? (ad.add j) = some u) := by
      rcases hR.2 with ⟨h1, _⟩ | ⟨g, _, _, h1, _⟩
      · cases h1
      · injection h1 with h1 _ _
        obtain rfl := Option.some.inj h1
        exact hR.cells rfl
    clear hR
    go_wp2_with (first | (at_builtin; refine wpList_append_own_at _ rfl _ _ 40 rfl B.n 9 i0 _ 1 16 Try.underlying40 hi0 hz0 hz1 hz2 rfl (by omega) (.slice so n sc) n ((rl 0).map .string) rfl RO.out ad m cb (ys.map .string) rfl (by rw [List.length_map, HM.out, Nat.mul_one]) hnews.out (by intro u hu; obtain ⟨y, _, rfl⟩ := List.mem_map.1 hu; rfl) (by unfold maxLen; omega) (by omega) HA.out.pa.size ?_; intro v4 w4 hown4 hgrow4 hnil4 hloc4; obtain ⟨a4, c4, rfl⟩ := row_slice hown4) | go_in)
    have T4 : Touch (fun j => (rv 0).ownBlock = some j) wq w4 := (Touch.refl _ wq).grown hgrow4 fun j e _ => by rw [SV.out]; exact e
    refine HQ.out _ _ (.slice a4 (n + m) c4) _ _ ⟨rfl, rfl, rfl, rfl, rfl, rfl, rfl, rfl, rfl, rfl, rfl, rfl, rfl, rfl, rfl, rfl, rfl, rfl, rfl, rfl, rfl, rfl, rfl, rfl⟩ (HA.out.grow 0 (v' := .slice a4 (n + m) c4) (L := rl 0 ++ ys) T4 (by rw [List.length_append, HN.out, HM.out, List.map_append]; exact hown4) fun j e => ?_) (BX.grow HA.out HB.out 0 T4) (HA.out.toBelow 0 T4)
    rcases hloc4 with h | h
    · exact .inl (by rw [SV.out]; exact h ▸ e)
    · exact .inr (by rw [h] at e; have h2 := Option.some.inj e; omega)
set_option maxHeartbeats 8000000 in
set_option maxRecDepth 100000 in
theorem anew_r35 {K : Act → World → Prop} {c : Code} (hc : regOf (Try.f4.body.getD .skip) 35 = some c) (a : Act) {v : AV} {wq : World} {B : BE} {G : PG} {r q : Nat → Nat} {p : PR} {rv : Nat → Value} {rl : Nat → List ByteArray} {fb : Nat} {o : Obj} {ys : List ByteArray} {ab : Option Addr} {cb B2 : Nat} (hF : AF a v) (h21v : v.v21 = .slice ab ys.length cb) (h15v : v.v15 = rv 2) (hA : AM B wq G r q p rv rl) (hB : BX wq r q fb o) (hl : (rl 2).length ≤ 100000) (hml : ys.length ≤ 100000) (hR : wq.ownsRow B2 9 1 (.slice ab ys.length cb) ys.length (ys.map .string))
    (hQ : ∀ a' w' v' rr qq, AF a' { v with v15 := v' } → AM B w' G rr qq p (putv rv 2 v') (putv rl 2 (rl 2 ++ ys)) → BX w' rr qq fb o → Below B.n wq w' → K a' w') :
    Code.wp Try.prog c (Exit.then K fun _ _ _ => False) a wq := by
  have HQ := hide hQ
  clear hQ
  obtain ⟨t', d'⟩ := a
  obtain ⟨v0, v1, v5, v6, v7, v8, v9, v11, v12, v13, v14, v15, v16, v17, v18, v19, v20, v21, v22, v23, v24, v85⟩ := v
  simp only at h21v h15v HQ
  subst h21v h15v
  obtain ⟨hs1, hd1, q0, q1, q5, q6, q7, q8, q9, q11, q12, q13, q14, q15, q16, q17, q18, q19, q20, q21, q22, q23, q24, q85⟩ := hF
  obtain ⟨u, hu⟩ := frame300 t' hs1
  simp only at hd1 q0 q1 q5 q6 q7 q8 q9 q11 q12 q13 q14 q15 q16 q17 q18 q19 q20 q21 q22 q23 q24 q85
  subst hu hd1
  have e0 : u 0 = v0 := q0
  have e1 : u 1 = v1 := q1
  have e5 : u 5 = v5 := q5
  have e6 : u 6 = v6 := q6
  have e7 : u 7 = v7 := q7
  have e8 : u 8 = v8 := q8
  have e9 : u 9 = v9 := q9
  have e11 : u 11 = v11 := q11
  have e12 : u 12 = v12 := q12
  have e13 : u 13 = v13 := q13
  have e14 : u 14 = v14 := q14
  have e15 : u 15 = rv 2 := q15
  have e16 : u 16 = v16 := q16
  have e17 : u 17 = v17 := q17
  have e18 : u 18 = v18 := q18
  have e19 : u 19 = v19 := q19
  have e20 : u 20 = v20 := q20
  have e21 : u 21 = .slice ab ys.length cb := q21
  have e22 : u 22 = v22 := q22
  have e23 : u 23 = v23 := q23
  have e24 : u 24 = v24 := q24
  have e85 : u 85 = v85 := q85
  rw [e0, e1, e5, e6, e7, e8, e9, e11, e12, e13, e14, e15, e16, e17, e18, e19, e20, e21, e22, e23, e24, e85]
  clear q0 e0 q1 e1 q5 e5 q6 e6 q7 e7 q8 e8 q9 e9 q11 e11 q12 e12 q13 e13 q14 e14 q15 e15 q16 e16 q17 e17 q18 e18 q19 e19 q20 e20 q21 e21 q22 e22 q23 e23 q24 e24 q85 e85 hs1
  simp only [Try.f4, Option.getD_some, regOf] at hc
  injection hc with hc
  subst hc
  generalize u 2 = u2
  generalize u 3 = u3
  generalize u 4 = u4
  generalize u 10 = u10
  generalize u 25 = u25
  generalize u 26 = u26
  generalize u 27 = u27
  generalize u 28 = u28
  generalize u 29 = u29
  generalize u 30 = u30
  generalize u 31 = u31
  generalize u 32 = u32
  generalize u 33 = u33
  generalize u 34 = u34
  generalize u 35 = u35
  generalize u 36 = u36
  generalize u 37 = u37
  generalize u 38 = u38
  generalize u 39 = u39
  generalize u 40 = u40
  generalize u 41 = u41
  generalize u 42 = u42
  generalize u 43 = u43
  generalize u 44 = u44
  generalize u 45 = u45
  generalize u 46 = u46
  generalize u 47 = u47
  generalize u 48 = u48
  generalize u 49 = u49
  generalize u 50 = u50
  generalize u 51 = u51
  generalize u 52 = u52
  generalize u 53 = u53
  generalize u 54 = u54
  generalize u 55 = u55
  generalize u 56 = u56
  generalize u 57 = u57
  generalize u 58 = u58
  generalize u 59 = u59
  generalize u 60 = u60
  generalize u 61 = u61
  generalize u 62 = u62
  generalize u 63 = u63
  generalize u 64 = u64
  generalize u 65 = u65
  generalize u 66 = u66
  generalize u 67 = u67
  generalize u 68 = u68
  generalize u 69 = u69
  generalize u 70 = u70
  generalize u 71 = u71
  generalize u 72 = u72
  generalize u 73 = u73
  generalize u 74 = u74
  generalize u 75 = u75
  generalize u 76 = u76
  generalize u 77 = u77
  generalize u 78 = u78
  generalize u 79 = u79
  generalize u 80 = u80
  generalize u 81 = u81
  generalize u 82 = u82
  generalize u 83 = u83
  generalize u 84 = u84
  generalize u 86 = u86
  generalize u 87 = u87
  generalize u 88 = u88
  generalize u 89 = u89
  generalize u 90 = u90
  generalize u 91 = u91
  generalize u 92 = u92
  generalize u 93 = u93
  generalize u 94 = u94
  generalize u 95 = u95
  generalize u 96 = u96
  generalize u 97 = u97
  generalize u 98 = u98
  generalize u 99 = u99
  generalize u 100 = u100
  generalize u 101 = u101
  generalize u 102 = u102
  generalize u 103 = u103
  generalize u 104 = u104
  generalize u 105 = u105
  generalize u 106 = u106
  generalize u 107 = u107
  generalize u 108 = u108
  generalize u 109 = u109
  generalize u 110 = u110
  generalize u 111 = u111
  generalize u 112 = u112
  generalize u 113 = u113
  generalize u 114 = u114
  generalize u 115 = u115
  generalize u 116 = u116
  generalize u 117 = u117
  generalize u 118 = u118
  generalize u 119 = u119
  generalize u 120 = u120
  generalize u 121 = u121
  generalize u 122 = u122
  generalize u 123 = u123
  generalize u 124 = u124
  generalize u 125 = u125
  generalize u 126 = u126
  generalize u 127 = u127
  generalize u 128 = u128
  generalize u 129 = u129
  generalize u 130 = u130
  generalize u 131 = u131
  generalize u 132 = u132
  generalize u 133 = u133
  generalize u 134 = u134
  generalize u 135 = u135
  generalize u 136 = u136
  generalize u 137 = u137
  generalize u 138 = u138
  generalize u 139 = u139
  generalize u 140 = u140
  generalize u 141 = u141
  generalize u 142 = u142
  generalize u 143 = u143
  generalize u 144 = u144
  generalize u 145 = u145
  generalize u 146 = u146
  generalize u 147 = u147
  generalize u 148 = u148
  generalize u 149 = u149
  generalize u 150 = u150
  generalize u 151 = u151
  generalize u 152 = u152
  generalize u 153 = u153
  generalize u 154 = u154
  generalize u 155 = u155
  generalize u 156 = u156
  generalize u 157 = u157
  generalize u 158 = u158
  generalize u 159 = u159
  generalize u 160 = u160
  generalize u 161 = u161
  generalize u 162 = u162
  generalize u 163 = u163
  generalize u 164 = u164
  generalize u 165 = u165
  generalize u 166 = u166
  generalize u 167 = u167
  generalize u 168 = u168
  generalize u 169 = u169
  generalize u 170 = u170
  generalize u 171 = u171
  generalize u 172 = u172
  generalize u 173 = u173
  generalize u 174 = u174
  generalize u 175 = u175
  generalize u 176 = u176
  generalize u 177 = u177
  generalize u 178 = u178
  generalize u 179 = u179
  generalize u 180 = u180
  generalize u 181 = u181
  generalize u 182 = u182
  generalize u 183 = u183
  generalize u 184 = u184
  generalize u 185 = u185
  generalize u 186 = u186
  generalize u 187 = u187
  generalize u 188 = u188
  generalize u 189 = u189
  generalize u 190 = u190
  generalize u 191 = u191
  generalize u 192 = u192
  generalize u 193 = u193
  generalize u 194 = u194
  generalize u 195 = u195
  generalize u 196 = u196
  generalize u 197 = u197
  generalize u 198 = u198
  generalize u 199 = u199
  generalize u 200 = u200
  generalize u 201 = u201
  generalize u 202 = u202
  generalize u 203 = u203
  generalize u 204 = u204
  generalize u 205 = u205
  generalize u 206 = u206
  generalize u 207 = u207
  generalize u 208 = u208
  generalize u 209 = u209
  generalize u 210 = u210
  generalize u 211 = u211
  generalize u 212 = u212
  generalize u 213 = u213
  generalize u 214 = u214
  generalize u 215 = u215
  generalize u 216 = u216
  generalize u 217 = u217
  generalize u 218 = u218
  generalize u 219 = u219
  generalize u 220 = u220
  generalize u 221 = u221
  generalize u 222 = u222
  generalize u 223 = u223
  generalize u 224 = u224
  generalize u 225 = u225
  generalize u 226 = u226
  generalize u 227 = u227
  generalize u 228 = u228
  generalize u 229 = u229
  generalize u 230 = u230
  generalize u 231 = u231
  generalize u 232 = u232
  generalize u 233 = u233
  generalize u 234 = u234
  generalize u 235 = u235
  generalize u 236 = u236
  generalize u 237 = u237
  generalize u 238 = u238
  generalize u 239 = u239
  generalize u 240 = u240
  generalize u 241 = u241
  generalize u 242 = u242
  generalize u 243 = u243
  generalize u 244 = u244
  generalize u 245 = u245
  generalize u 246 = u246
  generalize u 247 = u247
  generalize u 248 = u248
  generalize u 249 = u249
  generalize u 250 = u250
  generalize u 251 = u251
  generalize u 252 = u252
  generalize u 253 = u253
  generalize u 254 = u254
  generalize u 255 = u255
  generalize u 256 = u256
  generalize u 257 = u257
  generalize u 258 = u258
  generalize u 259 = u259
  generalize u 260 = u260
  generalize u 261 = u261
  generalize u 262 = u262
  generalize u 263 = u263
  generalize u 264 = u264
  generalize u 265 = u265
  generalize u 266 = u266
  generalize u 267 = u267
  generalize u 268 = u268
  generalize u 269 = u269
  generalize u 270 = u270
  generalize u 271 = u271
  generalize u 272 = u272
  generalize u 273 = u273
  generalize u 274 = u274
  generalize u 275 = u275
  generalize u 276 = u276
  generalize u 277 = u277
  generalize u 278 = u278
  generalize u 279 = u279
  generalize u 280 = u280
  generalize u 281 = u281
  generalize u 282 = u282
  generalize u 283 = u283
  generalize u 284 = u284
  generalize u 285 = u285
  generalize u 286 = u286
  generalize u 287 = u287
  generalize u 288 = u288
  generalize u 289 = u289
  generalize u 290 = u290
  generalize u 291 = u291
  generalize u 292 = u292
  generalize u 293 = u293
  generalize u 294 = u294
  generalize u 295 = u295
  generalize u 296 = u296
  generalize u 297 = u297
  generalize u 298 = u298
  generalize u 299 = u299
  clear u
  have HA := hide hA
  have HB := hide hB
  have hrow := hA.row 2
  obtain ⟨i0, hi0, hz0, hz1, hz2⟩ := info_parts infoStr
  obtain ⟨so, sc, hsv⟩ := row_slice hrow
  obtain ⟨n, hn⟩ : ∃ n, (rl 2).length = n := ⟨_, rfl⟩
  have HN := hide hn
  rw [hn] at hl
  rw [hsv, hn] at hrow
  rw [hn] at hsv
  have RO := hide hrow
  have SV := hide hsv
  have HR := hide hR
  have HLB := hide (fun j e => (hR.lt j e).2)
  rw [hsv]
  obtain ⟨m, hm⟩ : ∃ m, ys.length = m := ⟨_, rfl⟩
  have HM := hide hm
  rw [hm] at hml HQ hR ⊢
  clear hA hB hrow hsv hn
  cases ab with
  | none =>
    have h0 : m = 0 ∧ cb = 0 := by
      rcases hR.2 with ⟨h1, h2⟩ | ⟨_, _, _, h1, _⟩
      · injection h1 with _ h3 h4
        exact ⟨by omega, h4⟩
      · cases h1
    obtain ⟨rfl, rfl⟩ := h0
    clear hR
    have hys : ys = [] := List.eq_nil_of_length_eq_zero HM.out
    go_wp2_with (first | (at_builtin; refine wpList_append_own_none rfl _ _ 40 rfl B.n 9 i0 1 Try.underlying40 hi0 (.slice so n sc) n ((rl 2).map .string) rfl RO.out rfl ?_) | go_in)
    refine HQ.out _ _ (.slice so n sc) _ _ ⟨rfl, rfl, rfl, rfl, rfl, rfl, rfl, rfl, rfl, rfl, rfl, rfl, rfl, rfl, rfl, rfl, rfl, rfl, rfl, rfl, rfl, rfl, rfl, rfl⟩ (HA.out.grow 2 (v' := .slice so n sc) (L := rl 2 ++ ys) (Touch.refl _ wq) (by rw [hys, List.append_nil, HN.out]; exact RO.out) (fun j e => .inl (by rw [SV.out]; exact e))) (BX.grow HA.out HB.out 2 (Touch.refl _ wq)) (Below.refl _ wq)
  | some ad =>
    have hnews : Hid (∀ j u, (ys.map Value.string)[j]? = some u → wq.cell? (ad.add j) = some u) := by
      rcases hR.2 with ⟨h1, _⟩ | ⟨g, _, _, h1, _⟩
      · cases h1
      · injection h1 with h1 _ _
        obtain rfl := Option.some.inj h1
        exact hR.cells rfl
    clear hR
    go_wp2_with (first | (at_builtin; refine wpList_append_own_at _ rfl _ _ 40 rfl B.n 9 i0 _ 1 16 Try.underlying40 hi0 hz0 hz1 hz2 rfl (by omega) (.slice so n sc) n ((rl 2).map .string) rfl RO.out ad m cb (ys.map .string) rfl (by rw [List.length_map, HM.out, Nat.mul_one]) hnews.out (by intro u hu; obtain ⟨y, _, rfl⟩ := List.mem_map.1 hu; rfl) (by unfold maxLen; omega) (by omega) HA.out.pa.size ?_; intro v4 w4 hown4 hgrow4 hnil4 hloc4; obtain ⟨a4, c4, rfl⟩ := row_slice hown4) | go_in)
    have T4 : Touch (fun j => (rv 2).ownBlock = some j) wq w4 := (Touch.refl _ wq).grown hgrow4 fun j e _ => by rw [SV.out]; exact e
    refine HQ.out _ _ (.slice a4 (n + m) c4) _ _ ⟨rfl, rfl, rfl, rfl, rfl, rfl, rfl, rfl, rfl, rfl, rfl, rfl, rfl, rfl, rfl, rfl, rfl, rfl, rfl, rfl, rfl, rfl, rfl, rfl⟩ (HA.out.grow 2 (v' := .slice a4 (n + m) c4) (L := rl 2 ++ ys) T4 (by rw [List.length_append, HN.out, HM.out, List.map_append]; exact hown4) fun j e => ?_) (BX.grow HA.out HB.out 2 T4) (HA.out.toBelow 2 T4)
    rcases hloc4 with h | h
    · exact .inl (by rw [SV.out]; exact h ▸ e)
    · exact .inr (by rw [h] at e; have h2 := Option.some.inj e; omega)
end Go.Proofs.Ythgfijmpofbchaa
/-
  LinkAnew: regions of it as they run (mkanew.py).
-/
namespace Go.Proofs.Ythgfijmpofbchaa
open Go.RowKit

attribute [local go_sem ↓] Go.wp_at_zero Go.wp_at_succ
set_option linter.unusedSimpArgs false
set_option linter.unusedVariables false
set_option maxHeartbeats 8000000 in
set_option maxRecDepth 100000 in
theorem anew_r48 {K : Act → World → Prop} {c : Code} (hc : regOf (Try.f4.body.getD .skip) 48 = some c) (a : Act) {v : AV} {wq : World} {B : BE} {G : PG} {r q : Nat → Nat} {p : PR} {rv : Nat → Value} {rl : Nat → List ByteArray} {n1 n2 : Nat} (hF : AF a v) (h6v : v.v6 = .pointer (some ⟨G.pb, 0, none⟩)) (h11v : v.v11 = .int .i64 (n1 : Int)) (h12v : v.v12 = rv 0) (h13v : v.v13 = .int .i64 (n2 : Int)) (hA : AM B wq G r q p rv rl) (hn1 : n1 ≤ 1000000) (hsl : (p.sent false).length ≤ 1000000) (h2 : n2 ≤ 1) (hle : 0 < n2 → (rl 0).length + n1 ≤ (p.sent false).length)
    (hQ : ∀ a', AF a' v → a'.tmps.getD 251 undef = .bool false → K a' wq) :
    Code.wp Try.prog c (Exit.then K fun _ _ _ => False) a wq := by
  have HQ := hide hQ
  clear hQ
  obtain ⟨t', d'⟩ := a
  obtain ⟨v0, v1, v5, v6, v7, v8, v9, v11, v12, v13, v14, v15, v16, v17, v18, v19, v20, v21, v22, v23, v24, v85⟩ := v
  simp only at h6v h11v h12v h13v HQ
  subst h6v h11v h12v h13v
  obtain ⟨hs1, hd1, q0, q1, q5, q6, q7, q8, q9, q11, q12, q13, q14, q15, q16, q17, q18, q19, q20, q21, q22, q23, q24, q85⟩ := hF
  obtain ⟨u, hu⟩ := frame300 t' hs1
  simp only at hd1 q0 q1 q5 q6 q7 q8 q9 q11 q12 q13 q14 q15 q16 q17 q18 q19 q20 q21 q22 q23 q24 q85
  subst hu hd1
  have e0 : u 0 = v0 := q0
  have e1 : u 1 = v1 := q1
  have e5 : u 5 = v5 := q5
  have e6 : u 6 = .pointer (some ⟨G.pb, 0, none⟩) := q6
  have e7 : u 7 = v7 := q7
  have e8 : u 8 = v8 := q8
  have e9 : u 9 = v9 := q9
  have e11 : u 11 = .int .i64 (n1 : Int) := q11
  have e12 : u 12 = rv 0 := q12
  have e13 : u 13 = .int .i64 (n2 : Int) := q13
  have e14 : u 14 = v14 := q14
  have e15 : u 15 = v15 := q15
  have e16 : u 16 = v16 := q16
  have e17 : u 17 = v17 := q17
  have e18 : u 18 = v18 := q18
  have e19 : u 19 = v19 := q19
  have e20 : u 20 = v20 := q20
  have e21 : u 21 = v21 := q21
  have e22 : u 22 = v22 := q22
  have e23 : u 23 = v23 := q23
  have e24 : u 24 = v24 := q24
  have e85 : u 85 = v85 := q85
  rw [e0, e1, e5, e6, e7, e8, e9, e11, e12, e13, e14, e15, e16, e17, e18, e19, e20, e21, e22, e23, e24, e85]
  clear q0 e0 q1 e1 q5 e5 q6 e6 q7 e7 q8 e8 q9 e9 q11 e11 q12 e12 q13 e13 q14 e14 q15 e15 q16 e16 q17 e17 q18 e18 q19 e19 q20 e20 q21 e21 q22 e22 q23 e23 q24 e24 q85 e85 hs1
  simp only [Try.f4, Option.getD_some, regOf] at hc
  injection hc with hc
  subst hc
  generalize u 2 = u2
  generalize u 3 = u3
  generalize u 4 = u4
  generalize u 10 = u10
  generalize u 25 = u25
  generalize u 26 = u26
  generalize u 27 = u27
  generalize u 28 = u28
  generalize u 29 = u29
  generalize u 30 = u30
  generalize u 31 = u31
  generalize u 32 = u32
  generalize u 33 = u33
  generalize u 34 = u34
  generalize u 35 = u35
  generalize u 36 = u36
  generalize u 37 = u37
  generalize u 38 = u38
  generalize u 39 = u39
  generalize u 40 = u40
  generalize u 41 = u41
  generalize u 42 = u42
  generalize u 43 = u43
  generalize u 44 = u44
  generalize u 45 = u45
  generalize u 46 = u46
  generalize u 47 = u47
  generalize u 48 = u48
  generalize u 49 = u49
  generalize u 50 = u50
  generalize u 51 = u51
  generalize u 52 = u52
  generalize u 53 = u53
  generalize u 54 = u54
  generalize u 55 = u55
  generalize u 56 = u56
  generalize u 57 = u57
  generalize u 58 = u58
  generalize u 59 = u59
  generalize u 60 = u60
  generalize u 61 = u61
  generalize u 62 = u62
  generalize u 63 = u63
  generalize u 64 = u64
  generalize u 65 = u65
  generalize u 66 = u66
  generalize u 67 = u67
  generalize u 68 = u68
  generalize u 69 = u69
  generalize u 70 = u70
  generalize u 71 = u71
  generalize u 72 = u72
  generalize u 73 = u73
  generalize u 74 = u74
  generalize u 75 = u75
  generalize u 76 = u76
  generalize u 77 = u77
  generalize u 78 = u78
  generalize u 79 = u79
  generalize u 80 = u80
  generalize u 81 = u81
  generalize u 82 = u82
  generalize u 83 = u83
  generalize u 84 = u84
  generalize u 86 = u86
  generalize u 87 = u87
  generalize u 88 = u88
  generalize u 89 = u89
  generalize u 90 = u90
  generalize u 91 = u91
  generalize u 92 = u92
  generalize u 93 = u93
  generalize u 94 = u94
  generalize u 95 = u95
  generalize u 96 = u96
  generalize u 97 = u97
  generalize u 98 = u98
  generalize u 99 = u99
  generalize u 100 = u100
  generalize u 101 = u101
  generalize u 102 = u102
  generalize u 103 = u103
  generalize u 104 = u104
  generalize u 105 = u105
  generalize u 106 = u106
  generalize u 107 = u107
  generalize u 108 = u108
  generalize u 109 = u109
  generalize u 110 = u110
  generalize u 111 = u111
  generalize u 112 = u112
  generalize u 113 = u113
  generalize u 114 = u114
  generalize u 115 = u115
  generalize u 116 = u116
  generalize u 117 = u117
  generalize u 118 = u118
  generalize u 119 = u119
  generalize u 120 = u120
  generalize u 121 = u121
  generalize u 122 = u122
  generalize u 123 = u123
  generalize u 124 = u124
  generalize u 125 = u125
  generalize u 126 = u126
  generalize u 127 = u127
  generalize u 128 = u128
  generalize u 129 = u129
  generalize u 130 = u130
  generalize u 131 = u131
  generalize u 132 = u132
  generalize u 133 = u133
  generalize u 134 = u134
  generalize u 135 = u135
  generalize u 136 = u136
  generalize u 137 = u137
  generalize u 138 = u138
  generalize u 139 = u139
  generalize u 140 = u140
  generalize u 141 = u141
  generalize u 142 = u142
  generalize u 143 = u143
  generalize u 144 = u144
  generalize u 145 = u145
  generalize u 146 = u146
  generalize u 147 = u147
  generalize u 148 = u148
  generalize u 149 = u149
  generalize u 150 = u150
  generalize u 151 = u151
  generalize u 152 = u152
  generalize u 153 = u153
  generalize u 154 = u154
  generalize u 155 = u155
  generalize u 156 = u156
  generalize u 157 = u157
  generalize u 158 = u158
  generalize u 159 = u159
  generalize u 160 = u160
  generalize u 161 = u161
  generalize u 162 = u162
  generalize u 163 = u163
  generalize u 164 = u164
  generalize u 165 = u165
  generalize u 166 = u166
  generalize u 167 = u167
  generalize u 168 = u168
  generalize u 169 = u169
  generalize u 170 = u170
  generalize u 171 = u171
  generalize u 172 = u172
  generalize u 173 = u173
  generalize u 174 = u174
  generalize u 175 = u175
  generalize u 176 = u176
  generalize u 177 = u177
  generalize u 178 = u178
  generalize u 179 = u179
  generalize u 180 = u180
  generalize u 181 = u181
  generalize u 182 = u182
  generalize u 183 = u183
  generalize u 184 = u184
  generalize u 185 = u185
  generalize u 186 = u186
  generalize u 187 = u187
  generalize u 188 = u188
  generalize u 189 = u189
  generalize u 190 = u190
  generalize u 191 = u191
  generalize u 192 = u192
  generalize u 193 = u193
  generalize u 194 = u194
  generalize u 195 = u195
  generalize u 196 = u196
  generalize u 197 = u197
  generalize u 198 = u198
  generalize u 199 = u199
  generalize u 200 = u200
  generalize u 201 = u201
  generalize u 202 = u202
  generalize u 203 = u203
  generalize u 204 = u204
  generalize u 205 = u205
  generalize u 206 = u206
  generalize u 207 = u207
  generalize u 208 = u208
  generalize u 209 = u209
  generalize u 210 = u210
  generalize u 211 = u211
  generalize u 212 = u212
  generalize u 213 = u213
  generalize u 214 = u214
  generalize u 215 = u215
  generalize u 216 = u216
  generalize u 217 = u217
  generalize u 218 = u218
  generalize u 219 = u219
  generalize u 220 = u220
  generalize u 221 = u221
  generalize u 222 = u222
  generalize u 223 = u223
  generalize u 224 = u224
  generalize u 225 = u225
  generalize u 226 = u226
  generalize u 227 = u227
  generalize u 228 = u228
  generalize u 229 = u229
  generalize u 230 = u230
  generalize u 231 = u231
  generalize u 232 = u232
  generalize u 233 = u233
  generalize u 234 = u234
  generalize u 235 = u235
  generalize u 236 = u236
  generalize u 237 = u237
  generalize u 238 = u238
  generalize u 239 = u239
  generalize u 240 = u240
  generalize u 241 = u241
  generalize u 242 = u242
  generalize u 243 = u243
  generalize u 244 = u244
  generalize u 245 = u245
  generalize u 246 = u246
  generalize u 247 = u247
  generalize u 248 = u248
  generalize u 249 = u249
  generalize u 250 = u250
  generalize u 251 = u251
  generalize u 252 = u252
  generalize u 253 = u253
  generalize u 254 = u254
  generalize u 255 = u255
  generalize u 256 = u256
  generalize u 257 = u257
  generalize u 258 = u258
  generalize u 259 = u259
  generalize u 260 = u260
  generalize u 261 = u261
  generalize u 262 = u262
  generalize u 263 = u263
  generalize u 264 = u264
  generalize u 265 = u265
  generalize u 266 = u266
  generalize u 267 = u267
  generalize u 268 = u268
  generalize u 269 = u269
  generalize u 270 = u270
  generalize u 271 = u271
  generalize u 272 = u272
  generalize u 273 = u273
  generalize u 274 = u274
  generalize u 275 = u275
  generalize u 276 = u276
  generalize u 277 = u277
  generalize u 278 = u278
  generalize u 279 = u279
  generalize u 280 = u280
  generalize u 281 = u281
  generalize u 282 = u282
  generalize u 283 = u283
  generalize u 284 = u284
  generalize u 285 = u285
  generalize u 286 = u286
  generalize u 287 = u287
  generalize u 288 = u288
  generalize u 289 = u289
  generalize u 290 = u290
  generalize u 291 = u291
  generalize u 292 = u292
  generalize u 293 = u293
  generalize u 294 = u294
  generalize u 295 = u295
  generalize u 296 = u296
  generalize u 297 = u297
  generalize u 298 = u298
  generalize u 299 = u299
  clear u
  have HA := hide hA
  obtain ⟨c0, c1, c2, c3⟩ := hA.pa.cp
  have cs : wq.cell? ⟨G.sb, 0, none⟩ = some (G.sv false) := hA.pa.cs false
  obtain ⟨so, sc, hsv⟩ := row_slice (hA.pa.sent false)
  rw [hsv] at cs
  obtain ⟨tto, tc, htv⟩ := row_slice (hA.row 0)
  rw [htv]
  have HTV := hide htv
  obtain ⟨tn, htn⟩ : ∃ tn, (rl 0).length = tn := ⟨_, rfl⟩
  rw [htn] at HTV hle ⊢
  generalize (p.sent false).length = sn at *
  clear hA hsv htv htn
  have h1' : ¬ (n2 : Int) > 1 := by omega
  by_cases h0 : 0 < n2
  · have hle' := hle h0
    have g1 : ¬ (tn : Int) > (sn : Int) - (n1 : Int) := by omega
    go_wp2
    exact HQ.out _ ⟨rfl, rfl, rfl, rfl, rfl, rfl, rfl, rfl, rfl, rfl, HTV.out.symm, rfl, rfl, rfl, rfl, rfl, rfl, rfl, rfl, rfl, rfl, rfl, rfl, rfl⟩ rfl
  · have h0' : ¬ (n2 : Int) > 0 := by omega
    by_cases g1 : (tn : Int) > (sn : Int) - (n1 : Int)
    · go_wp2
      exact HQ.out _ ⟨rfl, rfl, rfl, rfl, rfl, rfl, rfl, rfl, rfl, rfl, HTV.out.symm, rfl, rfl, rfl, rfl, rfl, rfl, rfl, rfl, rfl, rfl, rfl, rfl, rfl⟩ rfl
    · go_wp2
      exact HQ.out _ ⟨rfl, rfl, rfl, rfl, rfl, rfl, rfl, rfl, rfl, rfl, HTV.out.symm, rfl, rfl, rfl, rfl, rfl, rfl, rfl, rfl, rfl, rfl, rfl, rfl, rfl⟩ rfl
set_option maxHeartbeats 8000000 in
set_option maxRecDepth 100000 in
theorem anew_r51 {K : Act → World → Prop} {c : Code} (hc : regOf (Try.f4.body.getD .skip) 51 = some c) (a : Act) {v : AV} {wq : World} {n2 k : Nat} {tto : Option Addr} {tn tc : Nat} (hF : AF a v) (h12v : v.v12 = .slice tto tn tc) (h13v : v.v13 = .int .i64 (n2 : Int)) (h23v : v.v23 = .int .i64 (k : Int)) (hQ : ∀ a', AF a' v → a'.tmps.getD 259 undef = .bool (decide (k < tn ∧ 0 < n2)) → K a' wq) :
    Code.wp Try.prog c (Exit.then K fun _ _ _ => False) a wq := by
  have HQ := hide hQ
  clear hQ
  obtain ⟨t', d'⟩ := a
  obtain ⟨v0, v1, v5, v6, v7, v8, v9, v11, v12, v13, v14, v15, v16, v17, v18, v19, v20, v21, v22, v23, v24, v85⟩ := v
  simp only at h12v h13v h23v HQ
  subst h12v h13v h23v
  obtain ⟨hs1, hd1, q0, q1, q5, q6, q7, q8, q9, q11, q12, q13, q14, q15, q16, q17, q18, q19, q20, q21, q22, q23, q24, q85⟩ := hF
  obtain ⟨u, hu⟩ := frame300 t' hs1
  simp only at hd1 q0 q1 q5 q6 q7 q8 q9 q11 q12 q13 q14 q15 q16 q17 q18 q19 q20 q21 q22 q23 q24 q85
  subst hu hd1
  have e0 : u 0 = v0 := q0
  have e1 : u 1 = v1 := q1
  have e5 : u 5 = v5 := q5
  have e6 : u 6 = v6 := q6
  have e7 : u 7 = v7 := q7
  have e8 : u 8 = v8 := q8
  have e9 : u 9 = v9 := q9
  have e11 : u 11 = v11 := q11
  have e12 : u 12 = .slice tto tn tc := q12
  have e13 : u 13 = .int .i64 (n2 : Int) := q13
  have e14 : u 14 = v14 := q14
  have e15 : u 15 = v15 := q15
  have e16 : u 16 = v16 := q16
  have e17 : u 17 = v17 := q17
  have e18 : u 18 = v18 := q18
  have e19 : u 19 = v19 := q19
  have e20 : u 20 = v20 := q20
  have e21 : u 21 = v21 := q21
  have e22 : u 22 = v22 := q22
  have e23 : u 23 = .int .i64 (k : Int) := q23
  have e24 : u 24 = v24 := q24
  have e85 : u 85 = v85 := q85
  rw [e0, e1, e5, e6, e7, e8, e9, e11, e12, e13, e14, e15, e16, e17, e18, e19, e20, e21, e22, e23, e24, e85]
  clear q0 e0 q1 e1 q5 e5 q6 e6 q7 e7 q8 e8 q9 e9 q11 e11 q12 e12 q13 e13 q14 e14 q15 e15 q16 e16 q17 e17 q18 e18 q19 e19 q20 e20 q21 e21 q22 e22 q23 e23 q24 e24 q85 e85 hs1
  simp only [Try.f4, Option.getD_some, regOf] at hc
  injection hc with hc
  subst hc
  generalize u 2 = u2
  generalize u 3 = u3
  generalize u 4 = u4
  generalize u 10 = u10
  generalize u 25 = u25
  generalize u 26 = u26
  generalize u 27 = u27
  generalize u 28 = u28
  generalize u 29 = u29
  generalize u 30 = u30
  generalize u 31 = u31
  generalize u 32 = u32
  generalize u 33 = u33
  generalize u 34 = u34
  generalize u 35 = u35
  generalize u 36 = u36
  generalize u 37 = u37
  generalize u 38 = u38
  generalize u 39 = u39
  generalize u 40 = u40
  generalize u 41 = u41
  generalize u 42 = u42
  generalize u 43 = u43
  generalize u 44 = u44
  generalize u 45 = u45
  generalize u 46 = u46
  generalize u 47 = u47
  generalize u 48 = u48
  generalize u 49 = u49
  generalize u 50 = u50
  generalize u 51 = u51
  generalize u 52 = u52
  generalize u 53 = u53
  generalize u 54 = u54
  generalize u 55 = u55
  generalize u 56 = u56
  generalize u 57 = u57
  generalize u 58 = u58
  generalize u 59 = u59
  generalize u 60 = u60
  generalize u 61 = u61
  generalize u 62 = u62
  generalize u 63 = u63
  generalize u 64 = u64
  generalize u 65 = u65
  generalize u 66 = u66
  generalize u 67 = u67
  generalize u 68 = u68
  generalize u 69 = u69
  generalize u 70 = u70
  generalize u 71 = u71
  generalize u 72 = u72
  generalize u 73 = u73
  generalize u 74 = u74
  generalize u 75 = u75
  generalize u 76 = u76
  generalize u 77 = u77
  generalize u 78 = u78
  generalize u 79 = u79
  generalize u 80 = u80
  generalize u 81 = u81
  generalize u 82 = u82
  generalize u 83 = u83
  generalize u 84 = u84
  generalize u 86 = u86
  generalize u 87 = u87
  generalize u 88 = u88
  generalize u 89 = u89
  generalize u 90 = u90
  generalize u 91 = u91
  generalize u 92 = u92
  generalize u 93 = u93
  generalize u 94 = u94
  generalize u 95 = u95
  generalize u 96 = u96
  generalize u 97 = u97
  generalize u 98 = u98
  generalize u 99 = u99
  generalize u 100 = u100
  generalize u 101 = u101
  generalize u 102 = u102
  generalize u 103 = u103
  generalize u 104 = u104
  generalize u 105 = u105
  generalize u 106 = u106
  generalize u 107 = u107
  generalize u 108 = u108
  generalize u 109 = u109
  generalize u 110 = u110
  generalize u 111 = u111
  generalize u 112 = u112
  generalize u 113 = u113
  generalize u 114 = u114
  generalize u 115 = u115
  generalize u 116 = u116
  generalize u 117 = u117
  generalize u 118 = u118
  generalize u 119 = u119
  generalize u 120 = u120
  generalize u 121 = u121
  generalize u 122 = u122
  generalize u 123 = u123
  generalize u 124 = u124
  generalize u 125 = u125
  generalize u 126 = u126
  generalize u 127 = u127
  generalize u 128 = u128
  generalize u 129 = u129
  generalize u 130 = u130
  generalize u 131 = u131
  generalize u 132 = u132
  generalize u 133 = u133
  generalize u 134 = u134
  generalize u 135 = u135
  generalize u 136 = u136
  generalize u 137 = u137
  generalize u 138 = u138
  generalize u 139 = u139
  generalize u 140 = u140
  generalize u 141 = u141
  generalize u 142 = u142
  generalize u 143 = u143
  generalize u 144 = u144
  generalize u 145 = u145
  generalize u 146 = u146
  generalize u 147 = u147
  generalize u 148 = u148
  generalize u 149 = u149
  generalize u 150 = u150
  generalize u 151 = u151
  generalize u 152 = u152
  generalize u 153 = u153
  generalize u 154 = u154
  generalize u 155 = u155
  generalize u 156 = u156
  generalize u 157 = u157
  generalize u 158 = u158
  generalize u 159 = u159
  generalize u 160 = u160
  generalize u 161 = u161
  generalize u 162 = u162
  generalize u 163 = u163
  generalize u 164 = u164
  generalize u 165 = u165
  generalize u 166 = u166
  generalize u 167 = u167
  generalize u 168 = u168
  generalize u 169 = u169
  generalize u 170 = u170
  generalize u 171 = u171
  generalize u 172 = u172
  generalize u 173 = u173
  generalize u 174 = u174
  generalize u 175 = u175
  generalize u 176 = u176
  generalize u 177 = u177
  generalize u 178 = u178
  generalize u 179 = u179
  generalize u 180 = u180
  generalize u 181 = u181
  generalize u 182 = u182
  generalize u 183 = u183
  generalize u 184 = u184
  generalize u 185 = u185
  generalize u 186 = u186
  generalize u 187 = u187
  generalize u 188 = u188
  generalize u 189 = u189
  generalize u 190 = u190
  generalize u 191 = u191
  generalize u 192 = u192
  generalize u 193 = u193
  generalize u 194 = u194
  generalize u 195 = u195
  generalize u 196 = u196
  generalize u 197 = u197
  generalize u 198 = u198
  generalize u 199 = u199
  generalize u 200 = u200
  generalize u 201 = u201
  generalize u 202 = u202
  generalize u 203 = u203
  generalize u 204 = u204
  generalize u 205 = u205
  generalize u 206 = u206
  generalize u 207 = u207
  generalize u 208 = u208
  generalize u 209 = u209
  generalize u 210 = u210
  generalize u 211 = u211
  generalize u 212 = u212
  generalize u 213 = u213
  generalize u 214 = u214
  generalize u 215 = u215
  generalize u 216 = u216
  generalize u 217 = u217
  generalize u 218 = u218
  generalize u 219 = u219
  generalize u 220 = u220
  generalize u 221 = u221
  generalize u 222 = u222
  generalize u 223 = u223
  generalize u 224 = u224
  generalize u 225 = u225
  generalize u 226 = u226
  generalize u 227 = u227
  generalize u 228 = u228
  generalize u 229 = u229
  generalize u 230 = u230
  generalize u 231 = u231
  generalize u 232 = u232
  generalize u 233 = u233
  generalize u 234 = u234
  generalize u 235 = u235
  generalize u 236 = u236
  generalize u 237 = u237
  generalize u 238 = u238
  generalize u 239 = u239
  generalize u 240 = u240
  generalize u 241 = u241
  generalize u 242 = u242
  generalize u 243 = u243
  generalize u 244 = u244
  generalize u 245 = u245
  generalize u 246 = u246
  generalize u 247 = u247
  generalize u 248 = u248
  generalize u 249 = u249
  generalize u 250 = u250
  generalize u 251 = u251
  generalize u 252 = u252
  generalize u 253 = u253
  generalize u 254 = u254
  generalize u 255 = u255
  generalize u 256 = u256
  generalize u 257 = u257
  generalize u 258 = u258
  generalize u 259 = u259
  generalize u 260 = u260
  generalize u 261 = u261
  generalize u 262 = u262
  generalize u 263 = u263
  generalize u 264 = u264
  generalize u 265 = u265
  generalize u 266 = u266
  generalize u 267 = u267
  generalize u 268 = u268
  generalize u 269 = u269
  generalize u 270 = u270
  generalize u 271 = u271
  generalize u 272 = u272
  generalize u 273 = u273
  generalize u 274 = u274
  generalize u 275 = u275
  generalize u 276 = u276
  generalize u 277 = u277
  generalize u 278 = u278
  generalize u 279 = u279
  generalize u 280 = u280
  generalize u 281 = u281
  generalize u 282 = u282
  generalize u 283 = u283
  generalize u 284 = u284
  generalize u 285 = u285
  generalize u 286 = u286
  generalize u 287 = u287
  generalize u 288 = u288
  generalize u 289 = u289
  generalize u 290 = u290
  generalize u 291 = u291
  generalize u 292 = u292
  generalize u 293 = u293
  generalize u 294 = u294
  generalize u 295 = u295
  generalize u 296 = u296
  generalize u 297 = u297
  generalize u 298 = u298
  generalize u 299 = u299
  clear u
  by_cases h1 : k < tn
  · have h1' : (k : Int) < (tn : Int) := by omega
    by_cases h2 : 0 < n2
    · rw [decide_eq_true ⟨h1, h2⟩] at HQ
      have h2' : (n2 : Int) > 0 := by omega
      go_wp2
      exact HQ.out _ ⟨rfl, rfl, rfl, rfl, rfl, rfl, rfl, rfl, rfl, rfl, rfl, rfl, rfl, rfl, rfl, rfl, rfl, rfl, rfl, rfl, rfl, rfl, rfl, rfl⟩ rfl
    · rw [decide_eq_false (fun e => h2 e.2)] at HQ
      have h2' : ¬ (n2 : Int) > 0 := by omega
      go_wp2
      exact HQ.out _ ⟨rfl, rfl, rfl, rfl, rfl, rfl, rfl, rfl, rfl, rfl, rfl, rfl, rfl, rfl, rfl, rfl, rfl, rfl, rfl, rfl, rfl, rfl, rfl, rfl⟩ rfl
  · rw [decide_eq_false (fun e => h1 e.1)] at HQ
    have h1' : ¬ (k : Int) < (tn : Int) := by omega
    go_wp2
    exact HQ.out _ ⟨rfl, rfl, rfl, rfl, rfl, rfl, rfl, rfl, rfl, rfl, rfl, rfl, rfl, rfl, rfl, rfl, rfl, rfl, rfl, rfl, rfl, rfl, rfl, rfl⟩ rfl
set_option maxHeartbeats 8000000 in
set_option maxRecDepth 100000 in
theorem anew_r56 {K : Act → World → Prop} {c : Code} (hc : regOf (Try.f4.body.getD .skip) 56 = some c) (a : Act) {v : AV} {wq : World} {k : Nat} {tto : Option Addr} {tn tc : Nat} (hF : AF a v) (h15v : v.v15 = .slice tto tn tc) (h24v : v.v24 = .int .i64 (k : Int)) (hQ : ∀ a', AF a' v → a'.tmps.getD 281 undef = .bool (decide (k < tn)) → K a' wq) :
    Code.wp Try.prog c (Exit.then K fun _ _ _ => False) a wq := by
  have HQ := hide hQ
  clear hQ
  obtain ⟨t', d'⟩ := a
  obtain ⟨v0, v1, v5, v6, v7, v8, v9, v11, v12, v13, v14, v15, v16, v17, v18, v19, v20, v21, v22, v23, v24, v85⟩ := v
  simp only at h15v h24v HQ
  subst h15v h24v
  obtain ⟨hs1, hd1, q0, q1, q5, q6, q7, q8, q9, q11, q12, q13, q14, q15, q16, q17, q18, q19, q20, q21, q22, q23, q24, q85⟩ := hF
  obtain ⟨u, hu⟩ := frame300 t' hs1
  simp only at hd1 q0 q1 q5 q6 q7 q8 q9 q11 q12 q13 q14 q15 q16 q17 q18 q19 q20 q21 q22 q23 q24 q85
  subst hu hd1
  have e0 : u 0 = v0 := q0
  have e1 : u 1 = v1 := q1
  have e5 : u 5 = v5 := q5
  have e6 : u 6 = v6 := q6
  have e7 : u 7 = v7 := q7
  have e8 : u 8 = v8 := q8
  have e9 : u 9 = v9 := q9
  have e11 : u 11 = v11 := q11
  have e12 : u 12 = v12 := q12
  have e13 : u 13 = v13 := q13
  have e14 : u 14 = v14 := q14
  have e15 : u 15 = .slice tto tn tc := q15
  have e16 : u 16 = v16 := q16
  have e17 : u 17 = v17 := q17
  have e18 : u 18 = v18 := q18
  have e19 : u 19 = v19 := q19
  have e20 : u 20 = v20 := q20
  have e21 : u 21 = v21 := q21
  have e22 : u 22 = v22 := q22
  have e23 : u 23 = v23 := q23
  have e24 : u 24 = .int .i64 (k : Int) := q24
  have e85 : u 85 = v85 := q85
  rw [e0, e1, e5, e6, e7, e8, e9, e11, e12, e13, e14, e15, e16, e17, e18, e19, e20, e21, e22, e23, e24, e85]
  clear q0 e0 q1 e1 q5 e5 q6 e6 q7 e7 q8 e8 q9 e9 q11 e11 q12 e12 q13 e13 q14 e14 q15 e15 q16 e16 q17 e17 q18 e18 q19 e19 q20 e20 q21 e21 q22 e22 q23 e23 q24 e24 q85 e85 hs1
  simp only [Try.f4, Option.getD_some, regOf] at hc
  injection hc with hc
  subst hc
  generalize u 2 = u2
  generalize u 3 = u3
  generalize u 4 = u4
  generalize u 10 = u10
  generalize u 25 = u25
  generalize u 26 = u26
  generalize u 27 = u27
  generalize u 28 = u28
  generalize u 29 = u29
  generalize u 30 = u30
  generalize u 31 = u31
  generalize u 32 = u32
  generalize u 33 = u33
  generalize u 34 = u34
  generalize u 35 = u35
  generalize u 36 = u36
  generalize u 37 = u37
  generalize u 38 = u38
  generalize u 39 = u39
  generalize u 40 = u40
  generalize u 41 = u41
  generalize u 42 = u42
  generalize u 43 = u43
  generalize u 44 = u44
  generalize u 45 = u45
  generalize u 46 = u46
  generalize u 47 = u47
  generalize u 48 = u48
  generalize u 49 = u49
  generalize u 50 = u50
  generalize u 51 = u51
  generalize u 52 = u52
  generalize u 53 = u53
  generalize u 54 = u54
  generalize u 55 = u55
  generalize u 56 = u56
  generalize u 57 = u57
  generalize u 58 = u58
  generalize u 59 = u59
  generalize u 60 = u60
  generalize u 61 = u61
  generalize u 62 = u62
  generalize u 63 = u63
  generalize u 64 = u64
  generalize u 65 = u65
  generalize u 66 = u66
  generalize u 67 = u67
  generalize u 68 = u68
  generalize u 69 = u69
  generalize u 70 = u70
  generalize u 71 = u71
  generalize u 72 = u72
  generalize u 73 = u73
  generalize u 74 = u74
  generalize u 75 = u75
  generalize u 76 = u76
  generalize u 77 = u77
  generalize u 78 = u78
  generalize u 79 = u79
  generalize u 80 = u80
  generalize u 81 = u81
  generalize u 82 = u82
  generalize u 83 = u83
  generalize u 84 = u84
  generalize u 86 = u86
  generalize u 87 = u87
  generalize u 88 = u88
  generalize u 89 = u89
  generalize u 90 = u90
  generalize u 91 = u91
  generalize u 92 = u92
  generalize u 93 = u93
  generalize u 94 = u94
  generalize u 95 = u95
  generalize u 96 = u96
  generalize u 97 = u97
  generalize u 98 = u98
  generalize u 99 = u99
  generalize u 100 = u100
  generalize u 101 = u101
  generalize u 102 = u102
  generalize u 103 = u103
  generalize u 104 = u104
  generalize u 105 = u105
  generalize u 106 = u106
  generalize u 107 = u107
  generalize u 108 = u108
  generalize u 109 = u109
  generalize u 110 = u110
  generalize u 111 = u111
  generalize u 112 = u112
  generalize u 113 = u113
  generalize u 114 = u114
  generalize u 115 = u115
  generalize u 116 = u116
  generalize u 117 = u117
  generalize u 118 = u118
  generalize u 119 = u119
  generalize u 120 = u120
  generalize u 121 = u121
  generalize u 122 = u122
  generalize u 123 = u123
  generalize u 124 = u124
  generalize u 125 = u125
  generalize u 126 = u126
  generalize u 127 = u127
  generalize u 128 = u128
  generalize u 129 = u129
  generalize u 130 = u130
  generalize u 131 = u131
  generalize u 132 = u132
  generalize u 133 = u133
  generalize u 134 = u134
  generalize u 135 = u135
  generalize u 136 = u136
  generalize u 137 = u137
  generalize u 138 = u138
  generalize u 139 = u139
  generalize u 140 = u140
  generalize u 141 = u141
  generalize u 142 = u142
  generalize u 143 = u143
  generalize u 144 = u144
  generalize u 145 = u145
  generalize u 146 = u146
  generalize u 147 = u147
  generalize u 148 = u148
  generalize u 149 = u149
  generalize u 150 = u150
  generalize u 151 = u151
  generalize u 152 = u152
  generalize u 153 = u153
  generalize u 154 = u154
  generalize u 155 = u155
  generalize u 156 = u156
  generalize u 157 = u157
  generalize u 158 = u158
  generalize u 159 = u159
  generalize u 160 = u160
  generalize u 161 = u161
  generalize u 162 = u162
  generalize u 163 = u163
  generalize u 164 = u164
  generalize u 165 = u165
  generalize u 166 = u166
  generalize u 167 = u167
  generalize u 168 = u168
  generalize u 169 = u169
  generalize u 170 = u170
  generalize u 171 = u171
  generalize u 172 = u172
  generalize u 173 = u173
  generalize u 174 = u174
  generalize u 175 = u175
  generalize u 176 = u176
  generalize u 177 = u177
  generalize u 178 = u178
  generalize u 179 = u179
  generalize u 180 = u180
  generalize u 181 = u181
  generalize u 182 = u182
  generalize u 183 = u183
  generalize u 184 = u184
  generalize u 185 = u185
  generalize u 186 = u186
  generalize u 187 = u187
  generalize u 188 = u188
  generalize u 189 = u189
  generalize u 190 = u190
  generalize u 191 = u191
  generalize u 192 = u192
  generalize u 193 = u193
  generalize u 194 = u194
  generalize u 195 = u195
  generalize u 196 = u196
  generalize u 197 = u197
  generalize u 198 = u198
  generalize u 199 = u199
  generalize u 200 = u200
  generalize u 201 = u201
  generalize u 202 = u202
  generalize u 203 = u203
  generalize u 204 = u204
  generalize u 205 = u205
  generalize u 206 = u206
  generalize u 207 = u207
  generalize u 208 = u208
  generalize u 209 = u209
  generalize u 210 = u210
  generalize u 211 = u211
  generalize u 212 = u212
  generalize u 213 = u213
  generalize u 214 = u214
  generalize u 215 = u215
  generalize u 216 = u216
  generalize u 217 = u217
  generalize u 218 = u218
  generalize u 219 = u219
  generalize u 220 = u220
  generalize u 221 = u221
  generalize u 222 = u222
  generalize u 223 = u223
  generalize u 224 = u224
  generalize u 225 = u225
  generalize u 226 = u226
  generalize u 227 = u227
  generalize u 228 = u228
  generalize u 229 = u229
  generalize u 230 = u230
  generalize u 231 = u231
  generalize u 232 = u232
  generalize u 233 = u233
  generalize u 234 = u234
  generalize u 235 = u235
  generalize u 236 = u236
  generalize u 237 = u237
  generalize u 238 = u238
  generalize u 239 = u239
  generalize u 240 = u240
  generalize u 241 = u241
  generalize u 242 = u242
  generalize u 243 = u243
  generalize u 244 = u244
  generalize u 245 = u245
  generalize u 246 = u246
  generalize u 247 = u247
  generalize u 248 = u248
  generalize u 249 = u249
  generalize u 250 = u250
  generalize u 251 = u251
  generalize u 252 = u252
  generalize u 253 = u253
  generalize u 254 = u254
  generalize u 255 = u255
  generalize u 256 = u256
  generalize u 257 = u257
  generalize u 258 = u258
  generalize u 259 = u259
  generalize u 260 = u260
  generalize u 261 = u261
  generalize u 262 = u262
  generalize u 263 = u263
  generalize u 264 = u264
  generalize u 265 = u265
  generalize u 266 = u266
  generalize u 267 = u267
  generalize u 268 = u268
  generalize u 269 = u269
  generalize u 270 = u270
  generalize u 271 = u271
  generalize u 272 = u272
  generalize u 273 = u273
  generalize u 274 = u274
  generalize u 275 = u275
  generalize u 276 = u276
  generalize u 277 = u277
  generalize u 278 = u278
  generalize u 279 = u279
  generalize u 280 = u280
  generalize u 281 = u281
  generalize u 282 = u282
  generalize u 283 = u283
  generalize u 284 = u284
  generalize u 285 = u285
  generalize u 286 = u286
  generalize u 287 = u287
  generalize u 288 = u288
  generalize u 289 = u289
  generalize u 290 = u290
  generalize u 291 = u291
  generalize u 292 = u292
  generalize u 293 = u293
  generalize u 294 = u294
  generalize u 295 = u295
  generalize u 296 = u296
  generalize u 297 = u297
  generalize u 298 = u298
  generalize u 299 = u299
  clear u
  by_cases h1 : k < tn
  · have h1' : (k : Int) < (tn : Int) := by omega
    rw [decide_eq_true h1] at HQ
    go_wp2
    exact HQ.out _ ⟨rfl, rfl, rfl, rfl, rfl, rfl, rfl, rfl, rfl, rfl, rfl, rfl, rfl, rfl, rfl, rfl, rfl, rfl, rfl, rfl, rfl, rfl, rfl, rfl⟩ rfl
  · rw [decide_eq_false h1] at HQ
    have h1' : ¬ (k : Int) < (tn : Int) := by omega
    go_wp2
    exact HQ.out _ ⟨rfl, rfl, rfl, rfl, rfl, rfl, rfl, rfl, rfl, rfl, rfl, rfl, rfl, rfl, rfl, rfl, rfl, rfl, rfl, rfl, rfl, rfl, rfl, rfl⟩ rfl
end Go.Proofs.Ythgfijmpofbchaa
/-
  LinkAnew: regions of it as they run (mkanew.py).
-/
namespace Go.Proofs.Ythgfijmpofbchaa
open Go.RowKit

attribute [local go_sem ↓] Go.wp_at_zero Go.wp_at_succ
set_option linter.unusedSimpArgs false
set_option linter.unusedVariables false
set_option maxHeartbeats 8000000 in
set_option maxRecDepth 100000 in
theorem anew_r53 {K : Act → World → Prop} {c : Code} (hc : regOf (Try.f4.body.getD .skip) 53 = some c) (a : Act) {v : AV} {wq : World} {B : BE} {G : PG} {r q : Nat → Nat} {p : PR} {rv : Nat → Value} {rl : Nat → List ByteArray} {n1 j : Nat} (hF : AF a v) (h6v : v.v6 = .pointer (some ⟨G.pb, 0, none⟩)) (h11v : v.v11 = .int .i64 (n1 : Int)) (h12v : v.v12 = rv 0) (h23v : v.v23 = .int .i64 (j : Int)) (hA : AM B wq G r q p rv rl) (hn1 : n1 ≤ 1000000) (hj : j < (rl 0).length) (hsl : (p.sent false).length ≤ 1000000) (hpre : rl 0 <+: (p.sent false).drop n1)
    (hQ : ∀ a', AF a' v → a'.tmps.getD 277 undef = .bool false → K a' wq.drew) :
    Code.wp Try.prog c (Exit.then K fun _ _ _ => False) a wq := by
  have HQ := hide hQ
  clear hQ
  obtain ⟨t', d'⟩ := a
  obtain ⟨v0, v1, v5, v6, v7, v8, v9, v11, v12, v13, v14, v15, v16, v17, v18, v19, v20, v21, v22, v23, v24, v85⟩ := v
  simp only at h6v h11v h12v h23v HQ
  subst h6v h11v h12v h23v
  obtain ⟨hs1, hd1, q0, q1, q5, q6, q7, q8, q9, q11, q12, q13, q14, q15, q16, q17, q18, q19, q20, q21, q22, q23, q24, q85⟩ := hF
  obtain ⟨u, hu⟩ := frame300 t' hs1
  simp only at hd1 q0 q1 q5 q6 q7 q8 q9 q11 q12 q13 q14 q15 q16 q17 q18 q19 q20 q21 q22 q23 q24 q85
  subst hu hd1
  have e0 : u 0 = v0 := q0
  have e1 : u 1 = v1 := q1
  have e5 : u 5 = v5 := q5
  have e6 : u 6 = .pointer (some ⟨G.pb, 0, none⟩) := q6
  have e7 : u 7 = v7 := q7
  have e8 : u 8 = v8 := q8
  have e9 : u 9 = v9 := q9
  have e11 : u 11 = .int .i64 (n1 : Int) := q11
  have e12 : u 12 = rv 0 := q12
  have e13 : u 13 = v13 := q13
  have e14 : u 14 = v14 := q14
  have e15 : u 15 = v15 := q15
  have e16 : u 16 = v16 := q16
  have e17 : u 17 = v17 := q17
  have e18 : u 18 = v18 := q18
  have e19 : u 19 = v19 := q19
  have e20 : u 20 = v20 := q20
  have e21 : u 21 = v21 := q21
  have e22 : u 22 = v22 := q22
  have e23 : u 23 = .int .i64 (j : Int) := q23
  have e24 : u 24 = v24 := q24
  have e85 : u 85 = v85 := q85
  rw [e0, e1, e5, e6, e7, e8, e9, e11, e12, e13, e14, e15, e16, e17, e18, e19, e20, e21, e22, e23, e24, e85]
  clear q0 e0 q1 e1 q5 e5 q6 e6 q7 e7 q8 e8 q9 e9 q11 e11 q12 e12 q13 e13 q14 e14 q15 e15 q16 e16 q17 e17 q18 e18 q19 e19 q20 e20 q21 e21 q22 e22 q23 e23 q24 e24 q85 e85 hs1
  simp only [Try.f4, Option.getD_some, regOf] at hc
  injection hc with hc
  subst hc
  generalize u 2 = u2
  generalize u 3 = u3
  generalize u 4 = u4
  generalize u 10 = u10
  generalize u 25 = u25
  generalize u 26 = u26
  generalize u 27 = u27
  generalize u 28 = u28
  generalize u 29 = u29
  generalize u 30 = u30
  generalize u 31 = u31
  generalize u 32 = u32
  generalize u 33 = u33
  generalize u 34 = u34
  generalize u 35 = u35
  generalize u 36 = u36
  generalize u 37 = u37
  generalize u 38 = u38
  generalize u 39 = u39
  generalize u 40 = u40
  generalize u 41 = u41
  generalize u 42 = u42
  generalize u 43 = u43
  generalize u 44 = u44
  generalize u 45 = u45
  generalize u 46 = u46
  generalize u 47 = u47
  generalize u 48 = u48
  generalize u 49 = u49
  generalize u 50 = u50
  generalize u 51 = u51
  generalize u 52 = u52
  generalize u 53 = u53
  generalize u 54 = u54
  generalize u 55 = u55
  generalize u 56 = u56
  generalize u 57 = u57
  generalize u 58 = u58
  generalize u 59 = u59
  generalize u 60 = u60
  generalize u 61 = u61
  generalize u 62 = u62
  generalize u 63 = u63
  generalize u 64 = u64
  generalize u 65 = u65
  generalize u 66 = u66
  generalize u 67 = u67
  generalize u 68 = u68
  generalize u 69 = u69
  generalize u 70 = u70
  generalize u 71 = u71
  generalize u 72 = u72
  generalize u 73 = u73
  generalize u 74 = u74
  generalize u 75 = u75
  generalize u 76 = u76
  generalize u 77 = u77
  generalize u 78 = u78
  generalize u 79 = u79
  generalize u 80 = u80
  generalize u 81 = u81
  generalize u 82 = u82
  generalize u 83 = u83
  generalize u 84 = u84
  generalize u 86 = u86
  generalize u 87 = u87
  generalize u 88 = u88
  generalize u 89 = u89
  generalize u 90 = u90
  generalize u 91 = u91
  generalize u 92 = u92
  generalize u 93 = u93
  generalize u 94 = u94
  generalize u 95 = u95
  generalize u 96 = u96
  generalize u 97 = u97
  generalize u 98 = u98
  generalize u 99 = u99
  generalize u 100 = u100
  generalize u 101 = u101
  generalize u 102 = u102
  generalize u 103 = u103
  generalize u 104 = u104
  generalize u 105 = u105
  generalize u 106 = u106
  generalize u 107 = u107
  generalize u 108 = u108
  generalize u 109 = u109
  generalize u 110 = u110
  generalize u 111 = u111
  generalize u 112 = u112
  generalize u 113 = u113
  generalize u 114 = u114
  generalize u 115 = u115
  generalize u 116 = u116
  generalize u 117 = u117
  generalize u 118 = u118
  generalize u 119 = u119
  generalize u 120 = u120
  generalize u 121 = u121
  generalize u 122 = u122
  generalize u 123 = u123
  generalize u 124 = u124
  generalize u 125 = u125
  generalize u 126 = u126
  generalize u 127 = u127
  generalize u 128 = u128
  generalize u 129 = u129
  generalize u 130 = u130
  generalize u 131 = u131
  generalize u 132 = u132
  generalize u 133 = u133
  generalize u 134 = u134
  generalize u 135 = u135
  generalize u 136 = u136
  generalize u 137 = u137
  generalize u 138 = u138
  generalize u 139 = u139
  generalize u 140 = u140
  generalize u 141 = u141
  generalize u 142 = u142
  generalize u 143 = u143
  generalize u 144 = u144
  generalize u 145 = u145
  generalize u 146 = u146
  generalize u 147 = u147
  generalize u 148 = u148
  generalize u 149 = u149
  generalize u 150 = u150
  generalize u 151 = u151
  generalize u 152 = u152
  generalize u 153 = u153
  generalize u 154 = u154
  generalize u 155 = u155
  generalize u 156 = u156
  generalize u 157 = u157
  generalize u 158 = u158
  generalize u 159 = u159
  generalize u 160 = u160
  generalize u 161 = u161
  generalize u 162 = u162
  generalize u 163 = u163
  generalize u 164 = u164
  generalize u 165 = u165
  generalize u 166 = u166
  generalize u 167 = u167
  generalize u 168 = u168
  generalize u 169 = u169
  generalize u 170 = u170
  generalize u 171 = u171
  generalize u 172 = u172
  generalize u 173 = u173
  generalize u 174 = u174
  generalize u 175 = u175
  generalize u 176 = u176
  generalize u 177 = u177
  generalize u 178 = u178
  generalize u 179 = u179
  generalize u 180 = u180
  generalize u 181 = u181
  generalize u 182 = u182
  generalize u 183 = u183
  generalize u 184 = u184
  generalize u 185 = u185
  generalize u 186 = u186
  generalize u 187 = u187
  generalize u 188 = u188
  generalize u 189 = u189
  generalize u 190 = u190
  generalize u 191 = u191
  generalize u 192 = u192
  generalize u 193 = u193
  generalize u 194 = u194
  generalize u 195 = u195
  generalize u 196 = u196
  generalize u 197 = u197
  generalize u 198 = u198
  generalize u 199 = u199
  generalize u 200 = u200
  generalize u 201 = u201
  generalize u 202 = u202
  generalize u 203 = u203
  generalize u 204 = u204
  generalize u 205 = u205
  generalize u 206 = u206
  generalize u 207 = u207
  generalize u 208 = u208
  generalize u 209 = u209
  generalize u 210 = u210
  generalize u 211 = u211
  generalize u 212 = u212
  generalize u 213 = u213
  generalize u 214 = u214
  generalize u 215 = u215
  generalize u 216 = u216
  generalize u 217 = u217
  generalize u 218 = u218
  generalize u 219 = u219
  generalize u 220 = u220
  generalize u 221 = u221
  generalize u 222 = u222
  generalize u 223 = u223
  generalize u 224 = u224
  generalize u 225 = u225
  generalize u 226 = u226
  generalize u 227 = u227
  generalize u 228 = u228
  generalize u 229 = u229
  generalize u 230 = u230
  generalize u 231 = u231
  generalize u 232 = u232
  generalize u 233 = u233
  generalize u 234 = u234
  generalize u 235 = u235
  generalize u 236 = u236
  generalize u 237 = u237
  generalize u 238 = u238
  generalize u 239 = u239
  generalize u 240 = u240
  generalize u 241 = u241
  generalize u 242 = u242
  generalize u 243 = u243
  generalize u 244 = u244
  generalize u 245 = u245
  generalize u 246 = u246
  generalize u 247 = u247
  generalize u 248 = u248
  generalize u 249 = u249
  generalize u 250 = u250
  generalize u 251 = u251
  generalize u 252 = u252
  generalize u 253 = u253
  generalize u 254 = u254
  generalize u 255 = u255
  generalize u 256 = u256
  generalize u 257 = u257
  generalize u 258 = u258
  generalize u 259 = u259
  generalize u 260 = u260
  generalize u 261 = u261
  generalize u 262 = u262
  generalize u 263 = u263
  generalize u 264 = u264
  generalize u 265 = u265
  generalize u 266 = u266
  generalize u 267 = u267
  generalize u 268 = u268
  generalize u 269 = u269
  generalize u 270 = u270
  generalize u 271 = u271
  generalize u 272 = u272
  generalize u 273 = u273
  generalize u 274 = u274
  generalize u 275 = u275
  generalize u 276 = u276
  generalize u 277 = u277
  generalize u 278 = u278
  generalize u 279 = u279
  generalize u 280 = u280
  generalize u 281 = u281
  generalize u 282 = u282
  generalize u 283 = u283
  generalize u 284 = u284
  generalize u 285 = u285
  generalize u 286 = u286
  generalize u 287 = u287
  generalize u 288 = u288
  generalize u 289 = u289
  generalize u 290 = u290
  generalize u 291 = u291
  generalize u 292 = u292
  generalize u 293 = u293
  generalize u 294 = u294
  generalize u 295 = u295
  generalize u 296 = u296
  generalize u 297 = u297
  generalize u 298 = u298
  generalize u 299 = u299
  clear u
  have HA := hide hA
  obtain ⟨c0, c1, c2, c3⟩ := hA.pa.cp
  have cs : wq.cell? ⟨G.sb, 0, none⟩ = some (G.sv false) := hA.pa.cs false
  obtain ⟨sa, sc, hsv⟩ := row_slice (hA.pa.sent false)
  rw [hsv] at cs
  obtain ⟨ta, tc, htv⟩ := row_slice (hA.row 0)
  have hle := hpre.length_le
  rw [List.length_drop] at hle
  obtain ⟨tg, hta, h1⟩ := str_at (B := B) (hA.row 0) htv j hj
  obtain ⟨sg, hsa, h2⟩ := str_at (B := B) (hA.pa.sent false) hsv (n1 + j) (by omega)
  have heq : (p.sent false)[n1 + j]'(by omega) = (rl 0)[j] := by
    obtain ⟨z, hz⟩ := hpre
    have e1 : ((p.sent false).drop n1)[j]? = some (rl 0)[j] := by rw [← hz, List.getElem?_append_left hj, List.getElem?_eq_getElem hj]
    rw [List.getElem?_drop, List.getElem?_eq_getElem (by omega)] at e1
    exact Option.some.inj e1
  rw [heq] at h2
  generalize (rl 0)[j] = y at *
  rw [htv]
  subst hta hsa
  obtain ⟨tn, htn⟩ : ∃ tn, (rl 0).length = tn := ⟨_, rfl⟩
  obtain ⟨sn, hsn⟩ : ∃ sn, (p.sent false).length = sn := ⟨_, rfl⟩
  rw [htn] at hj hle htv ⊢
  rw [hsn] at cs hle hsl
  have hj0 : (0 : Int) ≤ (j : Int) := by omega
  have hj1 : (j : Int) < (tn : Int) := by omega
  obtain ⟨m, hm⟩ : ∃ m : Nat, n1 + j = m := ⟨_, rfl⟩
  have hm0 : (n1 : Int) + (j : Int) = (m : Int) := by omega
  have hmw : IntKind.i64.wrap (m : Int) = (m : Int) := by rw [IntKind.wrap_i64]; omega
  have hm1 : (0 : Int) ≤ (m : Int) := by omega
  have hm2 : (m : Int) < (sn : Int) := by omega
  rw [hm] at h2
  have HTV := hide htv
  clear hA hsv htn hsn hpre hle heq htv hsl hn1 hj hm
  go_region_held_law (fun w' => w'.cell? ⟨G.pb, 2, none⟩ = some (sl2 G.sb) ∧ w'.cell? ⟨G.sb, 0, none⟩ = some (.slice (some ⟨sg, 0, none⟩) sn sc) ∧ w'.cell? ⟨tg, j, none⟩ = some (.string y) ∧ w'.cell? ⟨sg, m, none⟩ = some (.string y)) (first | exact ⟨c2, cs, h1, h2⟩) (fail)
  all_goals exact HQ.out _ ⟨rfl, rfl, rfl, rfl, rfl, rfl, rfl, rfl, rfl, rfl, HTV.out.symm, rfl, rfl, rfl, rfl, rfl, rfl, rfl, rfl, rfl, rfl, rfl, rfl, rfl⟩ (by simp)
end Go.Proofs.Ythgfijmpofbchaa
/-
  LinkAnew: regions of it as they run (mkanew.py).
-/
namespace Go.Proofs.Ythgfijmpofbchaa
open Go.RowKit

attribute [local go_sem ↓] Go.wp_at_zero Go.wp_at_succ
set_option linter.unusedSimpArgs false
set_option linter.unusedVariables false
set_option maxHeartbeats 8000000 in
set_option maxRecDepth 100000 in
theorem anew_r58 {K : Act → World → Prop} {c : Code} (hc : regOf (Try.f4.body.getD .skip) 58 = some c) (a : Act) {v : AV} {wq : World} {B : BE} {G : PG} {r q : Nat → Nat} {p : PR} {rv : Nat → Value} {rl : Nat → List ByteArray} {j : Nat} (hF : AF a v) (h14v : v.v14 = rv 1) (h15v : v.v15 = rv 2) (h24v : v.v24 = .int .i64 (j : Int)) (hA : AM B wq G r q p rv rl) (hj : j < (rl 2).length) (hpre : rl 2 <+: rl 1)
    (hQ : ∀ a' w', AF a' v → a'.tmps.getD 298 undef = .bool false → Below wq.heap.size wq w' → K a' w') :
    Code.wp Try.prog c (Exit.then K fun _ _ _ => False) a wq := by
  have HQ := hide hQ
  clear hQ
  obtain ⟨t', d'⟩ := a
  obtain ⟨v0, v1, v5, v6, v7, v8, v9, v11, v12, v13, v14, v15, v16, v17, v18, v19, v20, v21, v22, v23, v24, v85⟩ := v
  simp only at h14v h15v h24v HQ
  subst h14v h15v h24v
  obtain ⟨hs1, hd1, q0, q1, q5, q6, q7, q8, q9, q11, q12, q13, q14, q15, q16, q17, q18, q19, q20, q21, q22, q23, q24, q85⟩ := hF
  obtain ⟨u, hu⟩ := frame300 t' hs1
  simp only at hd1 q0 q1 q5 q6 q7 q8 q9 q11 q12 q13 q14 q15 q16 q17 q18 q19 q20 q21 q22 q23 q24 q85
  subst hu hd1
  have e0 : u 0 = v0 := q0
  have e1 : u 1 = v1 := q1
  have e5 : u 5 = v5 := q5
  have e6 : u 6 = v6 := q6
  have e7 : u 7 = v7 := q7
  have e8 : u 8 = v8 := q8
  have e9 : u 9 = v9 := q9
  have e11 : u 11 = v11 := q11
  have e12 : u 12 = v12 := q12
  have e13 : u 13 = v13 := q13
  have e14 : u 14 = rv 1 := q14
  have e15 : u 15 = rv 2 := q15
  have e16 : u 16 = v16 := q16
  have e17 : u 17 = v17 := q17
  have e18 : u 18 = v18 := q18
  have e19 : u 19 = v19 := q19
  have e20 : u 20 = v20 := q20
  have e21 : u 21 = v21 := q21
  have e22 : u 22 = v22 := q22
  have e23 : u 23 = v23 := q23
  have e24 : u 24 = .int .i64 (j : Int) := q24
  have e85 : u 85 = v85 := q85
  rw [e0, e1, e5, e6, e7, e8, e9, e11, e12, e13, e14, e15, e16, e17, e18, e19, e20, e21, e22, e23, e24, e85]
  clear q0 e0 q1 e1 q5 e5 q6 e6 q7 e7 q8 e8 q9 e9 q11 e11 q12 e12 q13 e13 q14 e14 q15 e15 q16 e16 q17 e17 q18 e18 q19 e19 q20 e20 q21 e21 q22 e22 q23 e23 q24 e24 q85 e85 hs1
  simp only [Try.f4, Option.getD_some, regOf] at hc
  injection hc with hc
  subst hc
  generalize u 2 = u2
  generalize u 3 = u3
  generalize u 4 = u4
  generalize u 10 = u10
  generalize u 25 = u25
  generalize u 26 = u26
  generalize u 27 = u27
  generalize u 28 = u28
  generalize u 29 = u29
  generalize u 30 = u30
  generalize u 31 = u31
  generalize u 32 = u32
  generalize u 33 = u33
  generalize u 34 = u34
  generalize u 35 = u35
  generalize u 36 = u36
  generalize u 37 = u37
  generalize u 38 = u38
  generalize u 39 = u39
  generalize u 40 = u40
  generalize u 41 = u41
  generalize u 42 = u42
  generalize u 43 = u43
  generalize u 44 = u44
  generalize u 45 = u45
  generalize u 46 = u46
  generalize u 47 = u47
  generalize u 48 = u48
  generalize u 49 = u49
  generalize u 50 = u50
  generalize u 51 = u51
  generalize u 52 = u52
  generalize u 53 = u53
  generalize u 54 = u54
  generalize u 55 = u55
  generalize u 56 = u56
  generalize u 57 = u57
  generalize u 58 = u58
  generalize u 59 = u59
  generalize u 60 = u60
  generalize u 61 = u61
  generalize u 62 = u62
  generalize u 63 = u63
  generalize u 64 = u64
  generalize u 65 = u65
  generalize u 66 = u66
  generalize u 67 = u67
  generalize u 68 = u68
  generalize u 69 = u69
  generalize u 70 = u70
  generalize u 71 = u71
  generalize u 72 = u72
  generalize u 73 = u73
  generalize u 74 = u74
  generalize u 75 = u75
  generalize u 76 = u76
  generalize u 77 = u77
  generalize u 78 = u78
  generalize u 79 = u79
  generalize u 80 = u80
  generalize u 81 = u81
  generalize u 82 = u82
  generalize u 83 = u83
  generalize u 84 = u84
  generalize u 86 = u86
  generalize u 87 = u87
  generalize u 88 = u88
  generalize u 89 = u89
  generalize u 90 = u90
  generalize u 91 = u91
  generalize u 92 = u92
  generalize u 93 = u93
  generalize u 94 = u94
  generalize u 95 = u95
  generalize u 96 = u96
  generalize u 97 = u97
  generalize u 98 = u98
  generalize u 99 = u99
  generalize u 100 = u100
  generalize u 101 = u101
  generalize u 102 = u102
  generalize u 103 = u103
  generalize u 104 = u104
  generalize u 105 = u105
  generalize u 106 = u106
  generalize u 107 = u107
  generalize u 108 = u108
  generalize u 109 = u109
  generalize u 110 = u110
  generalize u 111 = u111
  generalize u 112 = u112
  generalize u 113 = u113
  generalize u 114 = u114
  generalize u 115 = u115
  generalize u 116 = u116
  generalize u 117 = u117
  generalize u 118 = u118
  generalize u 119 = u119
  generalize u 120 = u120
  generalize u 121 = u121
  generalize u 122 = u122
  generalize u 123 = u123
  generalize u 124 = u124
  generalize u 125 = u125
  generalize u 126 = u126
  generalize u 127 = u127
  generalize u 128 = u128
  generalize u 129 = u129
  generalize u 130 = u130
  generalize u 131 = u131
  generalize u 132 = u132
  generalize u 133 = u133
  generalize u 134 = u134
  generalize u 135 = u135
  generalize u 136 = u136
  generalize u 137 = u137
  generalize u 138 = u138
  generalize u 139 = u139
  generalize u 140 = u140
  generalize u 141 = u141
  generalize u 142 = u142
  generalize u 143 = u143
  generalize u 144 = u144
  generalize u 145 = u145
  generalize u 146 = u146
  generalize u 147 = u147
  generalize u 148 = u148
  generalize u 149 = u149
  generalize u 150 = u150
  generalize u 151 = u151
  generalize u 152 = u152
  generalize u 153 = u153
  generalize u 154 = u154
  generalize u 155 = u155
  generalize u 156 = u156
  generalize u 157 = u157
  generalize u 158 = u158
  generalize u 159 = u159
  generalize u 160 = u160
  generalize u 161 = u161
  generalize u 162 = u162
  generalize u 163 = u163
  generalize u 164 = u164
  generalize u 165 = u165
  generalize u 166 = u166
  generalize u 167 = u167
  generalize u 168 = u168
  generalize u 169 = u169
  generalize u 170 = u170
  generalize u 171 = u171
  generalize u 172 = u172
  generalize u 173 = u173
  generalize u 174 = u174
  generalize u 175 = u175
  generalize u 176 = u176
  generalize u 177 = u177
  generalize u 178 = u178
  generalize u 179 = u179
  generalize u 180 = u180
  generalize u 181 = u181
  generalize u 182 = u182
  generalize u 183 = u183
  generalize u 184 = u184
  generalize u 185 = u185
  generalize u 186 = u186
  generalize u 187 = u187
  generalize u 188 = u188
  generalize u 189 = u189
  generalize u 190 = u190
  generalize u 191 = u191
  generalize u 192 = u192
  generalize u 193 = u193
  generalize u 194 = u194
  generalize u 195 = u195
  generalize u 196 = u196
  generalize u 197 = u197
  generalize u 198 = u198
  generalize u 199 = u199
  generalize u 200 = u200
  generalize u 201 = u201
  generalize u 202 = u202
  generalize u 203 = u203
  generalize u 204 = u204
  generalize u 205 = u205
  generalize u 206 = u206
  generalize u 207 = u207
  generalize u 208 = u208
  generalize u 209 = u209
  generalize u 210 = u210
  generalize u 211 = u211
  generalize u 212 = u212
  generalize u 213 = u213
  generalize u 214 = u214
  generalize u 215 = u215
  generalize u 216 = u216
  generalize u 217 = u217
  generalize u 218 = u218
  generalize u 219 = u219
  generalize u 220 = u220
  generalize u 221 = u221
  generalize u 222 = u222
  generalize u 223 = u223
  generalize u 224 = u224
  generalize u 225 = u225
  generalize u 226 = u226
  generalize u 227 = u227
  generalize u 228 = u228
  generalize u 229 = u229
  generalize u 230 = u230
  generalize u 231 = u231
  generalize u 232 = u232
  generalize u 233 = u233
  generalize u 234 = u234
  generalize u 235 = u235
  generalize u 236 = u236
  generalize u 237 = u237
  generalize u 238 = u238
  generalize u 239 = u239
  generalize u 240 = u240
  generalize u 241 = u241
  generalize u 242 = u242
  generalize u 243 = u243
  generalize u 244 = u244
  generalize u 245 = u245
  generalize u 246 = u246
  generalize u 247 = u247
  generalize u 248 = u248
  generalize u 249 = u249
  generalize u 250 = u250
  generalize u 251 = u251
  generalize u 252 = u252
  generalize u 253 = u253
  generalize u 254 = u254
  generalize u 255 = u255
  generalize u 256 = u256
  generalize u 257 = u257
  generalize u 258 = u258
  generalize u 259 = u259
  generalize u 260 = u260
  generalize u 261 = u261
  generalize u 262 = u262
  generalize u 263 = u263
  generalize u 264 = u264
  generalize u 265 = u265
  generalize u 266 = u266
  generalize u 267 = u267
  generalize u 268 = u268
  generalize u 269 = u269
  generalize u 270 = u270
  generalize u 271 = u271
  generalize u 272 = u272
  generalize u 273 = u273
  generalize u 274 = u274
  generalize u 275 = u275
  generalize u 276 = u276
  generalize u 277 = u277
  generalize u 278 = u278
  generalize u 279 = u279
  generalize u 280 = u280
  generalize u 281 = u281
  generalize u 282 = u282
  generalize u 283 = u283
  generalize u 284 = u284
  generalize u 285 = u285
  generalize u 286 = u286
  generalize u 287 = u287
  generalize u 288 = u288
  generalize u 289 = u289
  generalize u 290 = u290
  generalize u 291 = u291
  generalize u 292 = u292
  generalize u 293 = u293
  generalize u 294 = u294
  generalize u 295 = u295
  generalize u 296 = u296
  generalize u 297 = u297
  generalize u 298 = u298
  generalize u 299 = u299
  clear u
  have HA := hide hA
  obtain ⟨sa, sc, hsv⟩ := row_slice (hA.row 1)
  obtain ⟨ta, tc, htv⟩ := row_slice (hA.row 2)
  have hle := hpre.length_le
  obtain ⟨tg, hta, h1⟩ := str_at (B := B) (hA.row 2) htv j hj
  obtain ⟨sg, hsa, h2⟩ := str_at (B := B) (hA.row 1) hsv j (by omega)
  have heq : (rl 1)[j]'(by omega) = (rl 2)[j] := by
    obtain ⟨z, hz⟩ := hpre
    simp only [← hz]
    rw [List.getElem_append_left hj]
  rw [heq] at h2
  generalize (rl 2)[j] = y at *
  rw [htv, hsv]
  subst hta hsa
  obtain ⟨tn, htn⟩ : ∃ tn, (rl 2).length = tn := ⟨_, rfl⟩
  obtain ⟨sn, hsn⟩ : ∃ sn, (rl 1).length = sn := ⟨_, rfl⟩
  rw [htn] at hj hle htv ⊢
  rw [hsn] at hle hsv ⊢
  have hj0 : (0 : Int) ≤ (j : Int) := by omega
  have hj1 : (j : Int) < (tn : Int) := by omega
  have hj2 : (j : Int) < (sn : Int) := by omega
  have hg : ¬ (j : Int) ≥ (sn : Int) := by omega
  have hg2 : decide ((j : Int) ≥ (sn : Int)) = false := decide_eq_false hg
  have hg3 : decide ((sn : Int) ≤ (j : Int)) = false := hg2
  have HTV := hide htv
  have HSV := hide hsv
  clear hA hsv htn hsn hpre hle heq htv hj
  go_quiet (fail)
  go_wp2
  exact HQ.out _ _ ⟨rfl, rfl, rfl, rfl, rfl, rfl, rfl, rfl, rfl, rfl, rfl, rfl, HSV.out.symm, HTV.out.symm, rfl, rfl, rfl, rfl, rfl, rfl, rfl, rfl, rfl, rfl⟩ (by first | rfl | simp) (below_drewN (Below.refl _ _) _)
end Go.Proofs.Ythgfijmpofbchaa
