/-
  LinkAnew: regions of it as they run (mkanew.py).
-/
import Derived.Test.YthgfijmpofbchaaZN0
namespace Go.Proofs.Ythgfijmpofbchaa
open Go.RowKit

attribute [local go_sem ↓] Go.wp_at_zero Go.wp_at_succ
set_option linter.unusedSimpArgs false
set_option linter.unusedVariables false
set_option maxHeartbeats 8000000 in
set_option maxRecDepth 100000 in
theorem anew_r39 {K : Act → World → Prop} {c : Code} (hc : regOf (Try.f4.body.getD .skip) 39 = some c) (a : Act) {v : AV} {wq : World} {B : BE} {G : PG} {r q : Nat → Nat} {p : PR} {rv : Nat → Value} {rl : Nat → List ByteArray} {d : Nat} {t : TN} {x : Bool} {k : Nat} (hF : AF a v) (h6v : v.v6 = .pointer (some ⟨G.pb, 0, none⟩)) (h17v : v.v17 = .pointer (some ⟨d, 0, none⟩)) (h18v : v.v18 = .int .i64 (k : Int)) (hk : k = ix x) (hA : AM B wq G r q p rv rl) (hD : BX wq r q d (.cells t.c 52 (0, 0))) (hs : t.s.size ≤ 281474976710656)
    (hQ : ∀ a' w' v', AF a' { v with v19 := .bool (((p.l x).send t.s).1 == 0) } → AM B w' { G with v := set G.v x v' } (upd r wq.heap.size v'.ownBlock (8 + ix x)) q { p with l := set p.l x ((p.l x).send t.s).2 } rv rl → BX w' (upd r wq.heap.size v'.ownBlock (8 + ix x)) q d (.cells t.c 52 (0, 0)) → Below B.n wq w' → K a' w') :
    Code.wp Try.prog c (Exit.then K fun _ _ _ => False) a wq := by
  have HQ := hide hQ
  clear hQ
  obtain ⟨t', d'⟩ := a
  obtain ⟨v0, v1, v5, v6, v7, v8, v9, v11, v12, v13, v14, v15, v16, v17, v18, v19, v20, v21, v22, v23, v24, v85⟩ := v
  simp only at h6v h17v h18v HQ
  subst h6v h17v h18v
  obtain ⟨hs1, hd1, q0, q1, q5, q6, q7, q8, q9, q11, q12, q13, q14, q15, q16, q17, q18, q19, q20, q21, q22, q23, q24, q85⟩ := hF
  obtain ⟨u, hu⟩ := frame300 t' hs1
  simp only at hd1 q0 q1 q5 q6 q7 q8 q9 q11 q12 q13 q14 q15 q16 q17 q18 q19 q20 q21 q22 q23 q24 q85
  subst hu hd1
  have e0 : u 0 = v0 := q0
  have e1 : u 1 = v1 := q1
  have e5 : u 5 = v5 := q5
  have e6 : u 6 = .pointer (some ⟨G.pb, 0, none⟩) := q6
  have e7 : u 7 = v7 := q7
  have e8 : u 8 = v8 := q8
  have e9 : u 9 = v9 := q9
  have e11 : u 11 = v11 := q11
  have e12 : u 12 = v12 := q12
  have e13 : u 13 = v13 := q13
  have e14 : u 14 = v14 := q14
  have e15 : u 15 = v15 := q15
  have e16 : u 16 = v16 := q16
  have e17 : u 17 = .pointer (some ⟨d, 0, none⟩) := q17
  have e18 : u 18 = .int .i64 (k : Int) := q18
  have e19 : u 19 = v19 := q19
  have e20 : u 20 = v20 := q20
  have e21 : u 21 = v21 := q21
  have e22 : u 22 = v22 := q22
  have e23 : u 23 = v23 := q23
  have e24 : u 24 = v24 := q24
  have e85 : u 85 = v85 := q85
  rw [e0, e1, e5, e6, e7, e8, e9, e11, e12, e13, e14, e15, e16, e17, e18, e19, e20, e21, e22, e23, e24, e85]
  clear q0 e0 q1 e1 q5 e5 q6 e6 q7 e7 q8 e8 q9 e9 q11 e11 q12 e12 q13 e13 q14 e14 q15 e15 q16 e16 q17 e17 q18 e18 q19 e19 q20 e20 q21 e21 q22 e22 q23 e23 q24 e24 q85 e85 hs1
  simp only [Try.f4, Option.getD_some, regOf] at hc
  injection hc with hc
  subst hc
  generalize u 2 = u2
  generalize u 3 = u3
  generalize u 4 = u4
  generalize u 10 = u10
  generalize u 25 = u25
  generalize u 26 = u26
  generalize u 27 = u27
  generalize u 28 = u28
  generalize u 29 = u29
  generalize u 30 = u30
  generalize u 31 = u31
  generalize u 32 = u32
  generalize u 33 = u33
  generalize u 34 = u34
  generalize u 35 = u35
  generalize u 36 = u36
  generalize u 37 = u37
  generalize u 38 = u38
  generalize u 39 = u39
  generalize u 40 = u40
  generalize u 41 = u41
  generalize u 42 = u42
  generalize u 43 = u43
  generalize u 44 = u44
  generalize u 45 = u45
  generalize u 46 = u46
  generalize u 47 = u47
  generalize u 48 = u48
  generalize u 49 = u49
  generalize u 50 = u50
  generalize u 51 = u51
  generalize u 52 = u52
  generalize u 53 = u53
  generalize u 54 = u54
  generalize u 55 = u55
  generalize u 56 = u56
  generalize u 57 = u57
  generalize u 58 = u58
  generalize u 59 = u59
  generalize u 60 = u60
  generalize u 61 = u61
  generalize u 62 = u62
  generalize u 63 = u63
  generalize u 64 = u64
  generalize u 65 = u65
  generalize u 66 = u66
  generalize u 67 = u67
  generalize u 68 = u68
  generalize u 69 = u69
  generalize u 70 = u70
  generalize u 71 = u71
  generalize u 72 = u72
  generalize u 73 = u73
  generalize u 74 = u74
  generalize u 75 = u75
  generalize u 76 = u76
  generalize u 77 = u77
  generalize u 78 = u78
  generalize u 79 = u79
  generalize u 80 = u80
  generalize u 81 = u81
  generalize u 82 = u82
  generalize u 83 = u83
  generalize u 84 = u84
  generalize u 86 = u86
  generalize u 87 = u87
  generalize u 88 = u88
  generalize u 89 = u89
  generalize u 90 = u90
  generalize u 91 = u91
  generalize u 92 = u92
  generalize u 93 = u93
  generalize u 94 = u94
  generalize u 95 = u95
  generalize u 96 = u96
  generalize u 97 = u97
  generalize u 98 = u98
  generalize u 99 = u99
  generalize u 100 = u100
  generalize u 101 = u101
  generalize u 102 = u102
  generalize u 103 = u103
  generalize u 104 = u104
  generalize u 105 = u105
  generalize u 106 = u106
  generalize u 107 = u107
  generalize u 108 = u108
  generalize u 109 = u109
  generalize u 110 = u110
  generalize u 111 = u111
  generalize u 112 = u112
  generalize u 113 = u113
  generalize u 114 = u114
  generalize u 115 = u115
  generalize u 116 = u116
  generalize u 117 = u117
  generalize u 118 = u118
  generalize u 119 = u119
  generalize u 120 = u120
  generalize u 121 = u121
  generalize u 122 = u122
  generalize u 123 = u123
  generalize u 124 = u124
  generalize u 125 = u125
  generalize u 126 = u126
  generalize u 127 = u127
  generalize u 128 = u128
  generalize u 129 = u129
  generalize u 130 = u130
  generalize u 131 = u131
  generalize u 132 = u132
  generalize u 133 = u133
  generalize u 134 = u134
  generalize u 135 = u135
  generalize u 136 = u136
  generalize u 137 = u137
  generalize u 138 = u138
  generalize u 139 = u139
  generalize u 140 = u140
  generalize u 141 = u141
  generalize u 142 = u142
  generalize u 143 = u143
  generalize u 144 = u144
  generalize u 145 = u145
  generalize u 146 = u146
  generalize u 147 = u147
  generalize u 148 = u148
  generalize u 149 = u149
  generalize u 150 = u150
  generalize u 151 = u151
  generalize u 152 = u152
  generalize u 153 = u153
  generalize u 154 = u154
  generalize u 155 = u155
  generalize u 156 = u156
  generalize u 157 = u157
  generalize u 158 = u158
  generalize u 159 = u159
  generalize u 160 = u160
  generalize u 161 = u161
  generalize u 162 = u162
  generalize u 163 = u163
  generalize u 164 = u164
  generalize u 165 = u165
  generalize u 166 = u166
  generalize u 167 = u167
  generalize u 168 = u168
  generalize u 169 = u169
  generalize u 170 = u170
  generalize u 171 = u171
  generalize u 172 = u172
  generalize u 173 = u173
  generalize u 174 = u174
  generalize u 175 = u175
  generalize u 176 = u176
  generalize u 177 = u177
  generalize u 178 = u178
  generalize u 179 = u179
  generalize u 180 = u180
  generalize u 181 = u181
  generalize u 182 = u182
  generalize u 183 = u183
  generalize u 184 = u184
  generalize u 185 = u185
  generalize u 186 = u186
  generalize u 187 = u187
  generalize u 188 = u188
  generalize u 189 = u189
  generalize u 190 = u190
  generalize u 191 = u191
  generalize u 192 = u192
  generalize u 193 = u193
  generalize u 194 = u194
  generalize u 195 = u195
  generalize u 196 = u196
  generalize u 197 = u197
  generalize u 198 = u198
  generalize u 199 = u199
  generalize u 200 = u200
  generalize u 201 = u201
  generalize u 202 = u202
  generalize u 203 = u203
  generalize u 204 = u204
  generalize u 205 = u205
  generalize u 206 = u206
  generalize u 207 = u207
  generalize u 208 = u208
  generalize u 209 = u209
  generalize u 210 = u210
  generalize u 211 = u211
  generalize u 212 = u212
  generalize u 213 = u213
  generalize u 214 = u214
  generalize u 215 = u215
  generalize u 216 = u216
  generalize u 217 = u217
  generalize u 218 = u218
  generalize u 219 = u219
  generalize u 220 = u220
  generalize u 221 = u221
  generalize u 222 = u222
  generalize u 223 = u223
  generalize u 224 = u224
  generalize u 225 = u225
  generalize u 226 = u226
  generalize u 227 = u227
  generalize u 228 = u228
  generalize u 229 = u229
  generalize u 230 = u230
  generalize u 231 = u231
  generalize u 232 = u232
  generalize u 233 = u233
  generalize u 234 = u234
  generalize u 235 = u235
  generalize u 236 = u236
  generalize u 237 = u237
  generalize u 238 = u238
  generalize u 239 = u239
  generalize u 240 = u240
  generalize u 241 = u241
  generalize u 242 = u242
  generalize u 243 = u243
  generalize u 244 = u244
  generalize u 245 = u245
  generalize u 246 = u246
  generalize u 247 = u247
  generalize u 248 = u248
  generalize u 249 = u249
  generalize u 250 = u250
  generalize u 251 = u251
  generalize u 252 = u252
  generalize u 253 = u253
  generalize u 254 = u254
  generalize u 255 = u255
  generalize u 256 = u256
  generalize u 257 = u257
  generalize u 258 = u258
  generalize u 259 = u259
  generalize u 260 = u260
  generalize u 261 = u261
  generalize u 262 = u262
  generalize u 263 = u263
  generalize u 264 = u264
  generalize u 265 = u265
  generalize u 266 = u266
  generalize u 267 = u267
  generalize u 268 = u268
  generalize u 269 = u269
  generalize u 270 = u270
  generalize u 271 = u271
  generalize u 272 = u272
  generalize u 273 = u273
  generalize u 274 = u274
  generalize u 275 = u275
  generalize u 276 = u276
  generalize u 277 = u277
  generalize u 278 = u278
  generalize u 279 = u279
  generalize u 280 = u280
  generalize u 281 = u281
  generalize u 282 = u282
  generalize u 283 = u283
  generalize u 284 = u284
  generalize u 285 = u285
  generalize u 286 = u286
  generalize u 287 = u287
  generalize u 288 = u288
  generalize u 289 = u289
  generalize u 290 = u290
  generalize u 291 = u291
  generalize u 292 = u292
  generalize u 293 = u293
  generalize u 294 = u294
  generalize u 295 = u295
  generalize u 296 = u296
  generalize u 297 = u297
  generalize u 298 = u298
  generalize u 299 = u299
  clear u
  have HA := hide hA
  obtain ⟨c0, c1, c2, c3⟩ := hA.pa.cp
  have HX := hide hk
  have hk0 : (0 : Int) ≤ (k : Int) := by omega
  have hk1 : (k : Int) < 2 := by have := ix_lt x; omega
  have HD := hide hD
  have cl := hA.pa.cl x
  rw [← hk] at cl
  have cd := box_cell hD.at_ 3 rfl
  have HS := hide (fun W (hW : PL W (G.b x) (G.v x) (p.l x)) => psend hW t.s hs)
  have HKK := hide (enters_of Try.func9 (by kernel_rfl) rfl)
  have PD : Hid (PL wq.drew (G.b x) (G.v x) (p.l x)) := hA.pa.drew.link x
  have own : ∀ j, pown (G.b x) (G.v x) j → 1 ≤ r j := fun j hj => by
    rcases hj with rfl | hj
    · rw [HA.out.pa.rb x]; omega
    · rw [HA.out.pa.rv x j hj]; omega
  have OW := hide own
  clear own hA hD hs hk
  generalize ((p.l x).send t.s).1 = er at *
  generalize ((p.l x).send t.s).2 = ls at *
  obtain ⟨tk, tw, ti, ts⟩ := t
  simp only at *
  go_region_held_law (fun w' => w'.cell? ⟨G.pb, 0, none⟩ = some (sl2 G.lb) ∧ w'.cell? ⟨G.lb, k, none⟩ = some (.pointer (some ⟨G.b x, 0, none⟩)) ∧ w'.cell? ⟨d, 3, none⟩ = some (.string ts)) (first | go_keep | exact KS.out) ((refine step_fn_d (by rfl) 164 (by rfl) 9 _ _ (by rfl) HKK.out [.pointer (some ⟨G.b x, 0, none⟩), .string ts] rfl (HS.out _ PD.out) ?_; rintro e w1 ⟨rfl, v1, p1, s1⟩; refine ⟨_, rfl, ?_⟩; have P1 := hide (show AM B w1 { G with v := set G.v x v1 } (upd r wq.heap.size v1.ownBlock (8 + ix x)) q { p with l := set p.l x ls } rv rl ∧ BX w1 (upd r wq.heap.size v1.ownBlock (8 + ix x)) q d (.cells #[.int .i64 tk, .int .i64 tw, .int .i64 ti, .string ts] 52 (0, 0)) ∧ Below B.n wq w1 from ⟨HA.out.drew.pair (HA.out.drew.pa.call x p1 s1) s1.touch (fun j e _ => OW.out j e) (fun j e => upd_old e), HD.out.drew.pair s1.touch (fun j e _ => OW.out j e) (fun j e => upd_old e), below_of_drew (HA.out.drew.pa.toBelow s1.touch fun j e _ => OW.out j e)⟩); have KS : Hid (w1.cell? ⟨G.pb, 0, none⟩ = some (sl2 G.lb) ∧ w1.cell? ⟨G.lb, k, none⟩ = some (.pointer (some ⟨G.b x, 0, none⟩)) ∧ w1.cell? ⟨d, 3, none⟩ = some (.string ts)) := ⟨P1.out.1.pa.cp.1, by rw [HX.out]; exact P1.out.1.pa.cl x, box_cell P1.out.2.1.at_ 3 rfl⟩; clear p1 s1))
  all_goals exact HQ.out _ _ v1 ⟨rfl, rfl, rfl, rfl, rfl, rfl, rfl, rfl, rfl, rfl, rfl, rfl, rfl, rfl, rfl, rfl, rfl, rfl, rfl, rfl, rfl, rfl, rfl, rfl⟩ P1.out.1 P1.out.2.1 P1.out.2.2
end Go.Proofs.Ythgfijmpofbchaa
/-
  LinkAnew: regions of it as they run (mkanew.py).
-/
namespace Go.Proofs.Ythgfijmpofbchaa
open Go.RowKit

attribute [local go_sem ↓] Go.wp_at_zero Go.wp_at_succ
set_option linter.unusedSimpArgs false
set_option linter.unusedVariables false
set_option maxHeartbeats 8000000 in
set_option maxRecDepth 100000 in
theorem anew_r47 {K : Act → World → Prop} {c : Code} (hc : regOf (Try.f4.body.getD .skip) 47 = some c) (a : Act) {v : AV} {wq : World} {B : BE} {G : PG} {r q : Nat → Nat} {p : PR} {rv : Nat → Value} {rl : Nat → List ByteArray} {x : Bool} {k : Nat} (hF : AF a v) (h6v : v.v6 = .pointer (some ⟨G.pb, 0, none⟩)) (h18v : v.v18 = .int .i64 (k : Int)) (hk : k = ix x) (hA : AM B wq G r q p rv rl)
    (hQ : ∀ a' w' rr, AF a' v → AM B w' G rr q (p.tk x) rv rl → Below B.n wq w' → K a' w') :
    Code.wp Try.prog c (Exit.then K fun _ _ _ => False) a wq := by
  have HQ := hide hQ
  clear hQ
  obtain ⟨t', d'⟩ := a
  obtain ⟨v0, v1, v5, v6, v7, v8, v9, v11, v12, v13, v14, v15, v16, v17, v18, v19, v20, v21, v22, v23, v24, v85⟩ := v
  simp only at h6v h18v HQ
  subst h6v h18v
  obtain ⟨hs1, hd1, q0, q1, q5, q6, q7, q8, q9, q11, q12, q13, q14, q15, q16, q17, q18, q19, q20, q21, q22, q23, q24, q85⟩ := hF
  obtain ⟨u, hu⟩ := frame300 t' hs1
  simp only at hd1 q0 q1 q5 q6 q7 q8 q9 q11 q12 q13 q14 q15 q16 q17 q18 q19 q20 q21 q22 q23 q24 q85
  subst hu hd1
  have e0 : u 0 = v0 := q0
  have e1 : u 1 = v1 := q1
  have e5 : u 5 = v5 := q5
  have e6 : u 6 = .pointer (some ⟨G.pb, 0, none⟩) := q6
  have e7 : u 7 = v7 := q7
  have e8 : u 8 = v8 := q8
  have e9 : u 9 = v9 := q9
  have e11 : u 11 = v11 := q11
  have e12 : u 12 = v12 := q12
  have e13 : u 13 = v13 := q13
  have e14 : u 14 = v14 := q14
  have e15 : u 15 = v15 := q15
  have e16 : u 16 = v16 := q16
  have e17 : u 17 = v17 := q17
  have e18 : u 18 = .int .i64 (k : Int) := q18
  have e19 : u 19 = v19 := q19
  have e20 : u 20 = v20 := q20
  have e21 : u 21 = v21 := q21
  have e22 : u 22 = v22 := q22
  have e23 : u 23 = v23 := q23
  have e24 : u 24 = v24 := q24
  have e85 : u 85 = v85 := q85
  rw [e0, e1, e5, e6, e7, e8, e9, e11, e12, e13, e14, e15, e16, e17, e18, e19, e20, e21, e22, e23, e24, e85]
  clear q0 e0 q1 e1 q5 e5 q6 e6 q7 e7 q8 e8 q9 e9 q11 e11 q12 e12 q13 e13 q14 e14 q15 e15 q16 e16 q17 e17 q18 e18 q19 e19 q20 e20 q21 e21 q22 e22 q23 e23 q24 e24 q85 e85 hs1
  simp only [Try.f4, Option.getD_some, regOf] at hc
  injection hc with hc
  subst hc
  generalize u 2 = u2
  generalize u 3 = u3
  generalize u 4 = u4
  generalize u 10 = u10
  generalize u 25 = u25
  generalize u 26 = u26
  generalize u 27 = u27
  generalize u 28 = u28
  generalize u 29 = u29
  generalize u 30 = u30
  generalize u 31 = u31
  generalize u 32 = u32
  generalize u 33 = u33
  generalize u 34 = u34
  generalize u 35 = u35
  generalize u 36 = u36
  generalize u 37 = u37
  generalize u 38 = u38
  generalize u 39 = u39
  generalize u 40 = u40
  generalize u 41 = u41
  generalize u 42 = u42
  generalize u 43 = u43
  generalize u 44 = u44
  generalize u 45 = u45
  generalize u 46 = u46
  generalize u 47 = u47
  generalize u 48 = u48
  generalize u 49 = u49
  generalize u 50 = u50
  generalize u 51 = u51
  generalize u 52 = u52
  generalize u 53 = u53
  generalize u 54 = u54
  generalize u 55 = u55
  generalize u 56 = u56
  generalize u 57 = u57
  generalize u 58 = u58
  generalize u 59 = u59
  generalize u 60 = u60
  generalize u 61 = u61
  generalize u 62 = u62
  generalize u 63 = u63
  generalize u 64 = u64
  generalize u 65 = u65
  generalize u 66 = u66
  generalize u 67 = u67
  generalize u 68 = u68
  generalize u 69 = u69
  generalize u 70 = u70
  generalize u 71 = u71
  generalize u 72 = u72
  generalize u 73 = u73
  generalize u 74 = u74
  generalize u 75 = u75
  generalize u 76 = u76
  generalize u 77 = u77
  generalize u 78 = u78
  generalize u 79 = u79
  generalize u 80 = u80
  generalize u 81 = u81
  generalize u 82 = u82
  generalize u 83 = u83
  generalize u 84 = u84
  generalize u 86 = u86
  generalize u 87 = u87
  generalize u 88 = u88
  generalize u 89 = u89
  generalize u 90 = u90
  generalize u 91 = u91
  generalize u 92 = u92
  generalize u 93 = u93
  generalize u 94 = u94
  generalize u 95 = u95
  generalize u 96 = u96
  generalize u 97 = u97
  generalize u 98 = u98
  generalize u 99 = u99
  generalize u 100 = u100
  generalize u 101 = u101
  generalize u 102 = u102
  generalize u 103 = u103
  generalize u 104 = u104
  generalize u 105 = u105
  generalize u 106 = u106
  generalize u 107 = u107
  generalize u 108 = u108
  generalize u 109 = u109
  generalize u 110 = u110
  generalize u 111 = u111
  generalize u 112 = u112
  generalize u 113 = u113
  generalize u 114 = u114
  generalize u 115 = u115
  generalize u 116 = u116
  generalize u 117 = u117
  generalize u 118 = u118
  generalize u 119 = u119
  generalize u 120 = u120
  generalize u 121 = u121
  generalize u 122 = u122
  generalize u 123 = u123
  generalize u 124 = u124
  generalize u 125 = u125
  generalize u 126 = u126
  generalize u 127 = u127
  generalize u 128 = u128
  generalize u 129 = u129
  generalize u 130 = u130
  generalize u 131 = u131
  generalize u 132 = u132
  generalize u 133 = u133
  generalize u 134 = u134
  generalize u 135 = u135
  generalize u 136 = u136
  generalize u 137 = u137
  generalize u 138 = u138
  generalize u 139 = u139
  generalize u 140 = u140
  generalize u 141 = u141
  generalize u 142 = u142
  generalize u 143 = u143
  generalize u 144 = u144
  generalize u 145 = u145
  generalize u 146 = u146
  generalize u 147 = u147
  generalize u 148 = u148
  generalize u 149 = u149
  generalize u 150 = u150
  generalize u 151 = u151
  generalize u 152 = u152
  generalize u 153 = u153
  generalize u 154 = u154
  generalize u 155 = u155
  generalize u 156 = u156
  generalize u 157 = u157
  generalize u 158 = u158
  generalize u 159 = u159
  generalize u 160 = u160
  generalize u 161 = u161
  generalize u 162 = u162
  generalize u 163 = u163
  generalize u 164 = u164
  generalize u 165 = u165
  generalize u 166 = u166
  generalize u 167 = u167
  generalize u 168 = u168
  generalize u 169 = u169
  generalize u 170 = u170
  generalize u 171 = u171
  generalize u 172 = u172
  generalize u 173 = u173
  generalize u 174 = u174
  generalize u 175 = u175
  generalize u 176 = u176
  generalize u 177 = u177
  generalize u 178 = u178
  generalize u 179 = u179
  generalize u 180 = u180
  generalize u 181 = u181
  generalize u 182 = u182
  generalize u 183 = u183
  generalize u 184 = u184
  generalize u 185 = u185
  generalize u 186 = u186
  generalize u 187 = u187
  generalize u 188 = u188
  generalize u 189 = u189
  generalize u 190 = u190
  generalize u 191 = u191
  generalize u 192 = u192
  generalize u 193 = u193
  generalize u 194 = u194
  generalize u 195 = u195
  generalize u 196 = u196
  generalize u 197 = u197
  generalize u 198 = u198
  generalize u 199 = u199
  generalize u 200 = u200
  generalize u 201 = u201
  generalize u 202 = u202
  generalize u 203 = u203
  generalize u 204 = u204
  generalize u 205 = u205
  generalize u 206 = u206
  generalize u 207 = u207
  generalize u 208 = u208
  generalize u 209 = u209
  generalize u 210 = u210
  generalize u 211 = u211
  generalize u 212 = u212
  generalize u 213 = u213
  generalize u 214 = u214
  generalize u 215 = u215
  generalize u 216 = u216
  generalize u 217 = u217
  generalize u 218 = u218
  generalize u 219 = u219
  generalize u 220 = u220
  generalize u 221 = u221
  generalize u 222 = u222
  generalize u 223 = u223
  generalize u 224 = u224
  generalize u 225 = u225
  generalize u 226 = u226
  generalize u 227 = u227
  generalize u 228 = u228
  generalize u 229 = u229
  generalize u 230 = u230
  generalize u 231 = u231
  generalize u 232 = u232
  generalize u 233 = u233
  generalize u 234 = u234
  generalize u 235 = u235
  generalize u 236 = u236
  generalize u 237 = u237
  generalize u 238 = u238
  generalize u 239 = u239
  generalize u 240 = u240
  generalize u 241 = u241
  generalize u 242 = u242
  generalize u 243 = u243
  generalize u 244 = u244
  generalize u 245 = u245
  generalize u 246 = u246
  generalize u 247 = u247
  generalize u 248 = u248
  generalize u 249 = u249
  generalize u 250 = u250
  generalize u 251 = u251
  generalize u 252 = u252
  generalize u 253 = u253
  generalize u 254 = u254
  generalize u 255 = u255
  generalize u 256 = u256
  generalize u 257 = u257
  generalize u 258 = u258
  generalize u 259 = u259
  generalize u 260 = u260
  generalize u 261 = u261
  generalize u 262 = u262
  generalize u 263 = u263
  generalize u 264 = u264
  generalize u 265 = u265
  generalize u 266 = u266
  generalize u 267 = u267
  generalize u 268 = u268
  generalize u 269 = u269
  generalize u 270 = u270
  generalize u 271 = u271
  generalize u 272 = u272
  generalize u 273 = u273
  generalize u 274 = u274
  generalize u 275 = u275
  generalize u 276 = u276
  generalize u 277 = u277
  generalize u 278 = u278
  generalize u 279 = u279
  generalize u 280 = u280
  generalize u 281 = u281
  generalize u 282 = u282
  generalize u 283 = u283
  generalize u 284 = u284
  generalize u 285 = u285
  generalize u 286 = u286
  generalize u 287 = u287
  generalize u 288 = u288
  generalize u 289 = u289
  generalize u 290 = u290
  generalize u 291 = u291
  generalize u 292 = u292
  generalize u 293 = u293
  generalize u 294 = u294
  generalize u 295 = u295
  generalize u 296 = u296
  generalize u 297 = u297
  generalize u 298 = u298
  generalize u 299 = u299
  clear u
  have HA := hide hA
  obtain ⟨c0, c1, c2, c3⟩ := hA.pa.cp
  have HX := hide hk
  have hk0 : (0 : Int) ≤ (k : Int) := by omega
  have hk1 : (k : Int) < 2 := by have := ix_lt x; omega
  have cl := hA.pa.cl x
  rw [← hk] at cl
  have HS := hide (ptick (hA.pa.link x))
  have own : ∀ j, pown (G.b x) (G.v x) j → 1 ≤ r j := fun j hj => by
    rcases hj with rfl | hj
    · rw [HA.out.pa.rb x]; omega
    · rw [HA.out.pa.rv x j hj]; omega
  have OW := hide own
  clear own hA hk
  go_wp2_with (go_at_call 14; refine HS.out.mono ?_; rintro e w1 ⟨rfl, p1, t1⟩; have P1 := hide (HA.out.pair (HA.out.pa.call x p1 ⟨t1, fun _ e => .inl e⟩) t1 (fun j e _ => OW.out j e) (fun j e => upd_old e)); have B1 := hide (HA.out.pa.toBelow t1 fun j e _ => OW.out j e); clear p1 t1)
  have PQ := P1.out
  rw [set_self] at PQ
  exact HQ.out _ _ _ ⟨rfl, rfl, rfl, rfl, rfl, rfl, rfl, rfl, rfl, rfl, rfl, rfl, rfl, rfl, rfl, rfl, rfl, rfl, rfl, rfl, rfl, rfl, rfl, rfl⟩ PQ B1.out
set_option maxHeartbeats 8000000 in
set_option maxRecDepth 100000 in
theorem anew_r26 {K : Act → World → Prop} {c : Code} (hc : regOf (Try.f4.body.getD .skip) 26 = some c) (a : Act) {v : AV} {wq : World} {B : BE} {G : PG} {r q : Nat → Nat} {p : PR} {rv : Nat → Value} {rl : Nat → List ByteArray} {x : Bool} {k : Nat} (hF : AF a v) (h6v : v.v6 = .pointer (some ⟨G.pb, 0, none⟩)) (h18v : v.v18 = .int .i64 (k : Int)) (hk : k = ix x) (hA : AM B wq G r q p rv rl)
    (hQ : ∀ a', AF a' v → a'.tmps.getD 94 undef = .bool (decide ((p.way x).length = 0)) → K a' wq) :
    Code.wp Try.prog c (Exit.then K fun _ _ _ => False) a wq := by
  have HQ := hide hQ
  clear hQ
  obtain ⟨t', d'⟩ := a
  obtain ⟨v0, v1, v5, v6, v7, v8, v9, v11, v12, v13, v14, v15, v16, v17, v18, v19, v20, v21, v22, v23, v24, v85⟩ := v
  simp only at h6v h18v HQ
  subst h6v h18v
  obtain ⟨hs1, hd1, q0, q1, q5, q6, q7, q8, q9, q11, q12, q13, q14, q15, q16, q17, q18, q19, q20, q21, q22, q23, q24, q85⟩ := hF
  obtain ⟨u, hu⟩ := frame300 t' hs1
  simp only at hd1 q0 q1 q5 q6 q7 q8 q9 q11 q12 q13 q14 q15 q16 q17 q18 q19 q20 q21 q22 q23 q24 q85
  subst hu hd1
  have e0 : u 0 = v0 := q0
  have e1 : u 1 = v1 := q1
  have e5 : u 5 = v5 := q5
  have e6 : u 6 = .pointer (some ⟨G.pb, 0, none⟩) := q6
  have e7 : u 7 = v7 := q7
  have e8 : u 8 = v8 := q8
  have e9 : u 9 = v9 := q9
  have e11 : u 11 = v11 := q11
  have e12 : u 12 = v12 := q12
  have e13 : u 13 = v13 := q13
  have e14 : u 14 = v14 := q14
  have e15 : u 15 = v15 := q15
  have e16 : u 16 = v16 := q16
  have e17 : u 17 = v17 := q17
  have e18 : u 18 = .int .i64 (k : Int) := q18
  have e19 : u 19 = v19 := q19
  have e20 : u 20 = v20 := q20
  have e21 : u 21 = v21 := q21
  have e22 : u 22 = v22 := q22
  have e23 : u 23 = v23 := q23
  have e24 : u 24 = v24 := q24
  have e85 : u 85 = v85 := q85
  rw [e0, e1, e5, e6, e7, e8, e9, e11, e12, e13, e14, e15, e16, e17, e18, e19, e20, e21, e22, e23, e24, e85]
  clear q0 e0 q1 e1 q5 e5 q6 e6 q7 e7 q8 e8 q9 e9 q11 e11 q12 e12 q13 e13 q14 e14 q15 e15 q16 e16 q17 e17 q18 e18 q19 e19 q20 e20 q21 e21 q22 e22 q23 e23 q24 e24 q85 e85 hs1
  simp only [Try.f4, Option.getD_some, regOf] at hc
  injection hc with hc
  subst hc
  generalize u 2 = u2
  generalize u 3 = u3
  generalize u 4 = u4
  generalize u 10 = u10
  generalize u 25 = u25
  generalize u 26 = u26
  generalize u 27 = u27
  generalize u 28 = u28
  generalize u 29 = u29
  generalize u 30 = u30
  generalize u 31 = u31
  generalize u 32 = u32
  generalize u 33 = u33
  generalize u 34 = u34
  generalize u 35 = u35
  generalize u 36 = u36
  generalize u 37 = u37
  generalize u 38 = u38
  generalize u 39 = u39
  generalize u 40 = u40
  generalize u 41 = u41
  generalize u 42 = u42
  generalize u 43 = u43
  generalize u 44 = u44
  generalize u 45 = u45
  generalize u 46 = u46
  generalize u 47 = u47
  generalize u 48 = u48
  generalize u 49 = u49
  generalize u 50 = u50
  generalize u 51 = u51
  generalize u 52 = u52
  generalize u 53 = u53
  generalize u 54 = u54
  generalize u 55 = u55
  generalize u 56 = u56
  generalize u 57 = u57
  generalize u 58 = u58
  generalize u 59 = u59
  generalize u 60 = u60
  generalize u 61 = u61
  generalize u 62 = u62
  generalize u 63 = u63
  generalize u 64 = u64
  generalize u 65 = u65
  generalize u 66 = u66
  generalize u 67 = u67
  generalize u 68 = u68
  generalize u 69 = u69
  generalize u 70 = u70
  generalize u 71 = u71
  generalize u 72 = u72
  generalize u 73 = u73
  generalize u 74 = u74
  generalize u 75 = u75
  generalize u 76 = u76
  generalize u 77 = u77
  generalize u 78 = u78
  generalize u 79 = u79
  generalize u 80 = u80
  generalize u 81 = u81
  generalize u 82 = u82
  generalize u 83 = u83
  generalize u 84 = u84
  generalize u 86 = u86
  generalize u 87 = u87
  generalize u 88 = u88
  generalize u 89 = u89
  generalize u 90 = u90
  generalize u 91 = u91
  generalize u 92 = u92
  generalize u 93 = u93
  generalize u 94 = u94
  generalize u 95 = u95
  generalize u 96 = u96
  generalize u 97 = u97
  generalize u 98 = u98
  generalize u 99 = u99
  generalize u 100 = u100
  generalize u 101 = u101
  generalize u 102 = u102
  generalize u 103 = u103
  generalize u 104 = u104
  generalize u 105 = u105
  generalize u 106 = u106
  generalize u 107 = u107
  generalize u 108 = u108
  generalize u 109 = u109
  generalize u 110 = u110
  generalize u 111 = u111
  generalize u 112 = u112
  generalize u 113 = u113
  generalize u 114 = u114
  generalize u 115 = u115
  generalize u 116 = u116
  generalize u 117 = u117
  generalize u 118 = u118
  generalize u 119 = u119
  generalize u 120 = u120
  generalize u 121 = u121
  generalize u 122 = u122
  generalize u 123 = u123
  generalize u 124 = u124
  generalize u 125 = u125
  generalize u 126 = u126
  generalize u 127 = u127
  generalize u 128 = u128
  generalize u 129 = u129
  generalize u 130 = u130
  generalize u 131 = u131
  generalize u 132 = u132
  generalize u 133 = u133
  generalize u 134 = u134
  generalize u 135 = u135
  generalize u 136 = u136
  generalize u 137 = u137
  generalize u 138 = u138
  generalize u 139 = u139
  generalize u 140 = u140
  generalize u 141 = u141
  generalize u 142 = u142
  generalize u 143 = u143
  generalize u 144 = u144
  generalize u 145 = u145
  generalize u 146 = u146
  generalize u 147 = u147
  generalize u 148 = u148
  generalize u 149 = u149
  generalize u 150 = u150
  generalize u 151 = u151
  generalize u 152 = u152
  generalize u 153 = u153
  generalize u 154 = u154
  generalize u 155 = u155
  generalize u 156 = u156
  generalize u 157 = u157
  generalize u 158 = u158
  generalize u 159 = u159
  generalize u 160 = u160
  generalize u 161 = u161
  generalize u 162 = u162
  generalize u 163 = u163
  generalize u 164 = u164
  generalize u 165 = u165
  generalize u 166 = u166
  generalize u 167 = u167
  generalize u 168 = u168
  generalize u 169 = u169
  generalize u 170 = u170
  generalize u 171 = u171
  generalize u 172 = u172
  generalize u 173 = u173
  generalize u 174 = u174
  generalize u 175 = u175
  generalize u 176 = u176
  generalize u 177 = u177
  generalize u 178 = u178
  generalize u 179 = u179
  generalize u 180 = u180
  generalize u 181 = u181
  generalize u 182 = u182
  generalize u 183 = u183
  generalize u 184 = u184
  generalize u 185 = u185
  generalize u 186 = u186
  generalize u 187 = u187
  generalize u 188 = u188
  generalize u 189 = u189
  generalize u 190 = u190
  generalize u 191 = u191
  generalize u 192 = u192
  generalize u 193 = u193
  generalize u 194 = u194
  generalize u 195 = u195
  generalize u 196 = u196
  generalize u 197 = u197
  generalize u 198 = u198
  generalize u 199 = u199
  generalize u 200 = u200
  generalize u 201 = u201
  generalize u 202 = u202
  generalize u 203 = u203
  generalize u 204 = u204
  generalize u 205 = u205
  generalize u 206 = u206
  generalize u 207 = u207
  generalize u 208 = u208
  generalize u 209 = u209
  generalize u 210 = u210
  generalize u 211 = u211
  generalize u 212 = u212
  generalize u 213 = u213
  generalize u 214 = u214
  generalize u 215 = u215
  generalize u 216 = u216
  generalize u 217 = u217
  generalize u 218 = u218
  generalize u 219 = u219
  generalize u 220 = u220
  generalize u 221 = u221
  generalize u 222 = u222
  generalize u 223 = u223
  generalize u 224 = u224
  generalize u 225 = u225
  generalize u 226 = u226
  generalize u 227 = u227
  generalize u 228 = u228
  generalize u 229 = u229
  generalize u 230 = u230
  generalize u 231 = u231
  generalize u 232 = u232
  generalize u 233 = u233
  generalize u 234 = u234
  generalize u 235 = u235
  generalize u 236 = u236
  generalize u 237 = u237
  generalize u 238 = u238
  generalize u 239 = u239
  generalize u 240 = u240
  generalize u 241 = u241
  generalize u 242 = u242
  generalize u 243 = u243
  generalize u 244 = u244
  generalize u 245 = u245
  generalize u 246 = u246
  generalize u 247 = u247
  generalize u 248 = u248
  generalize u 249 = u249
  generalize u 250 = u250
  generalize u 251 = u251
  generalize u 252 = u252
  generalize u 253 = u253
  generalize u 254 = u254
  generalize u 255 = u255
  generalize u 256 = u256
  generalize u 257 = u257
  generalize u 258 = u258
  generalize u 259 = u259
  generalize u 260 = u260
  generalize u 261 = u261
  generalize u 262 = u262
  generalize u 263 = u263
  generalize u 264 = u264
  generalize u 265 = u265
  generalize u 266 = u266
  generalize u 267 = u267
  generalize u 268 = u268
  generalize u 269 = u269
  generalize u 270 = u270
  generalize u 271 = u271
  generalize u 272 = u272
  generalize u 273 = u273
  generalize u 274 = u274
  generalize u 275 = u275
  generalize u 276 = u276
  generalize u 277 = u277
  generalize u 278 = u278
  generalize u 279 = u279
  generalize u 280 = u280
  generalize u 281 = u281
  generalize u 282 = u282
  generalize u 283 = u283
  generalize u 284 = u284
  generalize u 285 = u285
  generalize u 286 = u286
  generalize u 287 = u287
  generalize u 288 = u288
  generalize u 289 = u289
  generalize u 290 = u290
  generalize u 291 = u291
  generalize u 292 = u292
  generalize u 293 = u293
  generalize u 294 = u294
  generalize u 295 = u295
  generalize u 296 = u296
  generalize u 297 = u297
  generalize u 298 = u298
  generalize u 299 = u299
  clear u
  have HA := hide hA
  obtain ⟨c0, c1, c2, c3⟩ := hA.pa.cp
  have HX := hide hk
  have hk0 : (0 : Int) ≤ (k : Int) := by omega
  have hk1 : (k : Int) < 2 := by have := ix_lt x; omega
  have cs := hA.pa.cw x
  rw [← hk] at cs
  obtain ⟨so, sc, hsv⟩ := row_slice (hA.pa.way x)
  rw [hsv] at cs
  generalize (p.way x).length = n at *
  clear hA hk hsv
  by_cases hn : n = 0
  · rw [decide_eq_true hn] at HQ
    subst hn
    go_wp2
    exact HQ.out _ ⟨rfl, rfl, rfl, rfl, rfl, rfl, rfl, rfl, rfl, rfl, rfl, rfl, rfl, rfl, rfl, rfl, rfl, rfl, rfl, rfl, rfl, rfl, rfl, rfl⟩ rfl
  · rw [decide_eq_false hn] at HQ
    have g := beq_zero_false hn
    clear hn
    go_wp2
    exact HQ.out _ ⟨rfl, rfl, rfl, rfl, rfl, rfl, rfl, rfl, rfl, rfl, rfl, rfl, rfl, rfl, rfl, rfl, rfl, rfl, rfl, rfl, rfl, rfl, rfl, rfl⟩ rfl
set_option maxHeartbeats 8000000 in
set_option maxRecDepth 100000 in
theorem anew_r31 {K : Act → World → Prop} {c : Code} (hc : regOf (Try.f4.body.getD .skip) 31 = some c) (a : Act) {v : AV} {wq : World} {B : BE} {G : PG} {r q : Nat → Nat} {p : PR} {rv : Nat → Value} {rl : Nat → List ByteArray} (hF : AF a v) (h6v : v.v6 = .pointer (some ⟨G.pb, 0, none⟩)) (hA : AM B wq G r q p rv rl)
    (hQ : ∀ a', AF a' { v with v11 := .int .i64 ((p.sent false).length : Int) } → K a' wq) :
    Code.wp Try.prog c (Exit.then K fun _ _ _ => False) a wq := by
  have HQ := hide hQ
  clear hQ
  obtain ⟨t', d'⟩ := a
  obtain ⟨v0, v1, v5, v6, v7, v8, v9, v11, v12, v13, v14, v15, v16, v17, v18, v19, v20, v21, v22, v23, v24, v85⟩ := v
  simp only at h6v HQ
  subst h6v
  obtain ⟨hs1, hd1, q0, q1, q5, q6, q7, q8, q9, q11, q12, q13, q14, q15, q16, q17, q18, q19, q20, q21, q22, q23, q24, q85⟩ := hF
  obtain ⟨u, hu⟩ := frame300 t' hs1
  simp only at hd1 q0 q1 q5 q6 q7 q8 q9 q11 q12 q13 q14 q15 q16 q17 q18 q19 q20 q21 q22 q23 q24 q85
  subst hu hd1
  have e0 : u 0 = v0 := q0
  have e1 : u 1 = v1 := q1
  have e5 : u 5 = v5 := q5
  have e6 : u 6 = .pointer (some ⟨G.pb, 0, none⟩) := q6
  have e7 : u 7 = v7 := q7
  have e8 : u 8 = v8 := q8
  have e9 : u 9 = v9 := q9
  have e11 : u 11 = v11 := q11
  have e12 : u 12 = v12 := q12
  have e13 : u 13 = v13 := q13
  have e14 : u 14 = v14 := q14
  have e15 : u 15 = v15 := q15
  have e16 : u 16 = v16 := q16
  have e17 : u 17 = v17 := q17
  have e18 : u 18 = v18 := q18
  have e19 : u 19 = v19 := q19
  have e20 : u 20 = v20 := q20
  have e21 : u 21 = v21 := q21
  have e22 : u 22 = v22 := q22
  have e23 : u 23 = v23 := q23
  have e24 : u 24 = v24 := q24
  have e85 : u 85 = v85 := q85
  rw [e0, e1, e5, e6, e7, e8, e9, e11, e12, e13, e14, e15, e16, e17, e18, e19, e20, e21, e22, e23, e24, e85]
  clear q0 e0 q1 e1 q5 e5 q6 e6 q7 e7 q8 e8 q9 e9 q11 e11 q12 e12 q13 e13 q14 e14 q15 e15 q16 e16 q17 e17 q18 e18 q19 e19 q20 e20 q21 e21 q22 e22 q23 e23 q24 e24 q85 e85 hs1
  simp only [Try.f4, Option.getD_some, regOf] at hc
  injection hc with hc
  subst hc
  generalize u 2 = u2
  generalize u 3 = u3
  generalize u 4 = u4
  generalize u 10 = u10
  generalize u 25 = u25
  generalize u 26 = u26
  generalize u 27 = u27
  generalize u 28 = u28
  generalize u 29 = u29
  generalize u 30 = u30
  generalize u 31 = u31
  generalize u 32 = u32
  generalize u 33 = u33
  generalize u 34 = u34
  generalize u 35 = u35
  generalize u 36 = u36
  generalize u 37 = u37
  generalize u 38 = u38
  generalize u 39 = u39
  generalize u 40 = u40
  generalize u 41 = u41
  generalize u 42 = u42
  generalize u 43 = u43
  generalize u 44 = u44
  generalize u 45 = u45
  generalize u 46 = u46
  generalize u 47 = u47
  generalize u 48 = u48
  generalize u 49 = u49
  generalize u 50 = u50
  generalize u 51 = u51
  generalize u 52 = u52
  generalize u 53 = u53
  generalize u 54 = u54
  generalize u 55 = u55
  generalize u 56 = u56
  generalize u 57 = u57
  generalize u 58 = u58
  generalize u 59 = u59
  generalize u 60 = u60
  generalize u 61 = u61
  generalize u 62 = u62
  generalize u 63 = u63
  generalize u 64 = u64
  generalize u 65 = u65
  generalize u 66 = u66
  generalize u 67 = u67
  generalize u 68 = u68
  generalize u 69 = u69
  generalize u 70 = u70
  generalize u 71 = u71
  generalize u 72 = u72
  generalize u 73 = u73
  generalize u 74 = u74
  generalize u 75 = u75
  generalize u 76 = u76
  generalize u 77 = u77
  generalize u 78 = u78
  generalize u 79 = u79
  generalize u 80 = u80
  generalize u 81 = u81
  generalize u 82 = u82
  generalize u 83 = u83
  generalize u 84 = u84
  generalize u 86 = u86
  generalize u 87 = u87
  generalize u 88 = u88
  generalize u 89 = u89
  generalize u 90 = u90
  generalize u 91 = u91
  generalize u 92 = u92
  generalize u 93 = u93
  generalize u 94 = u94
  generalize u 95 = u95
  generalize u 96 = u96
  generalize u 97 = u97
  generalize u 98 = u98
  generalize u 99 = u99
  generalize u 100 = u100
  generalize u 101 = u101
  generalize u 102 = u102
  generalize u 103 = u103
  generalize u 104 = u104
  generalize u 105 = u105
  generalize u 106 = u106
  generalize u 107 = u107
  generalize u 108 = u108
  generalize u 109 = u109
  generalize u 110 = u110
  generalize u 111 = u111
  generalize u 112 = u112
  generalize u 113 = u113
  generalize u 114 = u114
  generalize u 115 = u115
  generalize u 116 = u116
  generalize u 117 = u117
  generalize u 118 = u118
  generalize u 119 = u119
  generalize u 120 = u120
  generalize u 121 = u121
  generalize u 122 = u122
  generalize u 123 = u123
  generalize u 124 = u124
  generalize u 125 = u125
  generalize u 126 = u126
  generalize u 127 = u127
  generalize u 128 = u128
  generalize u 129 = u129
  generalize u 130 = u130
  generalize u 131 = u131
  generalize u 132 = u132
  generalize u 133 = u133
  generalize u 134 = u134
  generalize u 135 = u135
  generalize u 136 = u136
  generalize u 137 = u137
  generalize u 138 = u138
  generalize u 139 = u139
  generalize u 140 = u140
  generalize u 141 = u141
  generalize u 142 = u142
  generalize u 143 = u143
  generalize u 144 = u144
  generalize u 145 = u145
  generalize u 146 = u146
  generalize u 147 = u147
  generalize u 148 = u148
  generalize u 149 = u149
  generalize u 150 = u150
  generalize u 151 = u151
  generalize u 152 = u152
  generalize u 153 = u153
  generalize u 154 = u154
  generalize u 155 = u155
  generalize u 156 = u156
  generalize u 157 = u157
  generalize u 158 = u158
  generalize u 159 = u159
  generalize u 160 = u160
  generalize u 161 = u161
  generalize u 162 = u162
  generalize u 163 = u163
  generalize u 164 = u164
  generalize u 165 = u165
  generalize u 166 = u166
  generalize u 167 = u167
  generalize u 168 = u168
  generalize u 169 = u169
  generalize u 170 = u170
  generalize u 171 = u171
  generalize u 172 = u172
  generalize u 173 = u173
  generalize u 174 = u174
  generalize u 175 = u175
  generalize u 176 = u176
  generalize u 177 = u177
  generalize u 178 = u178
  generalize u 179 = u179
  generalize u 180 = u180
  generalize u 181 = u181
  generalize u 182 = u182
  generalize u 183 = u183
  generalize u 184 = u184
  generalize u 185 = u185
  generalize u 186 = u186
  generalize u 187 = u187
  generalize u 188 = u188
  generalize u 189 = u189
  generalize u 190 = u190
  generalize u 191 = u191
  generalize u 192 = u192
  generalize u 193 = u193
  generalize u 194 = u194
  generalize u 195 = u195
  generalize u 196 = u196
  generalize u 197 = u197
  generalize u 198 = u198
  generalize u 199 = u199
  generalize u 200 = u200
  generalize u 201 = u201
  generalize u 202 = u202
  generalize u 203 = u203
  generalize u 204 = u204
  generalize u 205 = u205
  generalize u 206 = u206
  generalize u 207 = u207
  generalize u 208 = u208
  generalize u 209 = u209
  generalize u 210 = u210
  generalize u 211 = u211
  generalize u 212 = u212
  generalize u 213 = u213
  generalize u 214 = u214
  generalize u 215 = u215
  generalize u 216 = u216
  generalize u 217 = u217
  generalize u 218 = u218
  generalize u 219 = u219
  generalize u 220 = u220
  generalize u 221 = u221
  generalize u 222 = u222
  generalize u 223 = u223
  generalize u 224 = u224
  generalize u 225 = u225
  generalize u 226 = u226
  generalize u 227 = u227
  generalize u 228 = u228
  generalize u 229 = u229
  generalize u 230 = u230
  generalize u 231 = u231
  generalize u 232 = u232
  generalize u 233 = u233
  generalize u 234 = u234
  generalize u 235 = u235
  generalize u 236 = u236
  generalize u 237 = u237
  generalize u 238 = u238
  generalize u 239 = u239
  generalize u 240 = u240
  generalize u 241 = u241
  generalize u 242 = u242
  generalize u 243 = u243
  generalize u 244 = u244
  generalize u 245 = u245
  generalize u 246 = u246
  generalize u 247 = u247
  generalize u 248 = u248
  generalize u 249 = u249
  generalize u 250 = u250
  generalize u 251 = u251
  generalize u 252 = u252
  generalize u 253 = u253
  generalize u 254 = u254
  generalize u 255 = u255
  generalize u 256 = u256
  generalize u 257 = u257
  generalize u 258 = u258
  generalize u 259 = u259
  generalize u 260 = u260
  generalize u 261 = u261
  generalize u 262 = u262
  generalize u 263 = u263
  generalize u 264 = u264
  generalize u 265 = u265
  generalize u 266 = u266
  generalize u 267 = u267
  generalize u 268 = u268
  generalize u 269 = u269
  generalize u 270 = u270
  generalize u 271 = u271
  generalize u 272 = u272
  generalize u 273 = u273
  generalize u 274 = u274
  generalize u 275 = u275
  generalize u 276 = u276
  generalize u 277 = u277
  generalize u 278 = u278
  generalize u 279 = u279
  generalize u 280 = u280
  generalize u 281 = u281
  generalize u 282 = u282
  generalize u 283 = u283
  generalize u 284 = u284
  generalize u 285 = u285
  generalize u 286 = u286
  generalize u 287 = u287
  generalize u 288 = u288
  generalize u 289 = u289
  generalize u 290 = u290
  generalize u 291 = u291
  generalize u 292 = u292
  generalize u 293 = u293
  generalize u 294 = u294
  generalize u 295 = u295
  generalize u 296 = u296
  generalize u 297 = u297
  generalize u 298 = u298
  generalize u 299 = u299
  clear u
  have HA := hide hA
  obtain ⟨c0, c1, c2, c3⟩ := hA.pa.cp
  have cs : wq.cell? ⟨G.sb, 0, none⟩ = some (G.sv false) := hA.pa.cs false
  obtain ⟨so, sc, hsv⟩ := row_slice (hA.pa.sent false)
  rw [hsv] at cs
  generalize (p.sent false).length = n at *
  clear hA hsv
  go_wp2
  exact HQ.out _ ⟨rfl, rfl, rfl, rfl, rfl, rfl, rfl, rfl, rfl, rfl, rfl, rfl, rfl, rfl, rfl, rfl, rfl, rfl, rfl, rfl, rfl, rfl, rfl, rfl⟩
set_option maxHeartbeats 8000000 in
set_option maxRecDepth 100000 in
theorem anew_r15 {K : Act → World → Prop} {c : Code} (hc : regOf (Try.f4.body.getD .skip) 15 = some c) (a : Act) {v : AV} {wq : World} {B : BE} {G : PG} {r q : Nat → Nat} {p : PR} {rv : Nat → Value} {rl : Nat → List ByteArray} (hF : AF a v) (h6v : v.v6 = .pointer (some ⟨G.pb, 0, none⟩)) (hA : AM B wq G r q p rv rl)
    (hQ : ∀ a', AF a' { v with v11 := .int .i64 ((p.sent false).length : Int) } → K a' wq) :
    Code.wp Try.prog c (Exit.then K fun _ _ _ => False) a wq := by
  have HQ := hide hQ
  clear hQ
  obtain ⟨t', d'⟩ := a
  obtain ⟨v0, v1, v5, v6, v7, v8, v9, v11, v12, v13, v14, v15, v16, v17, v18, v19, v20, v21, v22, v23, v24, v85⟩ := v
  simp only at h6v HQ
  subst h6v
  obtain ⟨hs1, hd1, q0, q1, q5, q6, q7, q8, q9, q11, q12, q13, q14, q15, q16, q17, q18, q19, q20, q21, q22, q23, q24, q85⟩ := hF
  obtain ⟨u, hu⟩ := frame300 t' hs1
  simp only at hd1 q0 q1 q5 q6 q7 q8 q9 q11 q12 q13 q14 q15 q16 q17 q18 q19 q20 q21 q22 q23 q24 q85
  subst hu hd1
  have e0 : u 0 = v0 := q0
  have e1 : u 1 = v1 := q1
  have e5 : u 5 = v5 := q5
  have e6 : u 6 = .pointer (some ⟨G.pb, 0, none⟩) := q6
  have e7 : u 7 = v7 := q7
  have e8 : u 8 = v8 := q8
  have e9 : u 9 = v9 := q9
  have e11 : u 11 = v11 := q11
  have e12 : u 12 = v12 := q12
  have e13 : u 13 = v13 := q13
  have e14 : u 14 = v14 := q14
  have e15 : u 15 = v15 := q15
  have e16 : u 16 = v16 := q16
  have e17 : u 17 = v17 := q17
  have e18 : u 18 = v18 := q18
  have e19 : u 19 = v19 := q19
  have e20 : u 20 = v20 := q20
  have e21 : u 21 = v21 := q21
  have e22 : u 22 = v22 := q22
  have e23 : u 23 = v23 := q23
  have e24 : u 24 = v24 := q24
  have e85 : u 85 = v85 := q85
  rw [e0, e1, e5, e6, e7, e8, e9, e11, e12, e13, e14, e15, e16, e17, e18, e19, e20, e21, e22, e23, e24, e85]
  clear q0 e0 q1 e1 q5 e5 q6 e6 q7 e7 q8 e8 q9 e9 q11 e11 q12 e12 q13 e13 q14 e14 q15 e15 q16 e16 q17 e17 q18 e18 q19 e19 q20 e20 q21 e21 q22 e22 q23 e23 q24 e24 q85 e85 hs1
  simp only [Try.f4, Option.getD_some, regOf] at hc
  injection hc with hc
  subst hc
  generalize u 2 = u2
  generalize u 3 = u3
  generalize u 4 = u4
  generalize u 10 = u10
  generalize u 25 = u25
  generalize u 26 = u26
  generalize u 27 = u27
  generalize u 28 = u28
  generalize u 29 = u29
  generalize u 30 = u30
  generalize u 31 = u31
  generalize u 32 = u32
  generalize u 33 = u33
  generalize u 34 = u34
  generalize u 35 = u35
  generalize u 36 = u36
  generalize u 37 = u37
  generalize u 38 = u38
  generalize u 39 = u39
  generalize u 40 = u40
  generalize u 41 = u41
  generalize u 42 = u42
  generalize u 43 = u43
  generalize u 44 = u44
  generalize u 45 = u45
  generalize u 46 = u46
  generalize u 47 = u47
  generalize u 48 = u48
  generalize u 49 = u49
  generalize u 50 = u50
  generalize u 51 = u51
  generalize u 52 = u52
  generalize u 53 = u53
  generalize u 54 = u54
  generalize u 55 = u55
  generalize u 56 = u56
  generalize u 57 = u57
  generalize u 58 = u58
  generalize u 59 = u59
  generalize u 60 = u60
  generalize u 61 = u61
  generalize u 62 = u62
  generalize u 63 = u63
  generalize u 64 = u64
  generalize u 65 = u65
  generalize u 66 = u66
  generalize u 67 = u67
  generalize u 68 = u68
  generalize u 69 = u69
  generalize u 70 = u70
  generalize u 71 = u71
  generalize u 72 = u72
  generalize u 73 = u73
  generalize u 74 = u74
  generalize u 75 = u75
  generalize u 76 = u76
  generalize u 77 = u77
  generalize u 78 = u78
  generalize u 79 = u79
  generalize u 80 = u80
  generalize u 81 = u81
  generalize u 82 = u82
  generalize u 83 = u83
  generalize u 84 = u84
  generalize u 86 = u86
  generalize u 87 = u87
  generalize u 88 = u88
  generalize u 89 = u89
  generalize u 90 = u90
  generalize u 91 = u91
  generalize u 92 = u92
  generalize u 93 = u93
  generalize u 94 = u94
  generalize u 95 = u95
  generalize u 96 = u96
  generalize u 97 = u97
  generalize u 98 = u98
  generalize u 99 = u99
  generalize u 100 = u100
  generalize u 101 = u101
  generalize u 102 = u102
  generalize u 103 = u103
  generalize u 104 = u104
  generalize u 105 = u105
  generalize u 106 = u106
  generalize u 107 = u107
  generalize u 108 = u108
  generalize u 109 = u109
  generalize u 110 = u110
  generalize u 111 = u111
  generalize u 112 = u112
  generalize u 113 = u113
  generalize u 114 = u114
  generalize u 115 = u115
  generalize u 116 = u116
  generalize u 117 = u117
  generalize u 118 = u118
  generalize u 119 = u119
  generalize u 120 = u120
  generalize u 121 = u121
  generalize u 122 = u122
  generalize u 123 = u123
  generalize u 124 = u124
  generalize u 125 = u125
  generalize u 126 = u126
  generalize u 127 = u127
  generalize u 128 = u128
  generalize u 129 = u129
  generalize u 130 = u130
  generalize u 131 = u131
  generalize u 132 = u132
  generalize u 133 = u133
  generalize u 134 = u134
  generalize u 135 = u135
  generalize u 136 = u136
  generalize u 137 = u137
  generalize u 138 = u138
  generalize u 139 = u139
  generalize u 140 = u140
  generalize u 141 = u141
  generalize u 142 = u142
  generalize u 143 = u143
  generalize u 144 = u144
  generalize u 145 = u145
  generalize u 146 = u146
  generalize u 147 = u147
  generalize u 148 = u148
  generalize u 149 = u149
  generalize u 150 = u150
  generalize u 151 = u151
  generalize u 152 = u152
  generalize u 153 = u153
  generalize u 154 = u154
  generalize u 155 = u155
  generalize u 156 = u156
  generalize u 157 = u157
  generalize u 158 = u158
  generalize u 159 = u159
  generalize u 160 = u160
  generalize u 161 = u161
  generalize u 162 = u162
  generalize u 163 = u163
  generalize u 164 = u164
  generalize u 165 = u165
  generalize u 166 = u166
  generalize u 167 = u167
  generalize u 168 = u168
  generalize u 169 = u169
  generalize u 170 = u170
  generalize u 171 = u171
  generalize u 172 = u172
  generalize u 173 = u173
  generalize u 174 = u174
  generalize u 175 = u175
  generalize u 176 = u176
  generalize u 177 = u177
  generalize u 178 = u178
  generalize u 179 = u179
  generalize u 180 = u180
  generalize u 181 = u181
  generalize u 182 = u182
  generalize u 183 = u183
  generalize u 184 = u184
  generalize u 185 = u185
  generalize u 186 = u186
  generalize u 187 = u187
  generalize u 188 = u188
  generalize u 189 = u189
  generalize u 190 = u190
  generalize u 191 = u191
  generalize u 192 = u192
  generalize u 193 = u193
  generalize u 194 = u194
  generalize u 195 = u195
  generalize u 196 = u196
  generalize u 197 = u197
  generalize u 198 = u198
  generalize u 199 = u199
  generalize u 200 = u200
  generalize u 201 = u201
  generalize u 202 = u202
  generalize u 203 = u203
  generalize u 204 = u204
  generalize u 205 = u205
  generalize u 206 = u206
  generalize u 207 = u207
  generalize u 208 = u208
  generalize u 209 = u209
  generalize u 210 = u210
  generalize u 211 = u211
  generalize u 212 = u212
  generalize u 213 = u213
  generalize u 214 = u214
  generalize u 215 = u215
  generalize u 216 = u216
  generalize u 217 = u217
  generalize u 218 = u218
  generalize u 219 = u219
  generalize u 220 = u220
  generalize u 221 = u221
  generalize u 222 = u222
  generalize u 223 = u223
  generalize u 224 = u224
  generalize u 225 = u225
  generalize u 226 = u226
  generalize u 227 = u227
  generalize u 228 = u228
  generalize u 229 = u229
  generalize u 230 = u230
  generalize u 231 = u231
  generalize u 232 = u232
  generalize u 233 = u233
  generalize u 234 = u234
  generalize u 235 = u235
  generalize u 236 = u236
  generalize u 237 = u237
  generalize u 238 = u238
  generalize u 239 = u239
  generalize u 240 = u240
  generalize u 241 = u241
  generalize u 242 = u242
  generalize u 243 = u243
  generalize u 244 = u244
  generalize u 245 = u245
  generalize u 246 = u246
  generalize u 247 = u247
  generalize u 248 = u248
  generalize u 249 = u249
  generalize u 250 = u250
  generalize u 251 = u251
  generalize u 252 = u252
  generalize u 253 = u253
  generalize u 254 = u254
  generalize u 255 = u255
  generalize u 256 = u256
  generalize u 257 = u257
  generalize u 258 = u258
  generalize u 259 = u259
  generalize u 260 = u260
  generalize u 261 = u261
  generalize u 262 = u262
  generalize u 263 = u263
  generalize u 264 = u264
  generalize u 265 = u265
  generalize u 266 = u266
  generalize u 267 = u267
  generalize u 268 = u268
  generalize u 269 = u269
  generalize u 270 = u270
  generalize u 271 = u271
  generalize u 272 = u272
  generalize u 273 = u273
  generalize u 274 = u274
  generalize u 275 = u275
  generalize u 276 = u276
  generalize u 277 = u277
  generalize u 278 = u278
  generalize u 279 = u279
  generalize u 280 = u280
  generalize u 281 = u281
  generalize u 282 = u282
  generalize u 283 = u283
  generalize u 284 = u284
  generalize u 285 = u285
  generalize u 286 = u286
  generalize u 287 = u287
  generalize u 288 = u288
  generalize u 289 = u289
  generalize u 290 = u290
  generalize u 291 = u291
  generalize u 292 = u292
  generalize u 293 = u293
  generalize u 294 = u294
  generalize u 295 = u295
  generalize u 296 = u296
  generalize u 297 = u297
  generalize u 298 = u298
  generalize u 299 = u299
  clear u
  have HA := hide hA
  obtain ⟨c0, c1, c2, c3⟩ := hA.pa.cp
  have cs : wq.cell? ⟨G.sb, 0, none⟩ = some (G.sv false) := hA.pa.cs false
  obtain ⟨so, sc, hsv⟩ := row_slice (hA.pa.sent false)
  rw [hsv] at cs
  generalize (p.sent false).length = n at *
  clear hA hsv
  go_wp2
  exact HQ.out _ ⟨rfl, rfl, rfl, rfl, rfl, rfl, rfl, rfl, rfl, rfl, rfl, rfl, rfl, rfl, rfl, rfl, rfl, rfl, rfl, rfl, rfl, rfl, rfl, rfl⟩
end Go.Proofs.Ythgfijmpofbchaa
/-
  LinkAnew: regions of it as they run (mkanew.py).
-/
namespace Go.Proofs.Ythgfijmpofbchaa
open Go.RowKit

attribute [local go_sem ↓] Go.wp_at_zero Go.wp_at_succ
set_option linter.unusedSimpArgs false
set_option linter.unusedVariables false
theorem pos_of {a c : Nat} (h : a = 3 ∨ a = 10 + c) : 1 ≤ a := by omega
set_option maxHeartbeats 8000000 in
set_option maxRecDepth 100000 in
theorem anew_r45 {K : Act → World → Prop} {c : Code} (hc : regOf (Try.f4.body.getD .skip) 45 = some c) (a : Act) {v : AV} {wq : World} {B : BE} {G : PG} {r q : Nat → Nat} {p : PR} {rv : Nat → Value} {rl : Nat → List ByteArray} {x : Bool} {k : Nat} (hF : AF a v) (h6v : v.v6 = .pointer (some ⟨G.pb, 0, none⟩)) (h18v : v.v18 = .int .i64 (k : Int)) (hk : k = ix x) (hA : AM B wq G r q p rv rl) (hl : (p.way (!x)).length ≤ 100000) (hm : (p.l x).outs.length ≤ 100000)
    (hQ : ∀ a' w' v' rr, AF a' v → AM B w' { G with wv := set G.wv (!x) v' } rr q (p.pt x) rv rl → Below B.n wq w' → K a' w') :
    Code.wp Try.prog c (Exit.then K fun _ _ _ => False) a wq := by
  have HQ := hide hQ
  clear hQ
  obtain ⟨t', d'⟩ := a
  obtain ⟨v0, v1, v5, v6, v7, v8, v9, v11, v12, v13, v14, v15, v16, v17, v18, v19, v20, v21, v22, v23, v24, v85⟩ := v
  simp only at h6v h18v HQ
  subst h6v h18v
  obtain ⟨hs1, hd1, q0, q1, q5, q6, q7, q8, q9, q11, q12, q13, q14, q15, q16, q17, q18, q19, q20, q21, q22, q23, q24, q85⟩ := hF
  obtain ⟨u, hu⟩ := frame300 t' hs1
  simp only at hd1 q0 q1 q5 q6 q7 q8 q9 q11 q12 q13 q14 q15 q16 q17 q18 q19 q20 q21 q22 q23 q24 q85
  subst hu hd1
  have e0 : u 0 = v0 := q0
  have e1 : u 1 = v1 := q1
  have e5 : u 5 = v5 := q5
  have e6 : u 6 = .pointer (some ⟨G.pb, 0, none⟩) := q6
  have e7 : u 7 = v7 := q7
  have e8 : u 8 = v8 := q8
  have e9 : u 9 = v9 := q9
  have e11 : u 11 = v11 := q11
  have e12 : u 12 = v12 := q12
  have e13 : u 13 = v13 := q13
  have e14 : u 14 = v14 := q14
  have e15 : u 15 = v15 := q15
  have e16 : u 16 = v16 := q16
  have e17 : u 17 = v17 := q17
  have e18 : u 18 = .int .i64 (k : Int) := q18
  have e19 : u 19 = v19 := q19
  have e20 : u 20 = v20 := q20
  have e21 : u 21 = v21 := q21
  have e22 : u 22 = v22 := q22
  have e23 : u 23 = v23 := q23
  have e24 : u 24 = v24 := q24
  have e85 : u 85 = v85 := q85
  rw [e0, e1, e5, e6, e7, e8, e9, e11, e12, e13, e14, e15, e16, e17, e18, e19, e20, e21, e22, e23, e24, e85]
  clear q0 e0 q1 e1 q5 e5 q6 e6 q7 e7 q8 e8 q9 e9 q11 e11 q12 e12 q13 e13 q14 e14 q15 e15 q16 e16 q17 e17 q18 e18 q19 e19 q20 e20 q21 e21 q22 e22 q23 e23 q24 e24 q85 e85 hs1
  simp only [Try.f4, Option.getD_some, regOf] at hc
  injection hc with hc
  subst hc
  generalize u 2 = u2
  generalize u 3 = u3
  generalize u 4 = u4
  generalize u 10 = u10
  generalize u 25 = u25
  generalize u 26 = u26
  generalize u 27 = u27
  generalize u 28 = u28
  generalize u 29 = u29
  generalize u 30 = u30
  generalize u 31 = u31
  generalize u 32 = u32
  generalize u 33 = u33
  generalize u 34 = u34
  generalize u 35 = u35
  generalize u 36 = u36
  generalize u 37 = u37
  generalize u 38 = u38
  generalize u 39 = u39
  generalize u 40 = u40
  generalize u 41 = u41
  generalize u 42 = u42
  generalize u 43 = u43
  generalize u 44 = u44
  generalize u 45 = u45
  generalize u 46 = u46
  generalize u 47 = u47
  generalize u 48 = u48
  generalize u 49 = u49
  generalize u 50 = u50
  generalize u 51 = u51
  generalize u 52 = u52
  generalize u 53 = u53
  generalize u 54 = u54
  generalize u 55 = u55
  generalize u 56 = u56
  generalize u 57 = u57
  generalize u 58 = u58
  generalize u 59 = u59
  generalize u 60 = u60
  generalize u 61 = u61
  generalize u 62 = u62
  generalize u 63 = u63
  generalize u 64 = u64
  generalize u 65 = u65
  generalize u 66 = u66
  generalize u 67 = u67
  generalize u 68 = u68
  generalize u 69 = u69
  generalize u 70 = u70
  generalize u 71 = u71
  generalize u 72 = u72
  generalize u 73 = u73
  generalize u 74 = u74
  generalize u 75 = u75
  generalize u 76 = u76
  generalize u 77 = u77
  generalize u 78 = u78
  generalize u 79 = u79
  generalize u 80 = u80
  generalize u 81 = u81
  generalize u 82 = u82
  generalize u 83 = u83
  generalize u 84 = u84
  generalize u 86 = u86
  generalize u 87 = u87
  generalize u 88 = u88
  generalize u 89 = u89
  generalize u 90 = u90
  generalize u 91 = u91
  generalize u 92 = u92
  generalize u 93 = u93
  generalize u 94 = u94
  generalize u 95 = u95
  generalize u 96 = u96
  generalize u 97 = u97
  generalize u 98 = u98
  generalize u 99 = u99
  generalize u 100 = u100
  generalize u 101 = u101
  generalize u 102 = u102
  generalize u 103 = u103
  generalize u 104 = u104
  generalize u 105 = u105
  generalize u 106 = u106
  generalize u 107 = u107
  generalize u 108 = u108
  generalize u 109 = u109
  generalize u 110 = u110
  generalize u 111 = u111
  generalize u 112 = u112
  generalize u 113 = u113
  generalize u 114 = u114
  generalize u 115 = u115
  generalize u 116 = u116
  generalize u 117 = u117
  generalize u 118 = u118
  generalize u 119 = u119
  generalize u 120 = u120
  generalize u 121 = u121
  generalize u 122 = u122
  generalize u 123 = u123
  generalize u 124 = u124
  generalize u 125 = u125
  generalize u 126 = u126
  generalize u 127 = u127
  generalize u 128 = u128
  generalize u 129 = u129
  generalize u 130 = u130
  generalize u 131 = u131
  generalize u 132 = u132
  generalize u 133 = u133
  generalize u 134 = u134
  generalize u 135 = u135
  generalize u 136 = u136
  generalize u 137 = u137
  generalize u 138 = u138
  generalize u 139 = u139
  generalize u 140 = u140
  generalize u 141 = u141
  generalize u 142 = u142
  generalize u 143 = u143
  generalize u 144 = u144
  generalize u 145 = u145
  generalize u 146 = u146
  generalize u 147 = u147
  generalize u 148 = u148
  generalize u 149 = u149
  generalize u 150 = u150
  generalize u 151 = u151
  generalize u 152 = u152
  generalize u 153 = u153
  generalize u 154 = u154
  generalize u 155 = u155
  generalize u 156 = u156
  generalize u 157 = u157
  generalize u 158 = u158
  generalize u 159 = u159
  generalize u 160 = u160
  generalize u 161 = u161
  generalize u 162 = u162
  generalize u 163 = u163
  generalize u 164 = u164
  generalize u 165 = u165
  generalize u 166 = u166
  generalize u 167 = u167
  generalize u 168 = u168
  generalize u 169 = u169
  generalize u 170 = u170
  generalize u 171 = u171
  generalize u 172 = u172
  generalize u 173 = u173
  generalize u 174 = u174
  generalize u 175 = u175
  generalize u 176 = u176
  generalize u 177 = u177
  generalize u 178 = u178
  generalize u 179 = u179
  generalize u 180 = u180
  generalize u 181 = u181
  generalize u 182 = u182
  generalize u 183 = u183
  generalize u 184 = u184
  generalize u 185 = u185
  generalize u 186 = u186
  generalize u 187 = u187
  generalize u 188 = u188
  generalize u 189 = u189
  generalize u 190 = u190
  generalize u 191 = u191
  generalize u 192 = u192
  generalize u 193 = u193
  generalize u 194 = u194
  generalize u 195 = u195
  generalize u 196 = u196
  generalize u 197 = u197
  generalize u 198 = u198
  generalize u 199 = u199
  generalize u 200 = u200
  generalize u 201 = u201
  generalize u 202 = u202
  generalize u 203 = u203
  generalize u 204 = u204
  generalize u 205 = u205
  generalize u 206 = u206
  generalize u 207 = u207
  generalize u 208 = u208
  generalize u 209 = u209
  generalize u 210 = u210
  generalize u 211 = u211
  generalize u 212 = u212
  generalize u 213 = u213
  generalize u 214 = u214
  generalize u 215 = u215
  generalize u 216 = u216
  generalize u 217 = u217
  generalize u 218 = u218
  generalize u 219 = u219
  generalize u 220 = u220
  generalize u 221 = u221
  generalize u 222 = u222
  generalize u 223 = u223
  generalize u 224 = u224
  generalize u 225 = u225
  generalize u 226 = u226
  generalize u 227 = u227
  generalize u 228 = u228
  generalize u 229 = u229
  generalize u 230 = u230
  generalize u 231 = u231
  generalize u 232 = u232
  generalize u 233 = u233
  generalize u 234 = u234
  generalize u 235 = u235
  generalize u 236 = u236
  generalize u 237 = u237
  generalize u 238 = u238
  generalize u 239 = u239
  generalize u 240 = u240
  generalize u 241 = u241
  generalize u 242 = u242
  generalize u 243 = u243
  generalize u 244 = u244
  generalize u 245 = u245
  generalize u 246 = u246
  generalize u 247 = u247
  generalize u 248 = u248
  generalize u 249 = u249
  generalize u 250 = u250
  generalize u 251 = u251
  generalize u 252 = u252
  generalize u 253 = u253
  generalize u 254 = u254
  generalize u 255 = u255
  generalize u 256 = u256
  generalize u 257 = u257
  generalize u 258 = u258
  generalize u 259 = u259
  generalize u 260 = u260
  generalize u 261 = u261
  generalize u 262 = u262
  generalize u 263 = u263
  generalize u 264 = u264
  generalize u 265 = u265
  generalize u 266 = u266
  generalize u 267 = u267
  generalize u 268 = u268
  generalize u 269 = u269
  generalize u 270 = u270
  generalize u 271 = u271
  generalize u 272 = u272
  generalize u 273 = u273
  generalize u 274 = u274
  generalize u 275 = u275
  generalize u 276 = u276
  generalize u 277 = u277
  generalize u 278 = u278
  generalize u 279 = u279
  generalize u 280 = u280
  generalize u 281 = u281
  generalize u 282 = u282
  generalize u 283 = u283
  generalize u 284 = u284
  generalize u 285 = u285
  generalize u 286 = u286
  generalize u 287 = u287
  generalize u 288 = u288
  generalize u 289 = u289
  generalize u 290 = u290
  generalize u 291 = u291
  generalize u 292 = u292
  generalize u 293 = u293
  generalize u 294 = u294
  generalize u 295 = u295
  generalize u 296 = u296
  generalize u 297 = u297
  generalize u 298 = u298
  generalize u 299 = u299
  clear u
  have HA := hide hA
  obtain ⟨c0, c1, c2, c3⟩ := hA.pa.cp
  have HX := hide hk
  have hk0 : (0 : Int) ≤ (k : Int) := by omega
  have hk1 : (k : Int) < 2 := by have := ix_lt x; omega
  obtain ⟨o, ho⟩ : ∃ o : Nat, ix (!x) = o := ⟨_, rfl⟩
  have HO := hide ho
  have hoo : (1 : Int) - (k : Int) = (o : Int) := by have h1 := ix_lt x; have h2 := ix_not x; omega
  have hwo : IntKind.i64.wrap (o : Int) = (o : Int) := by rw [IntKind.wrap_i64]; omega
  have ho0 : (0 : Int) ≤ (o : Int) := by omega
  have ho1 : (o : Int) < 2 := by have := ix_lt (!x); omega
  have cs := hA.pa.cw (!x)
  rw [ho] at cs
  have cl := hA.pa.cl x
  rw [← hk] at cl
  have hrow := hA.pa.way (!x)
  obtain ⟨i0, hi0, hz0, hz1, hz2⟩ := info_parts infoFR
  obtain ⟨so, sc, hsv⟩ := row_slice hrow
  obtain ⟨n, hn⟩ : ∃ n, (p.way (!x)).length = n := ⟨_, rfl⟩
  have HN := hide hn
  rw [hn] at hl
  rw [hsv, hn] at cs
  rw [hn] at hsv
  have SV := hide hsv
  have HS := hide (fun W (hW : PL W (G.b x) (G.v x) (p.l x)) => pout hW)
  have HKK := hide (enters_of Try.func12 (by kernel_rfl) rfl)
  have PD : Hid (PL wq.drew (G.b x) (G.v x) (p.l x)) := hA.pa.drew.link x
  have own : ∀ j, pown (G.b x) (G.v x) j → 1 ≤ r j := fun j hj => by
    rcases hj with rfl | hj
    · rw [HA.out.pa.rb x]; omega
    · rw [HA.out.pa.rv x j hj]; omega
  have OW := hide own
  obtain ⟨os, hos⟩ : ∃ os, (p.l x).outs = os := ⟨_, rfl⟩
  have HOS := hide hos
  rw [hos] at HS hm
  obtain ⟨m, hmm⟩ : ∃ m, os.length = m := ⟨_, rfl⟩
  have HM := hide hmm
  rw [hmm] at HS hm
  clear own hA hk ho hrow hsv hn hos hmm
  refine wp_region_last 24 rfl (by kernel_rfl) rfl rfl (by kernel_rfl) ?_
  intro ops' hops'
  simp only [idle, List.setIfInBounds_toArray, List.set_cons_succ, List.set_cons_zero] at hops'
  subst hops'
  refine wpAny_of_held (S := (fun w' => w'.cell? ⟨G.pb, 1, none⟩ = some (sl2 G.wb) ∧ w'.cell? ⟨G.wb, o, none⟩ = some (.slice so n sc) ∧ w'.cell? ⟨G.pb, 0, none⟩ = some (sl2 G.lb) ∧ w'.cell? ⟨G.lb, k, none⟩ = some (.pointer (some ⟨G.b x, 0, none⟩)))) _ _ _ _ ?_
  have hHeld : ((fun w' => w'.cell? ⟨G.pb, 1, none⟩ = some (sl2 G.wb) ∧ w'.cell? ⟨G.wb, o, none⟩ = some (.slice so n sc) ∧ w'.cell? ⟨G.pb, 0, none⟩ = some (sl2 G.lb) ∧ w'.cell? ⟨G.lb, k, none⟩ = some (.pointer (some ⟨G.b x, 0, none⟩)))) wq.drew := ⟨c1, cs, c0, cl⟩
  refine takeIn 0 (v := ?_) rfl (by kernel_rfl) (by kernel_rfl) (by kernel_rfl) (fun _ _ _ h => h) rfl ?_ hHeld ?_
  rotate_left
  · intro w hSw; (try dsimp only at hSw); first | (go_simp; done) | (go_simp; with_reducible rfl) | with_reducible rfl
  try simp only [hwo, hoo, Act.put, List.setIfInBounds_toArray, List.set_cons_zero, List.set_cons_succ]
  refine takeIn 1 (v := ?_) rfl (by kernel_rfl) (by kernel_rfl) (by kernel_rfl) (fun _ _ _ h => h) rfl ?_ hHeld ?_
  rotate_left
  · intro w hSw; (try dsimp only at hSw); first | (go_simp; done) | (go_simp; with_reducible rfl) | with_reducible rfl
  try simp only [hwo, hoo, Act.put, List.setIfInBounds_toArray, List.set_cons_zero, List.set_cons_succ]
  refine takeIn 2 (v := ?_) rfl (by kernel_rfl) (by kernel_rfl) (by kernel_rfl) (fun _ _ _ h => h) rfl ?_ hHeld ?_
  rotate_left
  · intro w hSw; (try dsimp only at hSw); first | (go_simp; done) | (go_simp; with_reducible rfl) | with_reducible rfl
  try simp only [hwo, hoo, Act.put, List.setIfInBounds_toArray, List.set_cons_zero, List.set_cons_succ]
  refine takeIn 3 (v := ?_) rfl (by kernel_rfl) (by kernel_rfl) (by kernel_rfl) (fun _ _ _ h => h) rfl ?_ hHeld ?_
  rotate_left
  · intro w hSw; (try dsimp only at hSw); first | (go_simp; done) | (go_simp; with_reducible rfl) | with_reducible rfl
  try simp only [hwo, hoo, Act.put, List.setIfInBounds_toArray, List.set_cons_zero, List.set_cons_succ]
  refine takeIn 4 (v := ?_) rfl (by kernel_rfl) (by kernel_rfl) (by kernel_rfl) (fun _ _ _ h => h) rfl ?_ hHeld ?_
  rotate_left
  · intro w hSw; (try dsimp only at hSw); first | (go_simp; done) | (go_simp; with_reducible rfl) | with_reducible rfl
  try simp only [hwo, hoo, Act.put, List.setIfInBounds_toArray, List.set_cons_zero, List.set_cons_succ]
  refine takeIn 5 (v := ?_) rfl (by kernel_rfl) (by kernel_rfl) (by kernel_rfl) (fun _ _ _ h => h) rfl ?_ hHeld ?_
  rotate_left
  · intro w hSw; (try dsimp only at hSw); first | (go_simp; done) | (go_simp; with_reducible rfl) | with_reducible rfl
  try simp only [hwo, hoo, Act.put, List.setIfInBounds_toArray, List.set_cons_zero, List.set_cons_succ]
  refine takeIn 6 (v := ?_) rfl (by kernel_rfl) (by kernel_rfl) (by kernel_rfl) (fun _ _ _ h => h) rfl ?_ hHeld ?_
  rotate_left
  · intro w hSw; (try dsimp only at hSw); first | (go_simp; done) | (go_simp; with_reducible rfl) | with_reducible rfl
  try simp only [hwo, hoo, Act.put, List.setIfInBounds_toArray, List.set_cons_zero, List.set_cons_succ]
  refine takeIn 7 (v := ?_) rfl (by kernel_rfl) (by kernel_rfl) (by kernel_rfl) (fun _ _ _ h => h) rfl ?_ hHeld ?_
  rotate_left
  · intro w hSw; (try dsimp only at hSw); first | (go_simp; done) | (go_simp; with_reducible rfl) | with_reducible rfl
  try simp only [hwo, hoo, Act.put, List.setIfInBounds_toArray, List.set_cons_zero, List.set_cons_succ]
  refine takeIn 8 (v := ?_) rfl (by kernel_rfl) (by kernel_rfl) (by kernel_rfl) (fun _ _ _ h => h) rfl ?_ hHeld ?_
  rotate_left
  · intro w hSw; (try dsimp only at hSw); first | (go_simp; done) | (go_simp; with_reducible rfl) | with_reducible rfl
  try simp only [hwo, hoo, Act.put, List.setIfInBounds_toArray, List.set_cons_zero, List.set_cons_succ]
  refine takeIn 9 (v := ?_) rfl (by kernel_rfl) (by kernel_rfl) (by kernel_rfl) (fun _ _ _ h => h) rfl ?_ hHeld ?_
  rotate_left
  · intro w hSw; (try dsimp only at hSw); first | (go_simp; done) | (go_simp; with_reducible rfl) | with_reducible rfl
  try simp only [hwo, hoo, Act.put, List.setIfInBounds_toArray, List.set_cons_zero, List.set_cons_succ]
  refine takeIn 10 (v := ?_) rfl (by kernel_rfl) (by kernel_rfl) (by kernel_rfl) (fun _ _ _ h => h) rfl ?_ hHeld ?_
  rotate_left
  · intro w hSw; (try dsimp only at hSw); first | (go_simp; done) | (go_simp; with_reducible rfl) | with_reducible rfl
  try simp only [hwo, hoo, Act.put, List.setIfInBounds_toArray, List.set_cons_zero, List.set_cons_succ]
  refine takeIn 11 (v := ?_) rfl (by kernel_rfl) (by kernel_rfl) (by kernel_rfl) (fun _ _ _ h => h) rfl ?_ hHeld ?_
  rotate_left
  · intro w hSw; (try dsimp only at hSw); first | (go_simp; done) | (go_simp; with_reducible rfl) | with_reducible rfl
  try simp only [hwo, hoo, Act.put, List.setIfInBounds_toArray, List.set_cons_zero, List.set_cons_succ]
  refine takeIn 12 (v := ?_) rfl (by kernel_rfl) (by kernel_rfl) (by kernel_rfl) (fun _ _ _ h => h) rfl ?_ hHeld ?_
  rotate_left
  · intro w hSw; (try dsimp only at hSw); first | (go_simp; done) | (go_simp; with_reducible rfl) | with_reducible rfl
  try simp only [hwo, hoo, Act.put, List.setIfInBounds_toArray, List.set_cons_zero, List.set_cons_succ]
  refine takeIn 13 (v := ?_) rfl (by kernel_rfl) (by kernel_rfl) (by kernel_rfl) (fun _ _ _ h => h) rfl ?_ hHeld ?_
  rotate_left
  · intro w hSw; (try dsimp only at hSw); first | (go_simp; done) | (go_simp; with_reducible rfl) | with_reducible rfl
  try simp only [hwo, hoo, Act.put, List.setIfInBounds_toArray, List.set_cons_zero, List.set_cons_succ]
  refine takeIn 14 (v := ?_) rfl (by kernel_rfl) (by kernel_rfl) (by kernel_rfl) (fun _ _ _ h => h) rfl ?_ hHeld ?_
  rotate_left
  · intro w hSw; (try dsimp only at hSw); first | (go_simp; done) | (go_simp; with_reducible rfl) | with_reducible rfl
  try simp only [hwo, hoo, Act.put, List.setIfInBounds_toArray, List.set_cons_zero, List.set_cons_succ]
  refine takeIn 15 (v := ?_) rfl (by kernel_rfl) (by kernel_rfl) (by kernel_rfl) (fun _ _ _ h => h) rfl ?_ hHeld ?_
  rotate_left
  · intro w hSw; (try dsimp only at hSw); first | (go_simp; done) | (go_simp; with_reducible rfl) | with_reducible rfl
  try simp only [hwo, hoo, Act.put, List.setIfInBounds_toArray, List.set_cons_zero, List.set_cons_succ]
  refine takeIn 16 (v := ?_) rfl (by kernel_rfl) (by kernel_rfl) (by kernel_rfl) (fun _ _ _ h => h) rfl ?_ hHeld ?_
  rotate_left
  · intro w hSw; (try dsimp only at hSw); first | (go_simp; done) | (go_simp; with_reducible rfl) | with_reducible rfl
  try simp only [hwo, hoo, Act.put, List.setIfInBounds_toArray, List.set_cons_zero, List.set_cons_succ]
  refine takeIn 17 (v := ?_) rfl (by kernel_rfl) (by kernel_rfl) (by kernel_rfl) (fun _ _ _ h => h) rfl ?_ hHeld ?_
  rotate_left
  · intro w hSw; (try dsimp only at hSw); first | (go_simp; done) | (go_simp; with_reducible rfl) | with_reducible rfl
  try simp only [hwo, hoo, Act.put, List.setIfInBounds_toArray, List.set_cons_zero, List.set_cons_succ]
  refine takeIn 18 (v := ?_) rfl (by kernel_rfl) (by kernel_rfl) (by kernel_rfl) (fun _ _ _ h => h) rfl ?_ hHeld ?_
  rotate_left
  · intro w hSw; (try dsimp only at hSw); first | (go_simp; done) | (go_simp; with_reducible rfl) | with_reducible rfl
  try simp only [hwo, hoo, Act.put, List.setIfInBounds_toArray, List.set_cons_zero, List.set_cons_succ]
  refine takeIn 19 (v := ?_) rfl (by kernel_rfl) (by kernel_rfl) (by kernel_rfl) (fun _ _ _ h => h) rfl ?_ hHeld ?_
  rotate_left
  · intro w hSw; (try dsimp only at hSw); first | (go_simp; done) | (go_simp; with_reducible rfl) | with_reducible rfl
  try simp only [hwo, hoo, Act.put, List.setIfInBounds_toArray, List.set_cons_zero, List.set_cons_succ]
  refine takeIn 20 (v := ?_) rfl (by kernel_rfl) (by kernel_rfl) (by kernel_rfl) (fun _ _ _ h => h) rfl ?_ hHeld ?_
  rotate_left
  · intro w hSw; (try dsimp only at hSw); first | (go_simp; done) | (go_simp; with_reducible rfl) | with_reducible rfl
  try simp only [hwo, hoo, Act.put, List.setIfInBounds_toArray, List.set_cons_zero, List.set_cons_succ]
  refine stepIn 21 rfl (by kernel_rfl) (fun K hK => ?_)
  refine step_fn_d (by rfl) 219 (by rfl) 12 _ _ (by rfl) HKK.out [.pointer (some ⟨G.b x, 0, none⟩)] rfl (HS.out _ PD.out) ?_
  rintro e w1 ⟨gg, oc, rfl, gv⟩
  refine ⟨_, rfl, ?_⟩
  have P1 := hide (HA.out.drew.pair (HA.out.drew.pa.call x gv.link ⟨gv.touch, fun _ e => .inl e⟩) gv.touch (fun j e _ => OW.out j e) (fun j e => upd_old e))
  have B1 := hide (below_of_drew (HA.out.drew.pa.toBelow gv.touch fun j e _ => OW.out j e))
  have R1 := hide gv.row
  have T1 := hide gv.touch
  clear gv
  refine hK.out _ _ ⟨P1.out.pa.cp.2.1, by rw [← HO.out, ← SV.out]; exact P1.out.pa.cw (!x), P1.out.pa.cp.1, by rw [HX.out]; exact P1.out.pa.cl x⟩ (fun hHeldx => ?_)
  clear hK K hHeld
  have hHeld := hHeldx
  clear hHeldx
  try simp only [hwo, hoo, Act.put, List.setIfInBounds_toArray, List.set_cons_zero, List.set_cons_succ]
  refine stepIn 22 rfl (by kernel_rfl) (fun K hK => ?_)
  refine step_append_at rfl _ _ 38 rfl B.n 31 i0 _ 5 48 Try.underlying38 hi0 hz0 hz1 hz2 rfl (by omega) (.slice so n sc) n (frCells (p.way (!x))) rfl (by have := P1.out.pa.way (!x); rw [← SV.out, ← HN.out]; exact this) ⟨gg, 0, none⟩ m oc (frCells os) rfl (frCells_length _ |>.trans (by rw [HM.out])) (by intro j u hu; have := R1.out.cells rfl j u hu; exact this) (frCells_ones _) (by unfold maxLen; omega) (by omega) P1.out.pa.size ?_
  intro a4 c4 w4 hown4 hgrow4 hloc4
  have NB : ∀ j, (Value.slice so n sc).ownBlock = some j → r j = 10 + ix (!x) := fun j e => HA.out.pa.rwv (!x) j (by rw [SV.out]; exact e)
  have F4 : Hid (w4.heap[G.wb]? = some (.cells (two G.wv) 38 (0, 0))) := grown_at hgrow4 P1.out.pa.wbox (fun e => by have h1 := NB _ e; rw [HA.out.pa.rw] at h1; omega)
  have F5 : Hid (w4.heap[G.pb]? = some (.cells #[sl2 G.lb, sl2 G.wb, sl2 G.sb, sl2 G.tb] 57 (0, 0))) := grown_at hgrow4 P1.out.pa.box (fun e => by have h1 := NB _ e; rw [HA.out.pa.rp] at h1; omega)
  have F6 : Hid (w4.heap[G.lb]? = some (.cells (two fun x => .pointer (some ⟨G.b x, 0, none⟩)) 24 (0, 0))) := grown_at hgrow4 P1.out.pa.lbox (fun e => by have h1 := NB _ e; rw [HA.out.pa.rl] at h1; omega)
  have q5 : w4.cell? ⟨G.wb, o, none⟩ = some (.slice so n sc) := by rw [← HO.out, ← SV.out]; exact box_cell F4.out (ix (!x)) (two_at G.wv (!x))
  have qf := box_free F4.out o
  refine hK.out _ _ ⟨box_cell F5.out 1 rfl, q5, box_cell F5.out 0 rfl, by rw [HX.out]; exact box_cell F6.out (ix x) (two_at (fun x => .pointer (some ⟨G.b x, 0, none⟩)) x)⟩ (fun hHeldx => ?_)
  clear hK K hHeld
  have hHeld := hHeldx
  clear hHeldx
  try simp only [hwo, hoo, Act.put, List.setIfInBounds_toArray, List.set_cons_zero, List.set_cons_succ]
  refine takeIn 23 (v := ?_) rfl (by kernel_rfl) (by kernel_rfl) (by kernel_rfl) (fun _ _ _ h => h) rfl ?_ hHeld ?_
  rotate_left
  · intro w hSw; (try dsimp only at hSw); first | (go_simp; done) | (go_simp; with_reducible rfl) | with_reducible rfl
  try simp only [hwo, hoo, Act.put, List.setIfInBounds_toArray, List.set_cons_zero, List.set_cons_succ]
  refine takeIn 24 (v := ?_) rfl (by kernel_rfl) (by kernel_rfl) (by kernel_rfl) (fun _ _ _ h => h) rfl ?_ hHeld ?_
  rotate_left
  · intro w hSw; (try dsimp only at hSw); first | (go_simp; done) | (go_simp; with_reducible rfl) | with_reducible rfl
  try simp only [hwo, hoo, Act.put, List.setIfInBounds_toArray, List.set_cons_zero, List.set_cons_succ]
  refine wpAnyH_done (by kernel_rfl) ?_ _
  intro K hK
  go_simp
  refine hK _ _ ?_
  clear hK K hHeld
  have R4 : Hid (w4.ownsRow B.n 31 5 (.slice a4 (n + m) c4) (n + m) (frCells (p.way (!x)) ++ frCells os)) := hown4
  have T4 : Touch (fun j => (upd r wq.heap.size (G.v x).ownBlock (8 + ix x)) j = 3 ∨ (upd r wq.heap.size (G.v x).ownBlock (8 + ix x)) j = 10 + ix (!x)) w1 w4 := (Touch.refl _ w1).grown hgrow4 fun j e hj => by
    have h1 := NB j e
    have h2 : j < wq.heap.size := row_lt (HA.out.pa.way (!x)) (by rw [SV.out]; exact e)
    rw [upd_old h2]
    exact .inr h1
  have B5 := box_set F4.out o (.slice a4 (n + m) c4)
  have hb1 : G.wb < wq.heap.size := heap_lt HA.out.pa.wbox
  have T5 := T4.setCell ⟨G.wb, o, none⟩ (.slice a4 (n + m) c4) fun _ => .inl (by show upd r wq.heap.size (G.v x).ownBlock (8 + ix x) G.wb = 3; rw [upd_old hb1]; exact HA.out.pa.rw)
  have PP := P1.out.pa.ways (w' := w4.setCell ⟨G.wb, o, none⟩ (.slice a4 (n + m) c4)) (!x) (v' := .slice a4 (n + m) c4) (L := p.way (!x) ++ os) T5 (by show _ = some (Obj.cells (two (set G.wv (!x) _)) _ _); rw [B5, ← HO.out, two_set]) ?_ ?_
  · have hos := HOS.out
    subst hos
    have PQ := P1.out.pair PP T5 (fun j e _ => pos_of e) (fun j e => upd_old e)
    rw [set_self] at PQ
    exact HQ.out _ _ (.slice a4 (n + m) c4) _ ⟨rfl, rfl, rfl, rfl, rfl, rfl, rfl, rfl, rfl, rfl, rfl, rfl, rfl, rfl, rfl, rfl, rfl, rfl, rfl, rfl, rfl, rfl, rfl, rfl⟩ PQ (B1.out.trans (P1.out.pa.toBelow T5 fun j e _ => pos_of e))
  · rw [List.length_append, HN.out, HM.out, frCells_append]
    refine set_row R4.out G.wb _ _ (fun e => ?_)
    rcases hloc4 with h | h
    · have h1 := NB G.wb (h ▸ e)
      rw [HA.out.pa.rw] at h1
      omega
    · rw [h] at e
      have h1 : G.wb < w1.heap.size := heap_lt P1.out.pa.wbox
      have h2 := Option.some.inj e
      omega
  · intro j e
    rcases hloc4 with h | h
    · exact .inl (by show (G.wv (!x)).ownBlock = some j; rw [SV.out]; exact h ▸ e)
    · rw [h] at e
      exact .inr (by have := Option.some.inj e; omega)
end Go.Proofs.Ythgfijmpofbchaa
/-
  LinkAnew: regions of it as they run (mkanew.py).
-/
namespace Go.Proofs.Ythgfijmpofbchaa
open Go.RowKit

attribute [local go_sem ↓] Go.wp_at_zero Go.wp_at_succ
set_option linter.unusedSimpArgs false
set_option linter.unusedVariables false
set_option maxHeartbeats 8000000 in
set_option maxRecDepth 100000 in
theorem anew_r41 {K : Act → World → Prop} {c : Code} (hc : regOf (Try.f4.body.getD .skip) 41 = some c) (a : Act) {v : AV} {wq : World} {B : BE} {G : PG} {r q : Nat → Nat} {p : PR} {rv : Nat → Value} {rl : Nat → List ByteArray} {d : Nat} {t : TN} (hF : AF a v) (h6v : v.v6 = .pointer (some ⟨G.pb, 0, none⟩)) (h17v : v.v17 = .pointer (some ⟨d, 0, none⟩)) (hA : AM B wq G r q p rv rl) (hD : BX wq r q d (.cells t.c 52 (0, 0))) (hl : (p.sent false).length ≤ 100000)
    (hQ : ∀ a' w' v', AF a' v → AM B w' { G with sv := set G.sv false v' } (upd r wq.heap.size v'.ownBlock (12 + ix false)) q { p with sent := set p.sent false (p.sent false ++ [t.s]) } rv rl → Below B.n wq w' → K a' w') :
    Code.wp Try.prog c (Exit.then K fun _ _ _ => False) a wq := by
  have HQ := hide hQ
  clear hQ
  obtain ⟨t', d'⟩ := a
  obtain ⟨v0, v1, v5, v6, v7, v8, v9, v11, v12, v13, v14, v15, v16, v17, v18, v19, v20, v21, v22, v23, v24, v85⟩ := v
  simp only at h6v h17v HQ
  subst h6v h17v
  obtain ⟨hs1, hd1, q0, q1, q5, q6, q7, q8, q9, q11, q12, q13, q14, q15, q16, q17, q18, q19, q20, q21, q22, q23, q24, q85⟩ := hF
  obtain ⟨u, hu⟩ := frame300 t' hs1
  simp only at hd1 q0 q1 q5 q6 q7 q8 q9 q11 q12 q13 q14 q15 q16 q17 q18 q19 q20 q21 q22 q23 q24 q85
  subst hu hd1
  have e0 : u 0 = v0 := q0
  have e1 : u 1 = v1 := q1
  have e5 : u 5 = v5 := q5
  have e6 : u 6 = .pointer (some ⟨G.pb, 0, none⟩) := q6
  have e7 : u 7 = v7 := q7
  have e8 : u 8 = v8 := q8
  have e9 : u 9 = v9 := q9
  have e11 : u 11 = v11 := q11
  have e12 : u 12 = v12 := q12
  have e13 : u 13 = v13 := q13
  have e14 : u 14 = v14 := q14
  have e15 : u 15 = v15 := q15
  have e16 : u 16 = v16 := q16
  have e17 : u 17 = .pointer (some ⟨d, 0, none⟩) := q17
  have e18 : u 18 = v18 := q18
  have e19 : u 19 = v19 := q19
  have e20 : u 20 = v20 := q20
  have e21 : u 21 = v21 := q21
  have e22 : u 22 = v22 := q22
  have e23 : u 23 = v23 := q23
  have e24 : u 24 = v24 := q24
  have e85 : u 85 = v85 := q85
  rw [e0, e1, e5, e6, e7, e8, e9, e11, e12, e13, e14, e15, e16, e17, e18, e19, e20, e21, e22, e23, e24, e85]
  clear q0 e0 q1 e1 q5 e5 q6 e6 q7 e7 q8 e8 q9 e9 q11 e11 q12 e12 q13 e13 q14 e14 q15 e15 q16 e16 q17 e17 q18 e18 q19 e19 q20 e20 q21 e21 q22 e22 q23 e23 q24 e24 q85 e85 hs1
  simp only [Try.f4, Option.getD_some, regOf] at hc
  injection hc with hc
  subst hc
  generalize u 2 = u2
  generalize u 3 = u3
  generalize u 4 = u4
  generalize u 10 = u10
  generalize u 25 = u25
  generalize u 26 = u26
  generalize u 27 = u27
  generalize u 28 = u28
  generalize u 29 = u29
  generalize u 30 = u30
  generalize u 31 = u31
  generalize u 32 = u32
  generalize u 33 = u33
  generalize u 34 = u34
  generalize u 35 = u35
  generalize u 36 = u36
  generalize u 37 = u37
  generalize u 38 = u38
  generalize u 39 = u39
  generalize u 40 = u40
  generalize u 41 = u41
  generalize u 42 = u42
  generalize u 43 = u43
  generalize u 44 = u44
  generalize u 45 = u45
  generalize u 46 = u46
  generalize u 47 = u47
  generalize u 48 = u48
  generalize u 49 = u49
  generalize u 50 = u50
  generalize u 51 = u51
  generalize u 52 = u52
  generalize u 53 = u53
  generalize u 54 = u54
  generalize u 55 = u55
  generalize u 56 = u56
  generalize u 57 = u57
  generalize u 58 = u58
  generalize u 59 = u59
  generalize u 60 = u60
  generalize u 61 = u61
  generalize u 62 = u62
  generalize u 63 = u63
  generalize u 64 = u64
  generalize u 65 = u65
  generalize u 66 = u66
  generalize u 67 = u67
  generalize u 68 = u68
  generalize u 69 = u69
  generalize u 70 = u70
  generalize u 71 = u71
  generalize u 72 = u72
  generalize u 73 = u73
  generalize u 74 = u74
  generalize u 75 = u75
  generalize u 76 = u76
  generalize u 77 = u77
  generalize u 78 = u78
  generalize u 79 = u79
  generalize u 80 = u80
  generalize u 81 = u81
  generalize u 82 = u82
  generalize u 83 = u83
  generalize u 84 = u84
  generalize u 86 = u86
  generalize u 87 = u87
  generalize u 88 = u88
  generalize u 89 = u89
  generalize u 90 = u90
  generalize u 91 = u91
  generalize u 92 = u92
  generalize u 93 = u93
  generalize u 94 = u94
  generalize u 95 = u95
  generalize u 96 = u96
  generalize u 97 = u97
  generalize u 98 = u98
  generalize u 99 = u99
  generalize u 100 = u100
  generalize u 101 = u101
  generalize u 102 = u102
  generalize u 103 = u103
  generalize u 104 = u104
  generalize u 105 = u105
  generalize u 106 = u106
  generalize u 107 = u107
  generalize u 108 = u108
  generalize u 109 = u109
  generalize u 110 = u110
  generalize u 111 = u111
  generalize u 112 = u112
  generalize u 113 = u113
  generalize u 114 = u114
  generalize u 115 = u115
  generalize u 116 = u116
  generalize u 117 = u117
  generalize u 118 = u118
  generalize u 119 = u119
  generalize u 120 = u120
  generalize u 121 = u121
  generalize u 122 = u122
  generalize u 123 = u123
  generalize u 124 = u124
  generalize u 125 = u125
  generalize u 126 = u126
  generalize u 127 = u127
  generalize u 128 = u128
  generalize u 129 = u129
  generalize u 130 = u130
  generalize u 131 = u131
  generalize u 132 = u132
  generalize u 133 = u133
  generalize u 134 = u134
  generalize u 135 = u135
  generalize u 136 = u136
  generalize u 137 = u137
  generalize u 138 = u138
  generalize u 139 = u139
  generalize u 140 = u140
  generalize u 141 = u141
  generalize u 142 = u142
  generalize u 143 = u143
  generalize u 144 = u144
  generalize u 145 = u145
  generalize u 146 = u146
  generalize u 147 = u147
  generalize u 148 = u148
  generalize u 149 = u149
  generalize u 150 = u150
  generalize u 151 = u151
  generalize u 152 = u152
  generalize u 153 = u153
  generalize u 154 = u154
  generalize u 155 = u155
  generalize u 156 = u156
  generalize u 157 = u157
  generalize u 158 = u158
  generalize u 159 = u159
  generalize u 160 = u160
  generalize u 161 = u161
  generalize u 162 = u162
  generalize u 163 = u163
  generalize u 164 = u164
  generalize u 165 = u165
  generalize u 166 = u166
  generalize u 167 = u167
  generalize u 168 = u168
  generalize u 169 = u169
  generalize u 170 = u170
  generalize u 171 = u171
  generalize u 172 = u172
  generalize u 173 = u173
  generalize u 174 = u174
  generalize u 175 = u175
  generalize u 176 = u176
  generalize u 177 = u177
  generalize u 178 = u178
  generalize u 179 = u179
  generalize u 180 = u180
  generalize u 181 = u181
  generalize u 182 = u182
  generalize u 183 = u183
  generalize u 184 = u184
  generalize u 185 = u185
  generalize u 186 = u186
  generalize u 187 = u187
  generalize u 188 = u188
  generalize u 189 = u189
  generalize u 190 = u190
  generalize u 191 = u191
  generalize u 192 = u192
  generalize u 193 = u193
  generalize u 194 = u194
  generalize u 195 = u195
  generalize u 196 = u196
  generalize u 197 = u197
  generalize u 198 = u198
  generalize u 199 = u199
  generalize u 200 = u200
  generalize u 201 = u201
  generalize u 202 = u202
  generalize u 203 = u203
  generalize u 204 = u204
  generalize u 205 = u205
  generalize u 206 = u206
  generalize u 207 = u207
  generalize u 208 = u208
  generalize u 209 = u209
  generalize u 210 = u210
  generalize u 211 = u211
  generalize u 212 = u212
  generalize u 213 = u213
  generalize u 214 = u214
  generalize u 215 = u215
  generalize u 216 = u216
  generalize u 217 = u217
  generalize u 218 = u218
  generalize u 219 = u219
  generalize u 220 = u220
  generalize u 221 = u221
  generalize u 222 = u222
  generalize u 223 = u223
  generalize u 224 = u224
  generalize u 225 = u225
  generalize u 226 = u226
  generalize u 227 = u227
  generalize u 228 = u228
  generalize u 229 = u229
  generalize u 230 = u230
  generalize u 231 = u231
  generalize u 232 = u232
  generalize u 233 = u233
  generalize u 234 = u234
  generalize u 235 = u235
  generalize u 236 = u236
  generalize u 237 = u237
  generalize u 238 = u238
  generalize u 239 = u239
  generalize u 240 = u240
  generalize u 241 = u241
  generalize u 242 = u242
  generalize u 243 = u243
  generalize u 244 = u244
  generalize u 245 = u245
  generalize u 246 = u246
  generalize u 247 = u247
  generalize u 248 = u248
  generalize u 249 = u249
  generalize u 250 = u250
  generalize u 251 = u251
  generalize u 252 = u252
  generalize u 253 = u253
  generalize u 254 = u254
  generalize u 255 = u255
  generalize u 256 = u256
  generalize u 257 = u257
  generalize u 258 = u258
  generalize u 259 = u259
  generalize u 260 = u260
  generalize u 261 = u261
  generalize u 262 = u262
  generalize u 263 = u263
  generalize u 264 = u264
  generalize u 265 = u265
  generalize u 266 = u266
  generalize u 267 = u267
  generalize u 268 = u268
  generalize u 269 = u269
  generalize u 270 = u270
  generalize u 271 = u271
  generalize u 272 = u272
  generalize u 273 = u273
  generalize u 274 = u274
  generalize u 275 = u275
  generalize u 276 = u276
  generalize u 277 = u277
  generalize u 278 = u278
  generalize u 279 = u279
  generalize u 280 = u280
  generalize u 281 = u281
  generalize u 282 = u282
  generalize u 283 = u283
  generalize u 284 = u284
  generalize u 285 = u285
  generalize u 286 = u286
  generalize u 287 = u287
  generalize u 288 = u288
  generalize u 289 = u289
  generalize u 290 = u290
  generalize u 291 = u291
  generalize u 292 = u292
  generalize u 293 = u293
  generalize u 294 = u294
  generalize u 295 = u295
  generalize u 296 = u296
  generalize u 297 = u297
  generalize u 298 = u298
  generalize u 299 = u299
  clear u
  have HA := hide hA
  obtain ⟨c0, c1, c2, c3⟩ := hA.pa.cp
  have HD := hide hD
  have cs : wq.cell? ⟨G.sb, 0, none⟩ = some (G.sv false) := hA.pa.cs false
  have cd := box_cell hD.at_ 3 rfl
  have hrow := hA.pa.sent false
  obtain ⟨i0, hi0, hz0, hz1, hz2⟩ := info_parts infoStr
  obtain ⟨so, sc, hsv⟩ := row_slice hrow
  obtain ⟨n, hn⟩ : ∃ n, (p.sent false).length = n := ⟨_, rfl⟩
  have HN := hide hn
  rw [hn] at hl
  rw [hsv, hn] at cs
  rw [hsv, hn] at hrow
  rw [hn] at hsv
  have RO := hide hrow
  have SV := hide hsv
  have CS : Hid (∀ W, PA B W G r p → W.cell? ⟨G.sb, 0, none⟩ = some (.slice so n sc)) := fun W hW => by rw [← SV.out]; exact hW.cs false
  clear hA hD hrow hsv hn
  obtain ⟨tk, tw, ti, ts⟩ := t
  simp only [TN.c] at *
  refine wp_region_last 15 rfl (by kernel_rfl) rfl rfl (by kernel_rfl) ?_
  intro ops' hops'
  simp only [idle, List.setIfInBounds_toArray, List.set_cons_succ, List.set_cons_zero] at hops'
  subst hops'
  refine wpAny_of_held (S := (fun w' => w'.cell? ⟨G.pb, 2, none⟩ = some (sl2 G.sb) ∧ w'.cell? ⟨G.sb, 0, none⟩ = some (.slice so n sc) ∧ w'.cell? ⟨d, 3, none⟩ = some (.string ts))) _ _ _ _ ?_
  have hHeld : ((fun w' => w'.cell? ⟨G.pb, 2, none⟩ = some (sl2 G.sb) ∧ w'.cell? ⟨G.sb, 0, none⟩ = some (.slice so n sc) ∧ w'.cell? ⟨d, 3, none⟩ = some (.string ts))) wq.drew := ⟨c2, cs, cd⟩
  refine takeIn 0 (v := ?_) rfl (by kernel_rfl) (by kernel_rfl) (by kernel_rfl) (fun _ _ _ h => h) rfl ?_ hHeld ?_
  rotate_left
  · intro w hSw; (try dsimp only at hSw); first | (go_simp; done) | (go_simp; with_reducible rfl) | with_reducible rfl
  try simp only [Act.put, List.setIfInBounds_toArray, List.set_cons_zero, List.set_cons_succ]
  refine takeIn 1 (v := ?_) rfl (by kernel_rfl) (by kernel_rfl) (by kernel_rfl) (fun _ _ _ h => h) rfl ?_ hHeld ?_
  rotate_left
  · intro w hSw; (try dsimp only at hSw); first | (go_simp; done) | (go_simp; with_reducible rfl) | with_reducible rfl
  try simp only [Act.put, List.setIfInBounds_toArray, List.set_cons_zero, List.set_cons_succ]
  refine takeIn 2 (v := ?_) rfl (by kernel_rfl) (by kernel_rfl) (by kernel_rfl) (fun _ _ _ h => h) rfl ?_ hHeld ?_
  rotate_left
  · intro w hSw; (try dsimp only at hSw); first | (go_simp; done) | (go_simp; with_reducible rfl) | with_reducible rfl
  try simp only [Act.put, List.setIfInBounds_toArray, List.set_cons_zero, List.set_cons_succ]
  refine takeIn 3 (v := ?_) rfl (by kernel_rfl) (by kernel_rfl) (by kernel_rfl) (fun _ _ _ h => h) rfl ?_ hHeld ?_
  rotate_left
  · intro w hSw; (try dsimp only at hSw); first | (go_simp; done) | (go_simp; with_reducible rfl) | with_reducible rfl
  try simp only [Act.put, List.setIfInBounds_toArray, List.set_cons_zero, List.set_cons_succ]
  refine takeIn 4 (v := ?_) rfl (by kernel_rfl) (by kernel_rfl) (by kernel_rfl) (fun _ _ _ h => h) rfl ?_ hHeld ?_
  rotate_left
  · intro w hSw; (try dsimp only at hSw); first | (go_simp; done) | (go_simp; with_reducible rfl) | with_reducible rfl
  try simp only [Act.put, List.setIfInBounds_toArray, List.set_cons_zero, List.set_cons_succ]
  refine takeIn 5 (v := ?_) rfl (by kernel_rfl) (by kernel_rfl) (by kernel_rfl) (fun _ _ _ h => h) rfl ?_ hHeld ?_
  rotate_left
  · intro w hSw; (try dsimp only at hSw); first | (go_simp; done) | (go_simp; with_reducible rfl) | with_reducible rfl
  try simp only [Act.put, List.setIfInBounds_toArray, List.set_cons_zero, List.set_cons_succ]
  refine takeIn 6 (v := ?_) rfl (by kernel_rfl) (by kernel_rfl) (by kernel_rfl) (fun _ _ _ h => h) rfl ?_ hHeld ?_
  rotate_left
  · intro w hSw; (try dsimp only at hSw); first | (go_simp; done) | (go_simp; with_reducible rfl) | with_reducible rfl
  try simp only [Act.put, List.setIfInBounds_toArray, List.set_cons_zero, List.set_cons_succ]
  refine takeIn 7 (v := ?_) rfl (by kernel_rfl) (by kernel_rfl) (by kernel_rfl) (fun _ _ _ h => h) rfl ?_ hHeld ?_
  rotate_left
  · intro w hSw; (try dsimp only at hSw); first | (go_simp; done) | (go_simp; with_reducible rfl) | with_reducible rfl
  try simp only [Act.put, List.setIfInBounds_toArray, List.set_cons_zero, List.set_cons_succ]
  refine takeIn 8 (v := ?_) rfl (by kernel_rfl) (by kernel_rfl) (by kernel_rfl) (fun _ _ _ h => h) rfl ?_ hHeld ?_
  rotate_left
  · intro w hSw; (try dsimp only at hSw); first | (go_simp; done) | (go_simp; with_reducible rfl) | with_reducible rfl
  try simp only [Act.put, List.setIfInBounds_toArray, List.set_cons_zero, List.set_cons_succ]
  refine takeIn 9 (v := ?_) rfl (by kernel_rfl) (by kernel_rfl) (by kernel_rfl) (fun _ _ _ h => h) rfl ?_ hHeld ?_
  rotate_left
  · intro w hSw; (try dsimp only at hSw); first | (go_simp; done) | (go_simp; with_reducible rfl) | with_reducible rfl
  try simp only [Act.put, List.setIfInBounds_toArray, List.set_cons_zero, List.set_cons_succ]
  refine takeIn 10 (v := ?_) rfl (by kernel_rfl) (by kernel_rfl) (by kernel_rfl) (fun _ _ _ h => h) rfl ?_ hHeld ?_
  rotate_left
  · intro w hSw; (try dsimp only at hSw); first | (go_simp; done) | (go_simp; with_reducible rfl) | with_reducible rfl
  try simp only [Act.put, List.setIfInBounds_toArray, List.set_cons_zero, List.set_cons_succ]
  refine takeIn 11 (v := ?_) rfl (by kernel_rfl) (by kernel_rfl) (by kernel_rfl) (fun _ _ _ h => h) rfl ?_ hHeld ?_
  rotate_left
  · intro w hSw; (try dsimp only at hSw); first | (go_simp; done) | (go_simp; with_reducible rfl) | with_reducible rfl
  try simp only [Act.put, List.setIfInBounds_toArray, List.set_cons_zero, List.set_cons_succ]
  refine stepIn 12 rfl (by kernel_rfl) (fun K hK => ?_)
  go_simp
  refine hK.out _ _ ⟨(HA.out.drew.pa.alloc _).cp.2.2.1, CS.out _ ((HA.out.drew.pa.alloc _)), box_cell (box_alloc HD.out.at_ _) 3 rfl⟩ (fun hHeldx => ?_)
  clear hK K hHeld
  have hHeld := hHeldx
  clear hHeldx
  try simp only [Act.put, List.setIfInBounds_toArray, List.set_cons_zero, List.set_cons_succ]
  refine stepIn 13 rfl (by kernel_rfl) (fun K hK => ?_)
  refine step_append_lies _ (by rfl) _ _ _ (by rfl) B.n 9 i0 _ 1 16 Try.underlying40 hi0 hz0 hz1 hz2 rfl (by omega) (.slice so n sc) n ((p.sent false).map .string) (by rfl) (RO.out.drew.alloc _) ⟨wq.heap.size, 0, none⟩ 1 1 [.string ts] (by rfl) (by rfl) (World.news_of_block (cs := #[.string ts]) (t := 9) (fr := (0, 0)) (heap_alloc_new wq.drew _)) (by simp [Value.oneCell']) (by omega) (by unfold maxLen; omega) (by omega) (by have := HA.out.pa.size; simp; omega) (wq.heap.size + 1) (by simp) ?_
  intro g4 cap4 w4 hown4 hgrow4 hat4 hlt4
  have F4 : Hid (w4.heap[G.sb]? = some (.cells (two G.sv) 40 (0, 0))) := grown_at hgrow4 (box_alloc HA.out.pa.sbox _) (fun e => by have h1 := HA.out.pa.rsv false _ (by rw [SV.out]; exact e); rw [HA.out.pa.rs] at h1; omega)
  have F5 : Hid (w4.heap[G.pb]? = some (.cells #[sl2 G.lb, sl2 G.wb, sl2 G.sb, sl2 G.tb] 57 (0, 0))) := grown_at hgrow4 (box_alloc HA.out.pa.box _) (fun e => by have h1 := HA.out.pa.rsv false _ (by rw [SV.out]; exact e); rw [HA.out.pa.rp] at h1; omega)
  have F6 : Hid (w4.heap[d]? = some (.cells #[.int .i64 tk, .int .i64 tw, .int .i64 ti, .string ts] 52 (0, 0))) := grown_at hgrow4 (box_alloc HD.out.at_ _) (fun e => by have h1 := HA.out.pa.rsv false _ (by rw [SV.out]; exact e); rw [HD.out.r0] at h1; omega)
  have q5 : w4.cell? ⟨G.sb, 0, none⟩ = some (.slice so n sc) := by rw [← SV.out]; exact box_cell F4.out (ix false) (two_at G.sv false)
  have qf := box_free F4.out 0
  refine hK.out _ _ ⟨box_cell F5.out 2 rfl, q5, box_cell F6.out 3 rfl⟩ (fun hHeldx => ?_)
  clear hK K hHeld
  have hHeld := hHeldx
  clear hHeldx
  try simp only [Act.put, List.setIfInBounds_toArray, List.set_cons_zero, List.set_cons_succ]
  refine takeIn 14 (v := ?_) rfl (by kernel_rfl) (by kernel_rfl) (by kernel_rfl) (fun _ _ _ h => h) rfl ?_ hHeld ?_
  rotate_left
  · intro w hSw; (try dsimp only at hSw); first | (go_simp; done) | (go_simp; with_reducible rfl) | with_reducible rfl
  try simp only [Act.put, List.setIfInBounds_toArray, List.set_cons_zero, List.set_cons_succ]
  refine takeIn 15 (v := ?_) rfl (by kernel_rfl) (by kernel_rfl) (by kernel_rfl) (fun _ _ _ h => h) rfl ?_ hHeld ?_
  rotate_left
  · intro w hSw; (try dsimp only at hSw); first | (go_simp; done) | (go_simp; with_reducible rfl) | with_reducible rfl
  try simp only [Act.put, List.setIfInBounds_toArray, List.set_cons_zero, List.set_cons_succ]
  refine wpAnyH_done (by kernel_rfl) ?_ _
  intro K hK
  go_simp
  refine hK _ _ ?_
  clear hK K hHeld
  have T4 : Touch (fun j => r j = 4 ∨ r j = 12 + ix false) wq w4 := (((Touch.refl _ wq).drew.alloc _).grown hgrow4 fun j e _ => .inr (HA.out.pa.rsv false j (by rw [SV.out]; exact e)))
  have B5 := box_set F4.out 0 (.slice (some ⟨g4, 0, none⟩) (n + 1) cap4)
  have T5 := T4.setCell ⟨G.sb, 0, none⟩ (.slice (some ⟨g4, 0, none⟩) (n + 1) cap4) fun _ => .inl HA.out.pa.rs
  have PP := HA.out.pa.sents (w' := w4.setCell ⟨G.sb, 0, none⟩ (.slice (some ⟨g4, 0, none⟩) (n + 1) cap4)) false (v' := .slice (some ⟨g4, 0, none⟩) (n + 1) cap4) (L := p.sent false ++ [ts]) T5 (by rw [B5]; exact congrArg (fun z => some (Obj.cells z _ _)) (two_set G.sv false _)) ?_ ?_
  · exact HQ.out _ _ (.slice (some ⟨g4, 0, none⟩) (n + 1) cap4) ⟨rfl, rfl, rfl, rfl, rfl, rfl, rfl, rfl, rfl, rfl, rfl, rfl, rfl, rfl, rfl, rfl, rfl, rfl, rfl, rfl, rfl, rfl, rfl, rfl⟩ (HA.out.pair PP T5 (fun j e _ => by omega) (fun j e => upd_old e)) (HA.out.pa.toBelow T5 fun j e _ => by omega)
  · rw [List.length_append, HN.out, List.map_append]
    refine set_row hown4 G.sb _ _ (fun e => ?_)
    obtain rfl := Option.some.inj e
    rcases hat4 with h | h
    · have h1 := HA.out.pa.rsv false _ (by rw [SV.out]; exact h)
      rw [HA.out.pa.rs] at h1
      omega
    · have h1 := heap_lt HA.out.pa.sbox
      omega
  · intro j e
    obtain rfl := Option.some.inj e
    rcases hat4 with h | h
    · exact .inl (by rw [SV.out]; exact h)
    · exact .inr (by show wq.heap.size ≤ g4; omega)
end Go.Proofs.Ythgfijmpofbchaa
