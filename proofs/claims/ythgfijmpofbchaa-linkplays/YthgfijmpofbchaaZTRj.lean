/-
  turn, its region 0, as it runs (mkturn.py).
-/
import Derived.Test.YthgfijmpofbchaaZT2
namespace Go.Proofs.Ythgfijmpofbchaa
open Go.RowKit

attribute [local go_sem ↓] Go.wp_at_zero Go.wp_at_succ
set_option linter.unusedSimpArgs false
theorem str_at {w : World} {B : BE} {v : Value} {ao : Option Addr} {cp : Nat} {D : List ByteArray} (h : w.ownsRow B 9 1 v D.length (D.map .string)) (hv : v = .slice ao D.length cp) (i : Nat) (hi : i < D.length) : ∃ g, ao = some ⟨g, 0, none⟩ ∧ w.cell? ⟨g, i, none⟩ = some (.string D[i]) := by
  subst hv
  have hr := OwnsQ.of_row h
  rcases h.2 with ⟨_, h2⟩ | ⟨g, cap, cur, hv, hg, hh, hn, hc, hs, ht⟩
  · omega
  · injection hv with h1 _ h3
    subst h1 h3
    obtain ⟨off2, ha, hcc, _⟩ := hr.cell
    injection ha with _ ha _
    subst ha
    refine ⟨g, rfl, ?_⟩
    have := hcc i (by omega)
    rw [Nat.zero_add, List.getElem?_map, List.getElem?_eq_getElem hi] at this
    exact this
set_option maxHeartbeats 8000000 in
set_option maxRecDepth 100000 in
theorem turn_r19 {K : Act → World → Prop} {c : Code} (hc : regOf (Try.f22.body.getD .skip) 19 = some c) (a : Act) {B : BE} {wq : World} {G : PG} {r : Nat → Nat} {p : PR} {d : Nat} {t : TN} {k o : Nat} {v7 v8 v9 v10 v19 : Value} {j : Nat} (hF : FT a G.pb d k o v7 v8 v9 v10 (.int .i64 (j : Int)) v19) (x : Bool) (hk : k = ix x) (ho : o = ix (!x)) (hP : PT B wq G r p d t) (hj : j < (p.told x).length) (hpre : p.told x <+: p.sent (!x))
    (hQ : ∀ a', FT a' G.pb d k o v7 v8 v9 v10 (.int .i64 (j : Int)) v19 → a'.tmps.getD 164 undef = .bool false → K a' wq.drew) :
    Code.wp Try.prog c (Exit.then K fun _ _ _ => False) a wq := by
  have HQ := hide hQ
  clear hQ
  obtain ⟨t', d'⟩ := a
  obtain ⟨hs1, hd1, q0, q3, q5, q6, q7, q8, q9, q10, q11, q19⟩ := hF
  obtain ⟨u, hu⟩ := frame_row t' hs1
  simp only at hd1 q0 q3 q5 q6 q7 q8 q9 q10 q11 q19
  subst hu hd1
  have e0 : u 0 = .pointer (some ⟨G.pb, 0, none⟩) := q0
  have e3 : u 3 = .pointer (some ⟨d, 0, none⟩) := q3
  have e5 : u 5 = .int .i64 (k : Int) := q5
  have e6 : u 6 = .int .i64 (o : Int) := q6
  have e7 : u 7 = v7 := q7
  have e8 : u 8 = v8 := q8
  have e9 : u 9 = v9 := q9
  have e10 : u 10 = v10 := q10
  have e11 : u 11 = .int .i64 (j : Int) := q11
  have e19 : u 19 = v19 := q19
  rw [e0, e3, e5, e6, e7, e8, e9, e10, e11, e19]
  clear q0 q3 q5 q6 q7 q8 q9 q10 q11 q19 e0 e3 e5 e6 e7 e8 e9 e10 e11 e19 hs1
  simp only [Try.f22, Option.getD_some, regOf] at hc
  injection hc with hc
  subst hc
  generalize u 1 = u1
  generalize u 2 = u2
  generalize u 4 = u4
  generalize u 12 = u12
  generalize u 13 = u13
  generalize u 14 = u14
  generalize u 15 = u15
  generalize u 16 = u16
  generalize u 17 = u17
  generalize u 18 = u18
  generalize u 20 = u20
  generalize u 21 = u21
  generalize u 22 = u22
  generalize u 23 = u23
  generalize u 24 = u24
  generalize u 25 = u25
  generalize u 26 = u26
  generalize u 27 = u27
  generalize u 28 = u28
  generalize u 29 = u29
  generalize u 30 = u30
  generalize u 31 = u31
  generalize u 32 = u32
  generalize u 33 = u33
  generalize u 34 = u34
  generalize u 35 = u35
  generalize u 36 = u36
  generalize u 37 = u37
  generalize u 38 = u38
  generalize u 39 = u39
  generalize u 40 = u40
  generalize u 41 = u41
  generalize u 42 = u42
  generalize u 43 = u43
  generalize u 44 = u44
  generalize u 45 = u45
  generalize u 46 = u46
  generalize u 47 = u47
  generalize u 48 = u48
  generalize u 49 = u49
  generalize u 50 = u50
  generalize u 51 = u51
  generalize u 52 = u52
  generalize u 53 = u53
  generalize u 54 = u54
  generalize u 55 = u55
  generalize u 56 = u56
  generalize u 57 = u57
  generalize u 58 = u58
  generalize u 59 = u59
  generalize u 60 = u60
  generalize u 61 = u61
  generalize u 62 = u62
  generalize u 63 = u63
  generalize u 64 = u64
  generalize u 65 = u65
  generalize u 66 = u66
  generalize u 67 = u67
  generalize u 68 = u68
  generalize u 69 = u69
  generalize u 70 = u70
  generalize u 71 = u71
  generalize u 72 = u72
  generalize u 73 = u73
  generalize u 74 = u74
  generalize u 75 = u75
  generalize u 76 = u76
  generalize u 77 = u77
  generalize u 78 = u78
  generalize u 79 = u79
  generalize u 80 = u80
  generalize u 81 = u81
  generalize u 82 = u82
  generalize u 83 = u83
  generalize u 84 = u84
  generalize u 85 = u85
  generalize u 86 = u86
  generalize u 87 = u87
  generalize u 88 = u88
  generalize u 89 = u89
  generalize u 90 = u90
  generalize u 91 = u91
  generalize u 92 = u92
  generalize u 93 = u93
  generalize u 94 = u94
  generalize u 95 = u95
  generalize u 96 = u96
  generalize u 97 = u97
  generalize u 98 = u98
  generalize u 99 = u99
  generalize u 100 = u100
  generalize u 101 = u101
  generalize u 102 = u102
  generalize u 103 = u103
  generalize u 104 = u104
  generalize u 105 = u105
  generalize u 106 = u106
  generalize u 107 = u107
  generalize u 108 = u108
  generalize u 109 = u109
  generalize u 110 = u110
  generalize u 111 = u111
  generalize u 112 = u112
  generalize u 113 = u113
  generalize u 114 = u114
  generalize u 115 = u115
  generalize u 116 = u116
  generalize u 117 = u117
  generalize u 118 = u118
  generalize u 119 = u119
  generalize u 120 = u120
  generalize u 121 = u121
  generalize u 122 = u122
  generalize u 123 = u123
  generalize u 124 = u124
  generalize u 125 = u125
  generalize u 126 = u126
  generalize u 127 = u127
  generalize u 128 = u128
  generalize u 129 = u129
  generalize u 130 = u130
  generalize u 131 = u131
  generalize u 132 = u132
  generalize u 133 = u133
  generalize u 134 = u134
  generalize u 135 = u135
  generalize u 136 = u136
  generalize u 137 = u137
  generalize u 138 = u138
  generalize u 139 = u139
  generalize u 140 = u140
  generalize u 141 = u141
  generalize u 142 = u142
  generalize u 143 = u143
  generalize u 144 = u144
  generalize u 145 = u145
  generalize u 146 = u146
  generalize u 147 = u147
  generalize u 148 = u148
  generalize u 149 = u149
  generalize u 150 = u150
  generalize u 151 = u151
  generalize u 152 = u152
  generalize u 153 = u153
  generalize u 154 = u154
  generalize u 155 = u155
  generalize u 156 = u156
  generalize u 157 = u157
  generalize u 158 = u158
  generalize u 159 = u159
  generalize u 160 = u160
  generalize u 161 = u161
  generalize u 162 = u162
  generalize u 163 = u163
  generalize u 164 = u164
  generalize u 165 = u165
  generalize u 166 = u166
  generalize u 167 = u167
  generalize u 168 = u168
  generalize u 169 = u169
  generalize u 170 = u170
  generalize u 171 = u171
  generalize u 172 = u172
  generalize u 173 = u173
  generalize u 174 = u174
  generalize u 175 = u175
  generalize u 176 = u176
  generalize u 177 = u177
  generalize u 178 = u178
  generalize u 179 = u179
  generalize u 180 = u180
  generalize u 181 = u181
  generalize u 182 = u182
  generalize u 183 = u183
  generalize u 184 = u184
  generalize u 185 = u185
  generalize u 186 = u186
  generalize u 187 = u187
  generalize u 188 = u188
  generalize u 189 = u189
  generalize u 190 = u190
  generalize u 191 = u191
  generalize u 192 = u192
  generalize u 193 = u193
  generalize u 194 = u194
  generalize u 195 = u195
  generalize u 196 = u196
  generalize u 197 = u197
  generalize u 198 = u198
  generalize u 199 = u199
  generalize u 200 = u200
  generalize u 201 = u201
  generalize u 202 = u202
  generalize u 203 = u203
  generalize u 204 = u204
  generalize u 205 = u205
  generalize u 206 = u206
  generalize u 207 = u207
  generalize u 208 = u208
  generalize u 209 = u209
  generalize u 210 = u210
  generalize u 211 = u211
  generalize u 212 = u212
  generalize u 213 = u213
  generalize u 214 = u214
  generalize u 215 = u215
  generalize u 216 = u216
  generalize u 217 = u217
  generalize u 218 = u218
  generalize u 219 = u219
  generalize u 220 = u220
  generalize u 221 = u221
  generalize u 222 = u222
  generalize u 223 = u223
  generalize u 224 = u224
  generalize u 225 = u225
  generalize u 226 = u226
  generalize u 227 = u227
  generalize u 228 = u228
  clear u
  have HP := hide hP
  have HX := hide hk
  have HO := hide ho
  have hk0 : (0 : Int) ≤ (k : Int) := by omega
  have hk1 : (k : Int) < 2 := by have := ix_lt x; omega
  have ho0 : (0 : Int) ≤ (o : Int) := by omega
  have ho1 : (o : Int) < 2 := by have := ix_lt (!x); omega
  obtain ⟨c0, c1, c2, c3⟩ := hP.pa.cp
  have ct := hP.pa.ct x
  rw [← hk] at ct
  have cs := hP.pa.cs (!x)
  rw [← ho] at cs
  obtain ⟨ta, tc, htv⟩ := row_slice (hP.pa.told x)
  obtain ⟨sa, sc, hsv⟩ := row_slice (hP.pa.sent (!x))
  rw [htv] at ct
  rw [hsv] at cs
  obtain ⟨tn, htn⟩ : ∃ tn, (p.told x).length = tn := ⟨_, rfl⟩
  obtain ⟨sn, hsn⟩ : ∃ sn, (p.sent (!x)).length = sn := ⟨_, rfl⟩
  have hle := hpre.length_le
  obtain ⟨tg, hta, h1⟩ := str_at (hP.pa.told x) htv j hj
  obtain ⟨sg, hsa, h2⟩ := str_at (hP.pa.sent (!x)) hsv j (by omega)
  have heq : (p.sent (!x))[j]'(by omega) = (p.told x)[j] := by
    obtain ⟨q, hq⟩ := hpre
    simp only [← hq]
    rw [List.getElem_append_left hj]
  rw [heq] at h2
  generalize (p.told x)[j] = y at *
  subst hta hsa
  rw [htn] at ct hj
  rw [hsn] at cs
  have hj0 : (0 : Int) ≤ (j : Int) := by omega
  have hj1 : (j : Int) < (tn : Int) := by omega
  have hj2 : (j : Int) < (sn : Int) := by omega
  clear hP hk ho htv hsv htn hsn hpre hle heq
  go_region_held_law (fun w' => w'.cell? ⟨G.pb, 3, none⟩ = some (sl2 G.tb) ∧ w'.cell? ⟨G.tb, k, none⟩ = some (.slice (some ⟨tg, 0, none⟩) tn tc) ∧ w'.cell? ⟨G.pb, 2, none⟩ = some (sl2 G.sb) ∧ w'.cell? ⟨G.sb, o, none⟩ = some (.slice (some ⟨sg, 0, none⟩) sn sc) ∧ w'.cell? ⟨tg, j, none⟩ = some (.string y) ∧ w'.cell? ⟨sg, j, none⟩ = some (.string y)) (first | exact ⟨c3, ct, c2, cs, h1, h2⟩) (fail)
  all_goals exact HQ.out _ ⟨rfl, rfl, rfl, rfl, rfl, rfl, rfl, rfl, rfl, rfl, rfl, rfl⟩ (by simp)
end Go.Proofs.Ythgfijmpofbchaa
