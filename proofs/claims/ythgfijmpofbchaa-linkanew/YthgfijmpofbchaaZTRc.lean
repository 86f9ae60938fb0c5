/-
  turn, its region 0, as it runs (mkturn.py).
-/
import Derived.Test.YthgfijmpofbchaaZT2
namespace Go.Proofs.Ythgfijmpofbchaa
open Go.RowKit

attribute [local go_sem ↓] Go.wp_at_zero Go.wp_at_succ
set_option linter.unusedSimpArgs false
set_option maxHeartbeats 8000000 in
set_option maxRecDepth 100000 in
theorem turn_r25 {K : Act → World → Prop} {c : Code} (hc : regOf (Try.f22.body.getD .skip) 25 = some c) (a : Act) {B : BE} {wq : World} {G : PG} {r : Nat → Nat} {p : PR} {d : Nat} {t : TN} {k o : Nat} {v7 v8 v9 v10 v11 v19 : Value} (hF : FT a G.pb d k o v7 v8 v9 v10 v11 v19) (x : Bool) (hk : k = ix x) (ho : o = ix (!x)) (hP : PT B wq G r p d t) (hl : (p.way (!x)).length ≤ 100000) (hm : (p.l x).outs.length ≤ 100000)
    (hQ : ∀ a' w' v' rr, FT a' G.pb d k o v7 v8 v9 v10 v11 v19 → PT B w' { G with wv := set G.wv (!x) v' } rr (p.pt x) d t → Below B wq w' → K a' w') :
    Code.wp Try.prog c (Exit.then K fun _ _ _ => False) a wq := by
  have HQ := hide hQ
  clear hQ
  obtain ⟨t', d'⟩ := a
  obtain ⟨hs1, hd1, q0, q3, q5, q6, q7, q8, q9, q10, q11, q19⟩ := hF
  obtain ⟨u, hu⟩ := frame_row t' hs1
  simp only at hd1 q0 q3 q5 q6 q7 q8 q9 q10 q11 q19
  subst hu hd1
  have e0 : u 0 = .pointer (some ⟨G.pb, 0, none⟩) := q0
  have e3 : u 3 = .pointer (some ⟨d, 0, none⟩) := q3
  have e5 : u 5 = .int .i64 (k : Int) := q5
  have e6 : u 6 = .int .i64 (o : Int) := q6
  have e7 : u 7 = v7 := q7
  have e8 : u 8 = v8 := q8
  have e9 : u 9 = v9 := q9
  have e10 : u 10 = v10 := q10
  have e11 : u 11 = v11 := q11
  have e19 : u 19 = v19 := q19
  rw [e0, e3, e5, e6, e7, e8, e9, e10, e11, e19]
  clear q0 q3 q5 q6 q7 q8 q9 q10 q11 q19 e0 e3 e5 e6 e7 e8 e9 e10 e11 e19 hs1
  simp only [Try.f22, Option.getD_some, regOf] at hc
  injection hc with hc
  subst hc
  generalize u 1 = u1
  generalize u 2 = u2
  generalize u 4 = u4
  generalize u 12 = u12
  generalize u 13 = u13
  generalize u 14 = u14
  generalize u 15 = u15
  generalize u 16 = u16
  generalize u 17 = u17
  generalize u 18 = u18
  generalize u 20 = u20
  generalize u 21 = u21
  generalize u 22 = u22
  generalize u 23 = u23
  generalize u 24 = u24
  generalize u 25 = u25
  generalize u 26 = u26
  generalize u 27 = u27
  generalize u 28 = u28
  generalize u 29 = u29
  generalize u 30 = u30
  generalize u 31 = u31
  generalize u 32 = u32
  generalize u 33 = u33
  generalize u 34 = u34
  generalize u 35 = u35
  generalize u 36 = u36
  generalize u 37 = u37
  generalize u 38 = u38
  generalize u 39 = u39
  generalize u 40 = u40
  generalize u 41 = u41
  generalize u 42 = u42
  generalize u 43 = u43
  generalize u 44 = u44
  generalize u 45 = u45
  generalize u 46 = u46
  generalize u 47 = u47
  generalize u 48 = u48
  generalize u 49 = u49
  generalize u 50 = u50
  generalize u 51 = u51
  generalize u 52 = u52
  generalize u 53 = u53
  generalize u 54 = u54
  generalize u 55 = u55
  generalize u 56 = u56
  generalize u 57 = u57
  generalize u 58 = u58
  generalize u 59 = u59
  generalize u 60 = u60
  generalize u 61 = u61
  generalize u 62 = u62
  generalize u 63 = u63
  generalize u 64 = u64
  generalize u 65 = u65
  generalize u 66 = u66
  generalize u 67 = u67
  generalize u 68 = u68
  generalize u 69 = u69
  generalize u 70 = u70
  generalize u 71 = u71
  generalize u 72 = u72
  generalize u 73 = u73
  generalize u 74 = u74
  generalize u 75 = u75
  generalize u 76 = u76
  generalize u 77 = u77
  generalize u 78 = u78
  generalize u 79 = u79
  generalize u 80 = u80
  generalize u 81 = u81
  generalize u 82 = u82
  generalize u 83 = u83
  generalize u 84 = u84
  generalize u 85 = u85
  generalize u 86 = u86
  generalize u 87 = u87
  generalize u 88 = u88
  generalize u 89 = u89
  generalize u 90 = u90
  generalize u 91 = u91
  generalize u 92 = u92
  generalize u 93 = u93
  generalize u 94 = u94
  generalize u 95 = u95
  generalize u 96 = u96
  generalize u 97 = u97
  generalize u 98 = u98
  generalize u 99 = u99
  generalize u 100 = u100
  generalize u 101 = u101
  generalize u 102 = u102
  generalize u 103 = u103
  generalize u 104 = u104
  generalize u 105 = u105
  generalize u 106 = u106
  generalize u 107 = u107
  generalize u 108 = u108
  generalize u 109 = u109
  generalize u 110 = u110
  generalize u 111 = u111
  generalize u 112 = u112
  generalize u 113 = u113
  generalize u 114 = u114
  generalize u 115 = u115
  generalize u 116 = u116
  generalize u 117 = u117
  generalize u 118 = u118
  generalize u 119 = u119
  generalize u 120 = u120
  generalize u 121 = u121
  generalize u 122 = u122
  generalize u 123 = u123
  generalize u 124 = u124
  generalize u 125 = u125
  generalize u 126 = u126
  generalize u 127 = u127
  generalize u 128 = u128
  generalize u 129 = u129
  generalize u 130 = u130
  generalize u 131 = u131
  generalize u 132 = u132
  generalize u 133 = u133
  generalize u 134 = u134
  generalize u 135 = u135
  generalize u 136 = u136
  generalize u 137 = u137
  generalize u 138 = u138
  generalize u 139 = u139
  generalize u 140 = u140
  generalize u 141 = u141
  generalize u 142 = u142
  generalize u 143 = u143
  generalize u 144 = u144
  generalize u 145 = u145
  generalize u 146 = u146
  generalize u 147 = u147
  generalize u 148 = u148
  generalize u 149 = u149
  generalize u 150 = u150
  generalize u 151 = u151
  generalize u 152 = u152
  generalize u 153 = u153
  generalize u 154 = u154
  generalize u 155 = u155
  generalize u 156 = u156
  generalize u 157 = u157
  generalize u 158 = u158
  generalize u 159 = u159
  generalize u 160 = u160
  generalize u 161 = u161
  generalize u 162 = u162
  generalize u 163 = u163
  generalize u 164 = u164
  generalize u 165 = u165
  generalize u 166 = u166
  generalize u 167 = u167
  generalize u 168 = u168
  generalize u 169 = u169
  generalize u 170 = u170
  generalize u 171 = u171
  generalize u 172 = u172
  generalize u 173 = u173
  generalize u 174 = u174
  generalize u 175 = u175
  generalize u 176 = u176
  generalize u 177 = u177
  generalize u 178 = u178
  generalize u 179 = u179
  generalize u 180 = u180
  generalize u 181 = u181
  generalize u 182 = u182
  generalize u 183 = u183
  generalize u 184 = u184
  generalize u 185 = u185
  generalize u 186 = u186
  generalize u 187 = u187
  generalize u 188 = u188
  generalize u 189 = u189
  generalize u 190 = u190
  generalize u 191 = u191
  generalize u 192 = u192
  generalize u 193 = u193
  generalize u 194 = u194
  generalize u 195 = u195
  generalize u 196 = u196
  generalize u 197 = u197
  generalize u 198 = u198
  generalize u 199 = u199
  generalize u 200 = u200
  generalize u 201 = u201
  generalize u 202 = u202
  generalize u 203 = u203
  generalize u 204 = u204
  generalize u 205 = u205
  generalize u 206 = u206
  generalize u 207 = u207
  generalize u 208 = u208
  generalize u 209 = u209
  generalize u 210 = u210
  generalize u 211 = u211
  generalize u 212 = u212
  generalize u 213 = u213
  generalize u 214 = u214
  generalize u 215 = u215
  generalize u 216 = u216
  generalize u 217 = u217
  generalize u 218 = u218
  generalize u 219 = u219
  generalize u 220 = u220
  generalize u 221 = u221
  generalize u 222 = u222
  generalize u 223 = u223
  generalize u 224 = u224
  generalize u 225 = u225
  generalize u 226 = u226
  generalize u 227 = u227
  generalize u 228 = u228
  clear u
  have HP := hide hP
  have HX := hide hk
  have HO := hide ho
  have hk0 : (0 : Int) ≤ (k : Int) := by omega
  have hk1 : (k : Int) < 2 := by have := ix_lt x; omega
  have ho0 : (0 : Int) ≤ (o : Int) := by omega
  have ho1 : (o : Int) < 2 := by have := ix_lt (!x); omega
  obtain ⟨c0, c1, c2, c3⟩ := hP.pa.cp
  have cs := hP.pa.cw (!x)
  rw [← ho] at cs
  have cl := hP.pa.cl x
  rw [← hk] at cl
  have hrow := hP.pa.way (!x)
  obtain ⟨i0, hi0, hz0, hz1, hz2⟩ := info_parts infoFR
  obtain ⟨so, sc, hsv⟩ := row_slice hrow
  obtain ⟨n, hn⟩ : ∃ n, (p.way (!x)).length = n := ⟨_, rfl⟩
  have HN := hide hn
  rw [hn] at hl
  rw [hsv, hn] at cs
  rw [hn] at hsv
  have SV := hide hsv
  have HS := hide (fun W (hW : PL W (G.b x) (G.v x) (p.l x)) => pout hW)
  have HKK := hide (enters_of Try.func12 (by kernel_rfl) rfl)
  have PD : Hid (PL wq.drew (G.b x) (G.v x) (p.l x)) := hP.pa.drew.link x
  obtain ⟨os, hos⟩ : ∃ os, (p.l x).outs = os := ⟨_, rfl⟩
  have HOS := hide hos
  rw [hos] at HS hm
  obtain ⟨m, hmm⟩ : ∃ m, os.length = m := ⟨_, rfl⟩
  have HM := hide hmm
  rw [hmm] at HS hm
  clear hP hk ho hrow hsv hn hos hmm
  refine wp_region_last 22 rfl (by kernel_rfl) rfl rfl (by kernel_rfl) ?_
  intro ops' hops'
  simp only [idle, List.setIfInBounds_toArray, List.set_cons_succ, List.set_cons_zero] at hops'
  subst hops'
  refine wpAny_of_held (S := (fun w' => w'.cell? ⟨G.pb, 1, none⟩ = some (sl2 G.wb) ∧ w'.cell? ⟨G.wb, o, none⟩ = some (.slice so n sc) ∧ w'.cell? ⟨G.pb, 0, none⟩ = some (sl2 G.lb) ∧ w'.cell? ⟨G.lb, k, none⟩ = some (.pointer (some ⟨G.b x, 0, none⟩)))) _ _ _ _ ?_
  have hHeld : ((fun w' => w'.cell? ⟨G.pb, 1, none⟩ = some (sl2 G.wb) ∧ w'.cell? ⟨G.wb, o, none⟩ = some (.slice so n sc) ∧ w'.cell? ⟨G.pb, 0, none⟩ = some (sl2 G.lb) ∧ w'.cell? ⟨G.lb, k, none⟩ = some (.pointer (some ⟨G.b x, 0, none⟩)))) wq.drew := ⟨c1, cs, c0, cl⟩
  refine takeIn 0 (v := ?_) rfl (by kernel_rfl) (by kernel_rfl) (by kernel_rfl) (fun _ _ _ h => h) rfl ?_ hHeld ?_
  rotate_left
  · intro w hSw; (try dsimp only at hSw); first | (go_simp; done) | (go_simp; with_reducible rfl) | with_reducible rfl
  try simp only [Act.put, List.setIfInBounds_toArray, List.set_cons_zero, List.set_cons_succ]
  refine takeIn 1 (v := ?_) rfl (by kernel_rfl) (by kernel_rfl) (by kernel_rfl) (fun _ _ _ h => h) rfl ?_ hHeld ?_
  rotate_left
  · intro w hSw; (try dsimp only at hSw); first | (go_simp; done) | (go_simp; with_reducible rfl) | with_reducible rfl
  try simp only [Act.put, List.setIfInBounds_toArray, List.set_cons_zero, List.set_cons_succ]
  refine takeIn 2 (v := ?_) rfl (by kernel_rfl) (by kernel_rfl) (by kernel_rfl) (fun _ _ _ h => h) rfl ?_ hHeld ?_
  rotate_left
  · intro w hSw; (try dsimp only at hSw); first | (go_simp; done) | (go_simp; with_reducible rfl) | with_reducible rfl
  try simp only [Act.put, List.setIfInBounds_toArray, List.set_cons_zero, List.set_cons_succ]
  refine takeIn 3 (v := ?_) rfl (by kernel_rfl) (by kernel_rfl) (by kernel_rfl) (fun _ _ _ h => h) rfl ?_ hHeld ?_
  rotate_left
  · intro w hSw; (try dsimp only at hSw); first | (go_simp; done) | (go_simp; with_reducible rfl) | with_reducible rfl
  try simp only [Act.put, List.setIfInBounds_toArray, List.set_cons_zero, List.set_cons_succ]
  refine takeIn 4 (v := ?_) rfl (by kernel_rfl) (by kernel_rfl) (by kernel_rfl) (fun _ _ _ h => h) rfl ?_ hHeld ?_
  rotate_left
  · intro w hSw; (try dsimp only at hSw); first | (go_simp; done) | (go_simp; with_reducible rfl) | with_reducible rfl
  try simp only [Act.put, List.setIfInBounds_toArray, List.set_cons_zero, List.set_cons_succ]
  refine takeIn 5 (v := ?_) rfl (by kernel_rfl) (by kernel_rfl) (by kernel_rfl) (fun _ _ _ h => h) rfl ?_ hHeld ?_
  rotate_left
  · intro w hSw; (try dsimp only at hSw); first | (go_simp; done) | (go_simp; with_reducible rfl) | with_reducible rfl
  try simp only [Act.put, List.setIfInBounds_toArray, List.set_cons_zero, List.set_cons_succ]
  refine takeIn 6 (v := ?_) rfl (by kernel_rfl) (by kernel_rfl) (by kernel_rfl) (fun _ _ _ h => h) rfl ?_ hHeld ?_
  rotate_left
  · intro w hSw; (try dsimp only at hSw); first | (go_simp; done) | (go_simp; with_reducible rfl) | with_reducible rfl
  try simp only [Act.put, List.setIfInBounds_toArray, List.set_cons_zero, List.set_cons_succ]
  refine takeIn 7 (v := ?_) rfl (by kernel_rfl) (by kernel_rfl) (by kernel_rfl) (fun _ _ _ h => h) rfl ?_ hHeld ?_
  rotate_left
  · intro w hSw; (try dsimp only at hSw); first | (go_simp; done) | (go_simp; with_reducible rfl) | with_reducible rfl
  try simp only [Act.put, List.setIfInBounds_toArray, List.set_cons_zero, List.set_cons_succ]
  refine takeIn 8 (v := ?_) rfl (by kernel_rfl) (by kernel_rfl) (by kernel_rfl) (fun _ _ _ h => h) rfl ?_ hHeld ?_
  rotate_left
  · intro w hSw; (try dsimp only at hSw); first | (go_simp; done) | (go_simp; with_reducible rfl) | with_reducible rfl
  try simp only [Act.put, List.setIfInBounds_toArray, List.set_cons_zero, List.set_cons_succ]
  refine takeIn 9 (v := ?_) rfl (by kernel_rfl) (by kernel_rfl) (by kernel_rfl) (fun _ _ _ h => h) rfl ?_ hHeld ?_
  rotate_left
  · intro w hSw; (try dsimp only at hSw); first | (go_simp; done) | (go_simp; with_reducible rfl) | with_reducible rfl
  try simp only [Act.put, List.setIfInBounds_toArray, List.set_cons_zero, List.set_cons_succ]
  refine takeIn 10 (v := ?_) rfl (by kernel_rfl) (by kernel_rfl) (by kernel_rfl) (fun _ _ _ h => h) rfl ?_ hHeld ?_
  rotate_left
  · intro w hSw; (try dsimp only at hSw); first | (go_simp; done) | (go_simp; with_reducible rfl) | with_reducible rfl
  try simp only [Act.put, List.setIfInBounds_toArray, List.set_cons_zero, List.set_cons_succ]
  refine takeIn 11 (v := ?_) rfl (by kernel_rfl) (by kernel_rfl) (by kernel_rfl) (fun _ _ _ h => h) rfl ?_ hHeld ?_
  rotate_left
  · intro w hSw; (try dsimp only at hSw); first | (go_simp; done) | (go_simp; with_reducible rfl) | with_reducible rfl
  try simp only [Act.put, List.setIfInBounds_toArray, List.set_cons_zero, List.set_cons_succ]
  refine takeIn 12 (v := ?_) rfl (by kernel_rfl) (by kernel_rfl) (by kernel_rfl) (fun _ _ _ h => h) rfl ?_ hHeld ?_
  rotate_left
  · intro w hSw; (try dsimp only at hSw); first | (go_simp; done) | (go_simp; with_reducible rfl) | with_reducible rfl
  try simp only [Act.put, List.setIfInBounds_toArray, List.set_cons_zero, List.set_cons_succ]
  refine takeIn 13 (v := ?_) rfl (by kernel_rfl) (by kernel_rfl) (by kernel_rfl) (fun _ _ _ h => h) rfl ?_ hHeld ?_
  rotate_left
  · intro w hSw; (try dsimp only at hSw); first | (go_simp; done) | (go_simp; with_reducible rfl) | with_reducible rfl
  try simp only [Act.put, List.setIfInBounds_toArray, List.set_cons_zero, List.set_cons_succ]
  refine takeIn 14 (v := ?_) rfl (by kernel_rfl) (by kernel_rfl) (by kernel_rfl) (fun _ _ _ h => h) rfl ?_ hHeld ?_
  rotate_left
  · intro w hSw; (try dsimp only at hSw); first | (go_simp; done) | (go_simp; with_reducible rfl) | with_reducible rfl
  try simp only [Act.put, List.setIfInBounds_toArray, List.set_cons_zero, List.set_cons_succ]
  refine takeIn 15 (v := ?_) rfl (by kernel_rfl) (by kernel_rfl) (by kernel_rfl) (fun _ _ _ h => h) rfl ?_ hHeld ?_
  rotate_left
  · intro w hSw; (try dsimp only at hSw); first | (go_simp; done) | (go_simp; with_reducible rfl) | with_reducible rfl
  try simp only [Act.put, List.setIfInBounds_toArray, List.set_cons_zero, List.set_cons_succ]
  refine takeIn 16 (v := ?_) rfl (by kernel_rfl) (by kernel_rfl) (by kernel_rfl) (fun _ _ _ h => h) rfl ?_ hHeld ?_
  rotate_left
  · intro w hSw; (try dsimp only at hSw); first | (go_simp; done) | (go_simp; with_reducible rfl) | with_reducible rfl
  try simp only [Act.put, List.setIfInBounds_toArray, List.set_cons_zero, List.set_cons_succ]
  refine takeIn 17 (v := ?_) rfl (by kernel_rfl) (by kernel_rfl) (by kernel_rfl) (fun _ _ _ h => h) rfl ?_ hHeld ?_
  rotate_left
  · intro w hSw; (try dsimp only at hSw); first | (go_simp; done) | (go_simp; with_reducible rfl) | with_reducible rfl
  try simp only [Act.put, List.setIfInBounds_toArray, List.set_cons_zero, List.set_cons_succ]
  refine takeIn 18 (v := ?_) rfl (by kernel_rfl) (by kernel_rfl) (by kernel_rfl) (fun _ _ _ h => h) rfl ?_ hHeld ?_
  rotate_left
  · intro w hSw; (try dsimp only at hSw); first | (go_simp; done) | (go_simp; with_reducible rfl) | with_reducible rfl
  try simp only [Act.put, List.setIfInBounds_toArray, List.set_cons_zero, List.set_cons_succ]
  refine stepIn 19 rfl (by kernel_rfl) (fun K hK => ?_)
  refine step_fn rfl 12 _ _ rfl HKK.out [.pointer (some ⟨G.b x, 0, none⟩)] rfl (HS.out _ PD.out) ?_
  rintro e w1 ⟨gg, oc, rfl, gv⟩
  refine ⟨_, rfl, ?_⟩
  have P1 := hide (HP.out.drew.call x gv.link ⟨gv.touch, fun _ e => .inl e⟩)
  have R1 := hide gv.row
  have T1 := hide gv.touch
  clear gv
  refine hK.out _ _ ⟨P1.out.1.pa.cp.2.1, by rw [HO.out, ← SV.out]; exact P1.out.1.pa.cw (!x), P1.out.1.pa.cp.1, by rw [HX.out]; exact P1.out.1.pa.cl x⟩ (fun hHeldx => ?_)
  clear hK K hHeld
  have hHeld := hHeldx
  clear hHeldx
  try simp only [Act.put, List.setIfInBounds_toArray, List.set_cons_zero, List.set_cons_succ]
  refine stepIn 20 rfl (by kernel_rfl) (fun K hK => ?_)
  refine step_append_at rfl _ _ 38 rfl B 31 i0 _ 5 48 Try.underlying38 hi0 hz0 hz1 hz2 rfl (by omega) (.slice so n sc) n (frCells (p.way (!x))) rfl (by have := P1.out.1.pa.way (!x); rw [← SV.out, ← HN.out]; exact this) ⟨gg, 0, none⟩ m oc (frCells os) rfl (frCells_length _ |>.trans (by rw [HM.out])) (by intro j u hu; have := R1.out.cells rfl j u hu; exact this) (frCells_ones _) (by unfold maxLen; omega) (by omega) P1.out.1.pa.size ?_
  intro a4 c4 w4 hown4 hgrow4 hloc4
  have NB : ∀ j, (Value.slice so n sc).ownBlock = some j → r j = 10 + ix (!x) := fun j e => HP.out.pa.rwv (!x) j (by rw [SV.out]; exact e)
  have F4 : Hid (w4.heap[G.wb]? = some (.cells (two G.wv) 38 (0, 0))) := grown_at hgrow4 P1.out.1.pa.wbox (fun e => by have h1 := NB _ e; rw [HP.out.pa.rw] at h1; omega)
  have F5 : Hid (w4.heap[G.pb]? = some (.cells #[sl2 G.lb, sl2 G.wb, sl2 G.sb, sl2 G.tb] 57 (0, 0))) := grown_at hgrow4 P1.out.1.pa.box (fun e => by have h1 := NB _ e; rw [HP.out.pa.rp] at h1; omega)
  have F6 : Hid (w4.heap[G.lb]? = some (.cells (two fun x => .pointer (some ⟨G.b x, 0, none⟩)) 24 (0, 0))) := grown_at hgrow4 P1.out.1.pa.lbox (fun e => by have h1 := NB _ e; rw [HP.out.pa.rl] at h1; omega)
  have q5 : w4.cell? ⟨G.wb, o, none⟩ = some (.slice so n sc) := by rw [HO.out, ← SV.out]; exact box_cell F4.out (ix (!x)) (two_at G.wv (!x))
  have qf := box_free F4.out o
  refine hK.out _ _ ⟨box_cell F5.out 1 rfl, q5, box_cell F5.out 0 rfl, by rw [HX.out]; exact box_cell F6.out (ix x) (two_at (fun x => .pointer (some ⟨G.b x, 0, none⟩)) x)⟩ (fun hHeldx => ?_)
  clear hK K hHeld
  have hHeld := hHeldx
  clear hHeldx
  try simp only [Act.put, List.setIfInBounds_toArray, List.set_cons_zero, List.set_cons_succ]
  refine takeIn 21 (v := ?_) rfl (by kernel_rfl) (by kernel_rfl) (by kernel_rfl) (fun _ _ _ h => h) rfl ?_ hHeld ?_
  rotate_left
  · intro w hSw; (try dsimp only at hSw); first | (go_simp; done) | (go_simp; with_reducible rfl) | with_reducible rfl
  try simp only [Act.put, List.setIfInBounds_toArray, List.set_cons_zero, List.set_cons_succ]
  refine takeIn 22 (v := ?_) rfl (by kernel_rfl) (by kernel_rfl) (by kernel_rfl) (fun _ _ _ h => h) rfl ?_ hHeld ?_
  rotate_left
  · intro w hSw; (try dsimp only at hSw); first | (go_simp; done) | (go_simp; with_reducible rfl) | with_reducible rfl
  try simp only [Act.put, List.setIfInBounds_toArray, List.set_cons_zero, List.set_cons_succ]
  refine wpAnyH_done (by kernel_rfl) ?_ _
  intro K hK
  go_simp
  refine hK _ _ ?_
  clear hK K hHeld
  have R4 : Hid (w4.ownsRow B 31 5 (.slice a4 (n + m) c4) (n + m) (frCells (p.way (!x)) ++ frCells os)) := hown4
  have T4 : Touch (fun j => (upd r wq.heap.size (G.v x).ownBlock (8 + ix x)) j = 3 ∨ (upd r wq.heap.size (G.v x).ownBlock (8 + ix x)) j = 10 + ix (!x)) w1 w4 := (Touch.refl _ w1).grown hgrow4 fun j e hj => by
    have h1 := NB j e
    have h2 : j < wq.heap.size := row_lt (HP.out.pa.way (!x)) (by rw [SV.out]; exact e)
    rw [upd_old h2]
    exact .inr h1
  have B5 := box_set F4.out o (.slice a4 (n + m) c4)
  have hb1 : G.wb < wq.heap.size := heap_lt HP.out.pa.wbox
  have PP := P1.out.1.ways (w' := w4.setCell ⟨G.wb, o, none⟩ (.slice a4 (n + m) c4)) (!x) (v' := .slice a4 (n + m) c4) (L := p.way (!x) ++ os) (T4.setCell _ _ fun _ => .inl (by show upd r wq.heap.size (G.v x).ownBlock (8 + ix x) G.wb = 3; rw [upd_old hb1]; exact HP.out.pa.rw)) (by show _ = some (Obj.cells (two (set G.wv (!x) _)) _ _); rw [B5, HO.out, two_set]) ?_ ?_
  · have hos := HOS.out
    subst hos
    have PQ := PP.1
    rw [set_self] at PQ
    exact HQ.out _ _ (.slice a4 (n + m) c4) _ ⟨rfl, rfl, rfl, rfl, rfl, rfl, rfl, rfl, rfl, rfl, rfl, rfl⟩ PQ ((below_of_drew P1.out.2).trans PP.2)
  · rw [List.length_append, HN.out, HM.out, frCells_append]
    refine set_row R4.out G.wb _ _ (fun e => ?_)
    rcases hloc4 with h | h
    · have h1 := NB G.wb (h ▸ e)
      rw [HP.out.pa.rw] at h1
      omega
    · rw [h] at e
      have h1 : G.wb < w1.heap.size := heap_lt P1.out.1.pa.wbox
      have h2 := Option.some.inj e
      omega
  · intro j e
    rcases hloc4 with h | h
    · exact .inl (by show (G.wv (!x)).ownBlock = some j; rw [SV.out]; exact h ▸ e)
    · rw [h] at e
      exact .inr (by have := Option.some.inj e; omega)
end Go.Proofs.Ythgfijmpofbchaa
