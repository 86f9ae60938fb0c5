/-
  turn, its region 0, as it runs (mkturn.py).
-/
import Derived.Test.YthgfijmpofbchaaZT2
namespace Go.Proofs.Ythgfijmpofbchaa
open Go.RowKit

attribute [local go_sem ↓] Go.wp_at_zero Go.wp_at_succ
set_option linter.unusedSimpArgs false
set_option maxHeartbeats 8000000 in
set_option maxRecDepth 100000 in
theorem turn_r9 {K : Act → World → Prop} {c : Code} (hc : regOf (Try.f22.body.getD .skip) 9 = some c) (a : Act) {B : BE} {wq : World} {G : PG} {r : Nat → Nat} {p : PR} {d : Nat} {t : TN} {k o : Nat} {v8 v9 v10 v11 v19 : Value} {i : Nat} (hF : FT a G.pb d k o (.int .i64 (i : Int)) v8 v9 v10 v11 v19) (x : Bool) (hk : k = ix x) (ho : o = ix (!x)) (hP : PT B wq G r p d t) (hi : i < (p.way x).length) (hl : (p.way x).length ≤ 100000)
    (hQ : ∀ a' w' v' rr, FT a' G.pb d k o (.int .i64 (i : Int)) v8 v9 v10 v11 v19 → PT B w' { G with wv := set G.wv x v' } rr { p with way := set p.way x ((p.way x).take i ++ (p.way x).drop (i + 1)) } d t → (∀ j, r j = 0 → j < wq.heap.size → rr j = 0 ∧ w'.heap[j]? = wq.heap[j]?) → Below B wq w' → K a' w') :
    Code.wp Try.prog c (Exit.then K fun _ _ _ => False) a wq := by
  have HQ := hide hQ
  clear hQ
  obtain ⟨t', d'⟩ := a
  obtain ⟨hs1, hd1, q0, q3, q5, q6, q7, q8, q9, q10, q11, q19⟩ := hF
  obtain ⟨u, hu⟩ := frame_row t' hs1
  simp only at hd1 q0 q3 q5 q6 q7 q8 q9 q10 q11 q19
  subst hu hd1
  have e0 : u 0 = .pointer (some ⟨G.pb, 0, none⟩) := q0
  have e3 : u 3 = .pointer (some ⟨d, 0, none⟩) := q3
  have e5 : u 5 = .int .i64 (k : Int) := q5
  have e6 : u 6 = .int .i64 (o : Int) := q6
  have e7 : u 7 = .int .i64 (i : Int) := q7
  have e8 : u 8 = v8 := q8
  have e9 : u 9 = v9 := q9
  have e10 : u 10 = v10 := q10
  have e11 : u 11 = v11 := q11
  have e19 : u 19 = v19 := q19
  rw [e0, e3, e5, e6, e7, e8, e9, e10, e11, e19]
  clear q0 q3 q5 q6 q7 q8 q9 q10 q11 q19 e0 e3 e5 e6 e7 e8 e9 e10 e11 e19 hs1
  simp only [Try.f22, Option.getD_some, regOf] at hc
  injection hc with hc
  subst hc
  generalize u 1 = u1
  generalize u 2 = u2
  generalize u 4 = u4
  generalize u 12 = u12
  generalize u 13 = u13
  generalize u 14 = u14
  generalize u 15 = u15
  generalize u 16 = u16
  generalize u 17 = u17
  generalize u 18 = u18
  generalize u 20 = u20
  generalize u 21 = u21
  generalize u 22 = u22
  generalize u 23 = u23
  generalize u 24 = u24
  generalize u 25 = u25
  generalize u 26 = u26
  generalize u 27 = u27
  generalize u 28 = u28
  generalize u 29 = u29
  generalize u 30 = u30
  generalize u 31 = u31
  generalize u 32 = u32
  generalize u 33 = u33
  generalize u 34 = u34
  generalize u 35 = u35
  generalize u 36 = u36
  generalize u 37 = u37
  generalize u 38 = u38
  generalize u 39 = u39
  generalize u 40 = u40
  generalize u 41 = u41
  generalize u 42 = u42
  generalize u 43 = u43
  generalize u 44 = u44
  generalize u 45 = u45
  generalize u 46 = u46
  generalize u 47 = u47
  generalize u 48 = u48
  generalize u 49 = u49
  generalize u 50 = u50
  generalize u 51 = u51
  generalize u 52 = u52
  generalize u 53 = u53
  generalize u 54 = u54
  generalize u 55 = u55
  generalize u 56 = u56
  generalize u 57 = u57
  generalize u 58 = u58
  generalize u 59 = u59
  generalize u 60 = u60
  generalize u 61 = u61
  generalize u 62 = u62
  generalize u 63 = u63
  generalize u 64 = u64
  generalize u 65 = u65
  generalize u 66 = u66
  generalize u 67 = u67
  generalize u 68 = u68
  generalize u 69 = u69
  generalize u 70 = u70
  generalize u 71 = u71
  generalize u 72 = u72
  generalize u 73 = u73
  generalize u 74 = u74
  generalize u 75 = u75
  generalize u 76 = u76
  generalize u 77 = u77
  generalize u 78 = u78
  generalize u 79 = u79
  generalize u 80 = u80
  generalize u 81 = u81
  generalize u 82 = u82
  generalize u 83 = u83
  generalize u 84 = u84
  generalize u 85 = u85
  generalize u 86 = u86
  generalize u 87 = u87
  generalize u 88 = u88
  generalize u 89 = u89
  generalize u 90 = u90
  generalize u 91 = u91
  generalize u 92 = u92
  generalize u 93 = u93
  generalize u 94 = u94
  generalize u 95 = u95
  generalize u 96 = u96
  generalize u 97 = u97
  generalize u 98 = u98
  generalize u 99 = u99
  generalize u 100 = u100
  generalize u 101 = u101
  generalize u 102 = u102
  generalize u 103 = u103
  generalize u 104 = u104
  generalize u 105 = u105
  generalize u 106 = u106
  generalize u 107 = u107
  generalize u 108 = u108
  generalize u 109 = u109
  generalize u 110 = u110
  generalize u 111 = u111
  generalize u 112 = u112
  generalize u 113 = u113
  generalize u 114 = u114
  generalize u 115 = u115
  generalize u 116 = u116
  generalize u 117 = u117
  generalize u 118 = u118
  generalize u 119 = u119
  generalize u 120 = u120
  generalize u 121 = u121
  generalize u 122 = u122
  generalize u 123 = u123
  generalize u 124 = u124
  generalize u 125 = u125
  generalize u 126 = u126
  generalize u 127 = u127
  generalize u 128 = u128
  generalize u 129 = u129
  generalize u 130 = u130
  generalize u 131 = u131
  generalize u 132 = u132
  generalize u 133 = u133
  generalize u 134 = u134
  generalize u 135 = u135
  generalize u 136 = u136
  generalize u 137 = u137
  generalize u 138 = u138
  generalize u 139 = u139
  generalize u 140 = u140
  generalize u 141 = u141
  generalize u 142 = u142
  generalize u 143 = u143
  generalize u 144 = u144
  generalize u 145 = u145
  generalize u 146 = u146
  generalize u 147 = u147
  generalize u 148 = u148
  generalize u 149 = u149
  generalize u 150 = u150
  generalize u 151 = u151
  generalize u 152 = u152
  generalize u 153 = u153
  generalize u 154 = u154
  generalize u 155 = u155
  generalize u 156 = u156
  generalize u 157 = u157
  generalize u 158 = u158
  generalize u 159 = u159
  generalize u 160 = u160
  generalize u 161 = u161
  generalize u 162 = u162
  generalize u 163 = u163
  generalize u 164 = u164
  generalize u 165 = u165
  generalize u 166 = u166
  generalize u 167 = u167
  generalize u 168 = u168
  generalize u 169 = u169
  generalize u 170 = u170
  generalize u 171 = u171
  generalize u 172 = u172
  generalize u 173 = u173
  generalize u 174 = u174
  generalize u 175 = u175
  generalize u 176 = u176
  generalize u 177 = u177
  generalize u 178 = u178
  generalize u 179 = u179
  generalize u 180 = u180
  generalize u 181 = u181
  generalize u 182 = u182
  generalize u 183 = u183
  generalize u 184 = u184
  generalize u 185 = u185
  generalize u 186 = u186
  generalize u 187 = u187
  generalize u 188 = u188
  generalize u 189 = u189
  generalize u 190 = u190
  generalize u 191 = u191
  generalize u 192 = u192
  generalize u 193 = u193
  generalize u 194 = u194
  generalize u 195 = u195
  generalize u 196 = u196
  generalize u 197 = u197
  generalize u 198 = u198
  generalize u 199 = u199
  generalize u 200 = u200
  generalize u 201 = u201
  generalize u 202 = u202
  generalize u 203 = u203
  generalize u 204 = u204
  generalize u 205 = u205
  generalize u 206 = u206
  generalize u 207 = u207
  generalize u 208 = u208
  generalize u 209 = u209
  generalize u 210 = u210
  generalize u 211 = u211
  generalize u 212 = u212
  generalize u 213 = u213
  generalize u 214 = u214
  generalize u 215 = u215
  generalize u 216 = u216
  generalize u 217 = u217
  generalize u 218 = u218
  generalize u 219 = u219
  generalize u 220 = u220
  generalize u 221 = u221
  generalize u 222 = u222
  generalize u 223 = u223
  generalize u 224 = u224
  generalize u 225 = u225
  generalize u 226 = u226
  generalize u 227 = u227
  generalize u 228 = u228
  clear u
  have HP := hide hP
  have HX := hide hk
  have HO := hide ho
  have hk0 : (0 : Int) ≤ (k : Int) := by omega
  have hk1 : (k : Int) < 2 := by have := ix_lt x; omega
  have ho0 : (0 : Int) ≤ (o : Int) := by omega
  have ho1 : (o : Int) < 2 := by have := ix_lt (!x); omega
  obtain ⟨c0, c1, c2, c3⟩ := hP.pa.cp
  have cs := hP.pa.cw x
  rw [← hk] at cs
  have hrow := hP.pa.way x
  obtain ⟨i0, hi0, hz0, hz1, hz2⟩ := info_parts infoFR
  obtain ⟨so, sc, hsv⟩ := row_slice hrow
  rw [hsv] at hrow cs
  obtain ⟨g, rfl, hgB, hgl, _⟩ := fr_at hrow i hi
  have hcap : (p.way x).length ≤ sc ∧ sc ≤ 9223372036854775807 := by
    rcases hrow.2 with ⟨h0, _⟩ | ⟨_, _, _, h1, _, _, h4, h5, _⟩
    · cases h0
    · cases h1; exact ⟨h4, by simpa [maxLen] using h5⟩
  have hcell : Hid (∀ j u, (frCells (p.way x))[j]? = some u → wq.cell? ⟨g, j, none⟩ = some u) := fun j u hu => by
    have h1 := hrow.cells rfl j u hu
    rw [Addr.add_lit] at h1
    simpa using h1
  have L1 : Hid ((frCells ((p.way x).take i)).length = i * 5) := by show _ = _; rw [frCells_length, List.length_take]; omega
  obtain ⟨n, hn⟩ : ∃ n, (p.way x).length = n := ⟨_, rfl⟩
  have HN := hide hn
  have L2 : Hid ((frCells ((p.way x).drop (i + 1))).length = (n - (i + 1)) * 5) := by show _ = _; rw [frCells_length, List.length_drop, hn]
  have HN1 : Hid (∀ j u, (frCells ((p.way x).take i))[j]? = some u → wq.drew.cell? ((⟨g, 0, none⟩ : Addr).add j) = some u) := fun j u hu => by
    rw [Addr.add_lit, Nat.zero_add]
    have hj : j < i * 5 := by rw [← L1.out]; exact (List.getElem?_eq_some_iff.1 hu).1
    refine hcell.out j u ?_
    rw [← List.take_append_drop i (p.way x), frCells_append, List.getElem?_append_left (by rw [L1.out]; exact hj)]
    exact hu
  obtain ⟨AD, hAD⟩ : ∃ AD : Addr, (if sc = i + 1 then some (⟨g, 0, none⟩ : Addr) else some ⟨g, (i + 1) * 5, none⟩) = some AD := by
    by_cases e : sc = i + 1
    · exact ⟨_, if_pos e⟩
    · exact ⟨_, if_neg e⟩
  have HA2 : Hid (∀ W, Below wq.heap.size wq W → ∀ j u, (frCells ((p.way x).drop (i + 1)))[j]? = some u → W.cell? (AD.add j) = some u) := fun W hW j u hu => by
    have hj : j < (n - (i + 1)) * 5 := by rw [← L2.out]; exact (List.getElem?_eq_some_iff.1 hu).1
    have hne : sc ≠ i + 1 := fun e => by
      have : n ≤ i + 1 := by rw [← HN.out, ← e]; exact hcap.1
      rw [Nat.sub_eq_zero_of_le this, Nat.zero_mul] at hj
      omega
    have hAE := hAD
    rw [if_neg hne] at hAE
    rw [← Option.some.inj hAE, Addr.add_lit]
    refine (hW.cell (p := ⟨g, (i + 1) * 5 + j, none⟩) hgl).trans (hcell.out _ u ?_)
    have e1 : (frCells ((p.way x).take (i + 1))).length = (i + 1) * 5 := by rw [frCells_length, List.length_take]; omega
    rw [← List.take_append_drop (i + 1) (p.way x), frCells_append, List.getElem?_append_right (by rw [e1]; omega), e1, Nat.add_sub_cancel_left]
    exact hu
  rw [hn] at cs hsv hl hi
  rw [hn] at hcap
  have SV := hide hsv
  have hi0' : (0 : Int) ≤ (i : Int) := by omega
  have hs1 : (0 : Int) ≤ (i : Int) + 1 := by omega
  have hs2 : (i : Int) + 1 ≤ (n : Int) := by omega
  have hs3 : (n : Int) ≤ (sc : Int) := by omega
  have hs4 : ((i : Int) + 1).toNat = i + 1 := by omega
  have hs5 : (i : Int) ≤ (sc : Int) := by omega
  have hs6 : n ≤ sc := hcap.1
  have hs7 : sc ≤ 9223372036854775807 := hcap.2
  have hs8 : IntKind.i64.wrap ((i : Int) + 1) = (i : Int) + 1 := by rw [IntKind.wrap_i64]; omega
  have hs9 : ¬ ((i : Int) + 1 < 0) := by omega
  have hs10 : ¬ ((n : Int) < (i : Int) + 1) := by omega
  have hkc1 : i + 1 ≤ sc := by omega
  have hkc2 : i ≤ sc := by omega
  have hkc3 : i + 1 ≤ n := by omega
  have hkc4 : (sc : Int) ≤ 9223372036854775807 := by omega
  clear hP hk ho hrow hsv hn hcell
  refine wp_region_last 27 rfl (by kernel_rfl) rfl rfl (by kernel_rfl) ?_
  intro ops' hops'
  simp only [idle, List.setIfInBounds_toArray, List.set_cons_succ, List.set_cons_zero] at hops'
  subst hops'
  refine wpAny_of_held (S := (fun w' => w'.cell? ⟨G.pb, 1, none⟩ = some (sl2 G.wb) ∧ w'.cell? ⟨G.wb, k, none⟩ = some (.slice (some ⟨g, 0, none⟩) n sc))) _ _ _ _ ?_
  have hHeld : ((fun w' => w'.cell? ⟨G.pb, 1, none⟩ = some (sl2 G.wb) ∧ w'.cell? ⟨G.wb, k, none⟩ = some (.slice (some ⟨g, 0, none⟩) n sc))) wq.drew := ⟨c1, cs⟩
  refine takeIn 0 (v := ?_) rfl (by kernel_rfl) (by kernel_rfl) (by kernel_rfl) (fun _ _ _ h => h) rfl ?_ hHeld ?_
  rotate_left
  · intro w hSw; (try dsimp only at hSw); first | (go_simp; done) | (go_simp; with_reducible rfl) | with_reducible rfl
  try simp only [Act.put, List.setIfInBounds_toArray, List.set_cons_zero, List.set_cons_succ]
  refine takeIn 1 (v := ?_) rfl (by kernel_rfl) (by kernel_rfl) (by kernel_rfl) (fun _ _ _ h => h) rfl ?_ hHeld ?_
  rotate_left
  · intro w hSw; (try dsimp only at hSw); first | (go_simp; done) | (go_simp; with_reducible rfl) | with_reducible rfl
  try simp only [Act.put, List.setIfInBounds_toArray, List.set_cons_zero, List.set_cons_succ]
  refine takeIn 2 (v := ?_) rfl (by kernel_rfl) (by kernel_rfl) (by kernel_rfl) (fun _ _ _ h => h) rfl ?_ hHeld ?_
  rotate_left
  · intro w hSw; (try dsimp only at hSw); first | (go_simp; done) | (go_simp; with_reducible rfl) | with_reducible rfl
  try simp only [Act.put, List.setIfInBounds_toArray, List.set_cons_zero, List.set_cons_succ]
  refine takeIn 3 (v := ?_) rfl (by kernel_rfl) (by kernel_rfl) (by kernel_rfl) (fun _ _ _ h => h) rfl ?_ hHeld ?_
  rotate_left
  · intro w hSw; (try dsimp only at hSw); first | (go_simp; done) | (go_simp; with_reducible rfl) | with_reducible rfl
  try simp only [Act.put, List.setIfInBounds_toArray, List.set_cons_zero, List.set_cons_succ]
  refine takeIn 4 (v := ?_) rfl (by kernel_rfl) (by kernel_rfl) (by kernel_rfl) (fun _ _ _ h => h) rfl ?_ hHeld ?_
  rotate_left
  · intro w hSw; (try dsimp only at hSw); first | (go_simp; done) | (go_simp; with_reducible rfl) | with_reducible rfl
  try simp only [Act.put, List.setIfInBounds_toArray, List.set_cons_zero, List.set_cons_succ]
  refine takeIn 5 (v := ?_) rfl (by kernel_rfl) (by kernel_rfl) (by kernel_rfl) (fun _ _ _ h => h) rfl ?_ hHeld ?_
  rotate_left
  · intro w hSw; (try dsimp only at hSw); first | (go_simp; done) | (go_simp; with_reducible rfl) | with_reducible rfl
  try simp only [Act.put, List.setIfInBounds_toArray, List.set_cons_zero, List.set_cons_succ]
  refine takeIn 6 (v := ?_) rfl (by kernel_rfl) (by kernel_rfl) (by kernel_rfl) (fun _ _ _ h => h) rfl ?_ hHeld ?_
  rotate_left
  · intro w hSw; (try dsimp only at hSw); first | (go_simp; done) | (go_simp; with_reducible rfl) | with_reducible rfl
  try simp only [Act.put, List.setIfInBounds_toArray, List.set_cons_zero, List.set_cons_succ]
  refine takeIn 7 (v := ?_) rfl (by kernel_rfl) (by kernel_rfl) (by kernel_rfl) (fun _ _ _ h => h) rfl ?_ hHeld ?_
  rotate_left
  · intro w hSw; (try dsimp only at hSw); first | (go_simp; done) | (go_simp; with_reducible rfl) | with_reducible rfl
  try simp only [Act.put, List.setIfInBounds_toArray, List.set_cons_zero, List.set_cons_succ]
  refine takeIn 8 (v := ?_) rfl (by kernel_rfl) (by kernel_rfl) (by kernel_rfl) (fun _ _ _ h => h) rfl ?_ hHeld ?_
  rotate_left
  · intro w hSw; (try dsimp only at hSw); first | (go_simp; done) | (go_simp; with_reducible rfl) | with_reducible rfl
  try simp only [Act.put, List.setIfInBounds_toArray, List.set_cons_zero, List.set_cons_succ]
  refine takeIn 9 (v := ?_) rfl (by kernel_rfl) (by kernel_rfl) (by kernel_rfl) (fun _ _ _ h => h) rfl ?_ hHeld ?_
  rotate_left
  · intro w hSw; (try dsimp only at hSw); first | (go_simp; done) | (go_simp; with_reducible rfl) | with_reducible rfl
  try simp only [Act.put, List.setIfInBounds_toArray, List.set_cons_zero, List.set_cons_succ]
  refine takeIn 10 (v := ?_) rfl (by kernel_rfl) (by kernel_rfl) (by kernel_rfl) (fun _ _ _ h => h) rfl ?_ hHeld ?_
  rotate_left
  · intro w hSw; (try dsimp only at hSw); first | (go_simp; done) | (go_simp; with_reducible rfl) | with_reducible rfl
  try simp only [Act.put, List.setIfInBounds_toArray, List.set_cons_zero, List.set_cons_succ]
  refine takeIn 11 (v := ?_) rfl (by kernel_rfl) (by kernel_rfl) (by kernel_rfl) (fun _ _ _ h => h) rfl ?_ hHeld ?_
  rotate_left
  · intro w hSw; (try dsimp only at hSw); first | (go_simp; done) | (go_simp; with_reducible rfl) | with_reducible rfl
  try simp only [Act.put, List.setIfInBounds_toArray, List.set_cons_zero, List.set_cons_succ]
  refine takeIn 12 (v := ?_) rfl (by kernel_rfl) (by kernel_rfl) (by kernel_rfl) (fun _ _ _ h => h) rfl ?_ hHeld ?_
  rotate_left
  · intro w hSw; (try dsimp only at hSw); first | (go_simp; done) | (go_simp; with_reducible rfl) | with_reducible rfl
  try simp only [Act.put, List.setIfInBounds_toArray, List.set_cons_zero, List.set_cons_succ]
  refine takeIn 13 (v := ?_) rfl (by kernel_rfl) (by kernel_rfl) (by kernel_rfl) (fun _ _ _ h => h) rfl ?_ hHeld ?_
  rotate_left
  · intro w hSw; (try dsimp only at hSw); first | (go_simp; done) | (go_simp; with_reducible rfl) | with_reducible rfl
  try simp only [Act.put, List.setIfInBounds_toArray, List.set_cons_zero, List.set_cons_succ]
  refine takeIn 15 (v := ?_) rfl (by kernel_rfl) (by kernel_rfl) (by kernel_rfl) (fun _ _ _ h => h) rfl ?_ hHeld ?_
  rotate_left
  · intro w hSw; (try dsimp only at hSw); first | (go_simp; done) | (go_simp; with_reducible rfl) | with_reducible rfl
  try simp only [Act.put, List.setIfInBounds_toArray, List.set_cons_zero, List.set_cons_succ]
  refine takeIn 16 (v := ?_) rfl (by kernel_rfl) (by kernel_rfl) (by kernel_rfl) (fun _ _ _ h => h) rfl ?_ hHeld ?_
  rotate_left
  · intro w hSw; (try dsimp only at hSw); first | (go_simp; done) | (go_simp; with_reducible rfl) | with_reducible rfl
  try simp only [Act.put, List.setIfInBounds_toArray, List.set_cons_zero, List.set_cons_succ]
  refine takeIn 17 (v := ?_) rfl (by kernel_rfl) (by kernel_rfl) (by kernel_rfl) (fun _ _ _ h => h) rfl ?_ hHeld ?_
  rotate_left
  · intro w hSw; (try dsimp only at hSw); first | (go_simp; done) | (go_simp; with_reducible rfl) | with_reducible rfl
  try simp only [Act.put, List.setIfInBounds_toArray, List.set_cons_zero, List.set_cons_succ]
  refine takeIn 18 (v := ?_) rfl (by kernel_rfl) (by kernel_rfl) (by kernel_rfl) (fun _ _ _ h => h) rfl ?_ hHeld ?_
  rotate_left
  · intro w hSw; (try dsimp only at hSw); first | (go_simp; done) | (go_simp; with_reducible rfl) | with_reducible rfl
  try simp only [Act.put, List.setIfInBounds_toArray, List.set_cons_zero, List.set_cons_succ]
  refine takeIn 19 (v := ?_) rfl (by kernel_rfl) (by kernel_rfl) (by kernel_rfl) (fun _ _ _ h => h) rfl ?_ hHeld ?_
  rotate_left
  · intro w hSw; (try dsimp only at hSw); first | (go_simp; done) | (go_simp; with_reducible rfl) | with_reducible rfl
  try simp only [Act.put, List.setIfInBounds_toArray, List.set_cons_zero, List.set_cons_succ]
  refine takeIn 20 (v := ?_) rfl (by kernel_rfl) (by kernel_rfl) (by kernel_rfl) (fun _ _ _ h => h) rfl ?_ hHeld ?_
  rotate_left
  · intro w hSw; (try dsimp only at hSw); first | (go_simp; done) | (go_simp; with_reducible rfl) | with_reducible rfl
  try simp only [Act.put, List.setIfInBounds_toArray, List.set_cons_zero, List.set_cons_succ]
  refine takeIn 21 (v := ?_) rfl (by kernel_rfl) (by kernel_rfl) (by kernel_rfl) (fun _ _ _ h => h) rfl ?_ hHeld ?_
  rotate_left
  · intro w hSw; (try dsimp only at hSw); first | (go_simp; done) | (go_simp; with_reducible rfl) | with_reducible rfl
  try simp only [Act.put, List.setIfInBounds_toArray, List.set_cons_zero, List.set_cons_succ]
  refine takeIn 22 (v := ?_) rfl (by kernel_rfl) (by kernel_rfl) (by kernel_rfl) (fun _ _ _ h => h) rfl ?_ hHeld ?_
  rotate_left
  · intro w hSw; (try dsimp only at hSw); first | (go_simp; done) | (go_simp; with_reducible rfl) | with_reducible rfl
  try simp only [Act.put, List.setIfInBounds_toArray, List.set_cons_zero, List.set_cons_succ]
  refine takeIn 23 (v := ?_) rfl (by kernel_rfl) (by kernel_rfl) (by kernel_rfl) (fun _ _ _ h => h) rfl ?_ hHeld ?_
  rotate_left
  · intro w hSw; (try dsimp only at hSw); first | (go_simp; done) | (go_simp; with_reducible rfl) | with_reducible rfl
  try simp only [Act.put, List.setIfInBounds_toArray, List.set_cons_zero, List.set_cons_succ]
  refine takeIn 24 (v := ?_) rfl (by kernel_rfl) (by kernel_rfl) (by kernel_rfl) (fun _ _ _ h => h) rfl ?_ hHeld ?_
  rotate_left
  · intro w hSw; (try dsimp only at hSw); first | (go_simp; done) | (go_simp; with_reducible rfl) | with_reducible rfl
  try simp only [Act.put, List.setIfInBounds_toArray, List.set_cons_zero, List.set_cons_succ]
  refine stepIn 14 rfl (by kernel_rfl) (fun K hK => ?_)
  refine step_append_at rfl _ _ 38 rfl B 31 i0 _ 5 48 Try.underlying38 hi0 hz0 hz1 hz2 rfl (by omega) (.slice none 0 0) 0 [] rfl (World.ownsRow_nil _ _ _ _) ⟨g, 0, none⟩ i sc (frCells ((p.way x).take i)) rfl L1.out HN1.out (frCells_ones _) (by unfold maxLen; omega) (by omega) HP.out.pa.size ?_
  intro a5 c5 w5 hown5 hgrow5 hloc5
  have B5 : Hid (Below wq.heap.size wq w5) := ⟨hgrow5.os, hgrow5.tape, hgrow5.output, hgrow5.size, fun j hj => hgrow5.block j hj (by simp [Value.ownBlock])⟩
  have P5 := hide (HP.out.below B5.out)
  refine hK.out _ _ ⟨P5.out.pa.cp.2.1, by rw [HX.out, ← SV.out]; exact P5.out.pa.cw x⟩ (fun hHeldx => ?_)
  clear hK K hHeld
  have hHeld := hHeldx
  clear hHeldx
  try simp only [Act.put, List.setIfInBounds_toArray, List.set_cons_zero, List.set_cons_succ]
  refine stepIn 25 rfl (by kernel_rfl) (fun K hK => ?_)
  refine step_append_at rfl _ _ 38 rfl B 31 i0 _ 5 48 Try.underlying38 hi0 hz0 hz1 hz2 rfl (by omega) (.slice a5 (0 + i) c5) (0 + i) ([] ++ frCells ((p.way x).take i)) rfl hown5 AD (n - (i + 1)) (sc - (i + 1)) (frCells ((p.way x).drop (i + 1))) rfl L2.out (fun j u hu => HA2.out w5 B5.out j u hu) (frCells_ones _) (by unfold maxLen; omega) (by omega) P5.out.pa.size ?_
  intro a6 c6 w6 hown6 hgrow6 hloc6
  have NB6 : ∀ j, (Value.slice a5 (0 + i) c5).ownBlock = some j → wq.heap.size ≤ j := fun j e => by
    rcases hloc5 with h | h
    · rw [h] at e; cases e
    · rw [h] at e; exact Nat.le_of_eq (Option.some.inj e)
  have T6 : Hid (Touch (fun j => wq.heap.size ≤ j) wq w6) := (Touch.of_below B5.out).grown hgrow6 fun j e _ => NB6 j e
  have P6 := hide (HP.out.pa.keep T6.out (fun j h1 h2 => by omega) (fun j h1 h2 => absurd h2 (Nat.not_lt.2 h1)))
  have F6 := hide P6.out.wbox
  have qf := box_free F6.out k
  have q6 : w6.cell? ⟨G.wb, k, none⟩ = some (.slice (some ⟨g, 0, none⟩) n sc) := by rw [HX.out, ← SV.out]; exact P6.out.cw x
  refine hK.out _ _ ⟨P6.out.cp.2.1, q6⟩ (fun hHeldx => ?_)
  clear hK K hHeld
  have hHeld := hHeldx
  clear hHeldx
  try simp only [Act.put, List.setIfInBounds_toArray, List.set_cons_zero, List.set_cons_succ]
  refine takeIn 26 (v := ?_) rfl (by kernel_rfl) (by kernel_rfl) (by kernel_rfl) (fun _ _ _ h => h) rfl ?_ hHeld ?_
  rotate_left
  · intro w hSw; (try dsimp only at hSw); first | (go_simp; done) | (go_simp; with_reducible rfl) | with_reducible rfl
  try simp only [Act.put, List.setIfInBounds_toArray, List.set_cons_zero, List.set_cons_succ]
  refine takeIn 27 (v := ?_) rfl (by kernel_rfl) (by kernel_rfl) (by kernel_rfl) (fun _ _ _ h => h) rfl ?_ hHeld ?_
  rotate_left
  · intro w hSw; (try dsimp only at hSw); first | (go_simp; done) | (go_simp; with_reducible rfl) | with_reducible rfl
  try simp only [Act.put, List.setIfInBounds_toArray, List.set_cons_zero, List.set_cons_succ]
  refine wpAnyH_done (by kernel_rfl) ?_ _
  intro K hK
  go_simp
  refine hK _ _ ?_
  clear hK K hHeld
  have hne6 : 0 + i + (n - (i + 1)) = i + (n - (i + 1)) := by omega
  have hlen : ((p.way x).take i ++ (p.way x).drop (i + 1)).length = i + (n - (i + 1)) := by rw [List.length_append, List.length_take, List.length_drop, HN.out]; omega
  have R6 : Hid (w6.ownsRow B 31 5 (.slice a6 (i + (n - (i + 1))) c6) (i + (n - (i + 1))) (frCells ((p.way x).take i ++ (p.way x).drop (i + 1)))) := by
    have h1 := hown6
    rw [hne6, List.nil_append, ← frCells_append] at h1
    exact h1
  have NV : ∀ j, (Value.slice a6 (i + (n - (i + 1))) c6).ownBlock = some j → wq.heap.size ≤ j := fun j e => by
    rcases hloc6 with h | h
    · rw [hne6] at h; exact NB6 j (h ▸ e)
    · rw [hne6] at h; rw [h] at e
      have h2 := Option.some.inj e
      have h3 := B5.out.size
      omega
  have T7 : Touch (fun j => r j = 3 ∨ r j = 10 + ix x) wq w6 := T6.out.mono fun j h1 h2 => by omega
  have B7 := box_set F6.out k (.slice a6 (i + (n - (i + 1))) c6)
  have PP := HP.out.ways (w' := w6.setCell ⟨G.wb, k, none⟩ (.slice a6 (i + (n - (i + 1))) c6)) x (v' := .slice a6 (i + (n - (i + 1))) c6) (L := (p.way x).take i ++ (p.way x).drop (i + 1)) (T7.setCell _ _ fun _ => .inl HP.out.pa.rw) (by rw [B7, HX.out, two_set]) ?_ (fun j e => .inr (NV j e))
  · refine HQ.out _ _ (.slice a6 (i + (n - (i + 1))) c6) _ ⟨rfl, rfl, rfl, rfl, rfl, rfl, rfl, rfl, rfl, rfl, rfl, rfl⟩ PP.1 (fun j h1 h2 => ⟨by rw [upd_old h2]; exact h1, ?_⟩) PP.2
    rw [Below.heap_setCell _ _ _ _ (fun e => by have h3 := HP.out.pa.rw; have h4 : j = G.wb := e; rw [← h4, h1] at h3; omega)]
    exact T6.out.block j h2 (by omega)
  · rw [hlen]
    refine set_row R6.out G.wb _ _ (fun e => ?_)
    have h1 := NV G.wb e
    have h2 := heap_lt HP.out.pa.wbox
    omega
end Go.Proofs.Ythgfijmpofbchaa
