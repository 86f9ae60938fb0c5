/-
  OrderPlays' regions, the first (mkpl.py).
-/
import Derived.Test.YtjgbgbgajadgnaaZPF
import Derived.Test.YtjgbgbgajadgnaaZTK
import Derived.Laws.StructEq
namespace Go.Proofs.Ytjgbgbgajadgnaa
open Go.RowKit

attribute [local go_sem ↓] Go.wp_at_zero Go.wp_at_succ
set_option linter.unusedSimpArgs false
set_option linter.unusedVariables false
set_option maxRecDepth 100000 in
theorem frame_pl (t : Array Value) (h : t.size = 257) : ∃ u : Nat → Value, t = List.toArray (u 0 :: u 1 :: u 2 :: u 3 :: u 4 :: u 5 :: u 6 :: u 7 :: u 8 :: u 9 :: u 10 :: u 11 :: u 12 :: u 13 :: u 14 :: u 15 :: u 16 :: u 17 :: u 18 :: u 19 :: u 20 :: u 21 :: u 22 :: u 23 :: u 24 :: u 25 :: u 26 :: u 27 :: u 28 :: u 29 :: u 30 :: u 31 :: u 32 :: u 33 :: u 34 :: u 35 :: u 36 :: u 37 :: u 38 :: u 39 :: u 40 :: u 41 :: u 42 :: u 43 :: u 44 :: u 45 :: u 46 :: u 47 :: u 48 :: u 49 :: u 50 :: u 51 :: u 52 :: u 53 :: u 54 :: u 55 :: u 56 :: u 57 :: u 58 :: u 59 :: u 60 :: u 61 :: u 62 :: u 63 :: u 64 :: u 65 :: u 66 :: u 67 :: u 68 :: u 69 :: u 70 :: u 71 :: u 72 :: u 73 :: u 74 :: u 75 :: u 76 :: u 77 :: u 78 :: u 79 :: u 80 :: u 81 :: u 82 :: u 83 :: u 84 :: u 85 :: u 86 :: u 87 :: u 88 :: u 89 :: u 90 :: u 91 :: u 92 :: u 93 :: u 94 :: u 95 :: u 96 :: u 97 :: u 98 :: u 99 :: u 100 :: u 101 :: u 102 :: u 103 :: u 104 :: u 105 :: u 106 :: u 107 :: u 108 :: u 109 :: u 110 :: u 111 :: u 112 :: u 113 :: u 114 :: u 115 :: u 116 :: u 117 :: u 118 :: u 119 :: u 120 :: u 121 :: u 122 :: u 123 :: u 124 :: u 125 :: u 126 :: u 127 :: u 128 :: u 129 :: u 130 :: u 131 :: u 132 :: u 133 :: u 134 :: u 135 :: u 136 :: u 137 :: u 138 :: u 139 :: u 140 :: u 141 :: u 142 :: u 143 :: u 144 :: u 145 :: u 146 :: u 147 :: u 148 :: u 149 :: u 150 :: u 151 :: u 152 :: u 153 :: u 154 :: u 155 :: u 156 :: u 157 :: u 158 :: u 159 :: u 160 :: u 161 :: u 162 :: u 163 :: u 164 :: u 165 :: u 166 :: u 167 :: u 168 :: u 169 :: u 170 :: u 171 :: u 172 :: u 173 :: u 174 :: u 175 :: u 176 :: u 177 :: u 178 :: u 179 :: u 180 :: u 181 :: u 182 :: u 183 :: u 184 :: u 185 :: u 186 :: u 187 :: u 188 :: u 189 :: u 190 :: u 191 :: u 192 :: u 193 :: u 194 :: u 195 :: u 196 :: u 197 :: u 198 :: u 199 :: u 200 :: u 201 :: u 202 :: u 203 :: u 204 :: u 205 :: u 206 :: u 207 :: u 208 :: u 209 :: u 210 :: u 211 :: u 212 :: u 213 :: u 214 :: u 215 :: u 216 :: u 217 :: u 218 :: u 219 :: u 220 :: u 221 :: u 222 :: u 223 :: u 224 :: u 225 :: u 226 :: u 227 :: u 228 :: u 229 :: u 230 :: u 231 :: u 232 :: u 233 :: u 234 :: u 235 :: u 236 :: u 237 :: u 238 :: u 239 :: u 240 :: u 241 :: u 242 :: u 243 :: u 244 :: u 245 :: u 246 :: u 247 :: u 248 :: u 249 :: u 250 :: u 251 :: u 252 :: u 253 :: u 254 :: u 255 :: u 256 :: []) := by
  refine ⟨fun i => t.getD i undef, ?_⟩
  have e : (List.toArray ((fun i => t.getD i undef) 0 :: (fun i => t.getD i undef) 1 :: (fun i => t.getD i undef) 2 :: (fun i => t.getD i undef) 3 :: (fun i => t.getD i undef) 4 :: (fun i => t.getD i undef) 5 :: (fun i => t.getD i undef) 6 :: (fun i => t.getD i undef) 7 :: (fun i => t.getD i undef) 8 :: (fun i => t.getD i undef) 9 :: (fun i => t.getD i undef) 10 :: (fun i => t.getD i undef) 11 :: (fun i => t.getD i undef) 12 :: (fun i => t.getD i undef) 13 :: (fun i => t.getD i undef) 14 :: (fun i => t.getD i undef) 15 :: (fun i => t.getD i undef) 16 :: (fun i => t.getD i undef) 17 :: (fun i => t.getD i undef) 18 :: (fun i => t.getD i undef) 19 :: (fun i => t.getD i undef) 20 :: (fun i => t.getD i undef) 21 :: (fun i => t.getD i undef) 22 :: (fun i => t.getD i undef) 23 :: (fun i => t.getD i undef) 24 :: (fun i => t.getD i undef) 25 :: (fun i => t.getD i undef) 26 :: (fun i => t.getD i undef) 27 :: (fun i => t.getD i undef) 28 :: (fun i => t.getD i undef) 29 :: (fun i => t.getD i undef) 30 :: (fun i => t.getD i undef) 31 :: (fun i => t.getD i undef) 32 :: (fun i => t.getD i undef) 33 :: (fun i => t.getD i undef) 34 :: (fun i => t.getD i undef) 35 :: (fun i => t.getD i undef) 36 :: (fun i => t.getD i undef) 37 :: (fun i => t.getD i undef) 38 :: (fun i => t.getD i undef) 39 :: (fun i => t.getD i undef) 40 :: (fun i => t.getD i undef) 41 :: (fun i => t.getD i undef) 42 :: (fun i => t.getD i undef) 43 :: (fun i => t.getD i undef) 44 :: (fun i => t.getD i undef) 45 :: (fun i => t.getD i undef) 46 :: (fun i => t.getD i undef) 47 :: (fun i => t.getD i undef) 48 :: (fun i => t.getD i undef) 49 :: (fun i => t.getD i undef) 50 :: (fun i => t.getD i undef) 51 :: (fun i => t.getD i undef) 52 :: (fun i => t.getD i undef) 53 :: (fun i => t.getD i undef) 54 :: (fun i => t.getD i undef) 55 :: (fun i => t.getD i undef) 56 :: (fun i => t.getD i undef) 57 :: (fun i => t.getD i undef) 58 :: (fun i => t.getD i undef) 59 :: (fun i => t.getD i undef) 60 :: (fun i => t.getD i undef) 61 :: (fun i => t.getD i undef) 62 :: (fun i => t.getD i undef) 63 :: (fun i => t.getD i undef) 64 :: (fun i => t.getD i undef) 65 :: (fun i => t.getD i undef) 66 :: (fun i => t.getD i undef) 67 :: (fun i => t.getD i undef) 68 :: (fun i => t.getD i undef) 69 :: (fun i => t.getD i undef) 70 :: (fun i => t.getD i undef) 71 :: (fun i => t.getD i undef) 72 :: (fun i => t.getD i undef) 73 :: (fun i => t.getD i undef) 74 :: (fun i => t.getD i undef) 75 :: (fun i => t.getD i undef) 76 :: (fun i => t.getD i undef) 77 :: (fun i => t.getD i undef) 78 :: (fun i => t.getD i undef) 79 :: (fun i => t.getD i undef) 80 :: (fun i => t.getD i undef) 81 :: (fun i => t.getD i undef) 82 :: (fun i => t.getD i undef) 83 :: (fun i => t.getD i undef) 84 :: (fun i => t.getD i undef) 85 :: (fun i => t.getD i undef) 86 :: (fun i => t.getD i undef) 87 :: (fun i => t.getD i undef) 88 :: (fun i => t.getD i undef) 89 :: (fun i => t.getD i undef) 90 :: (fun i => t.getD i undef) 91 :: (fun i => t.getD i undef) 92 :: (fun i => t.getD i undef) 93 :: (fun i => t.getD i undef) 94 :: (fun i => t.getD i undef) 95 :: (fun i => t.getD i undef) 96 :: (fun i => t.getD i undef) 97 :: (fun i => t.getD i undef) 98 :: (fun i => t.getD i undef) 99 :: (fun i => t.getD i undef) 100 :: (fun i => t.getD i undef) 101 :: (fun i => t.getD i undef) 102 :: (fun i => t.getD i undef) 103 :: (fun i => t.getD i undef) 104 :: (fun i => t.getD i undef) 105 :: (fun i => t.getD i undef) 106 :: (fun i => t.getD i undef) 107 :: (fun i => t.getD i undef) 108 :: (fun i => t.getD i undef) 109 :: (fun i => t.getD i undef) 110 :: (fun i => t.getD i undef) 111 :: (fun i => t.getD i undef) 112 :: (fun i => t.getD i undef) 113 :: (fun i => t.getD i undef) 114 :: (fun i => t.getD i undef) 115 :: (fun i => t.getD i undef) 116 :: (fun i => t.getD i undef) 117 :: (fun i => t.getD i undef) 118 :: (fun i => t.getD i undef) 119 :: (fun i => t.getD i undef) 120 :: (fun i => t.getD i undef) 121 :: (fun i => t.getD i undef) 122 :: (fun i => t.getD i undef) 123 :: (fun i => t.getD i undef) 124 :: (fun i => t.getD i undef) 125 :: (fun i => t.getD i undef) 126 :: (fun i => t.getD i undef) 127 :: (fun i => t.getD i undef) 128 :: (fun i => t.getD i undef) 129 :: (fun i => t.getD i undef) 130 :: (fun i => t.getD i undef) 131 :: (fun i => t.getD i undef) 132 :: (fun i => t.getD i undef) 133 :: (fun i => t.getD i undef) 134 :: (fun i => t.getD i undef) 135 :: (fun i => t.getD i undef) 136 :: (fun i => t.getD i undef) 137 :: (fun i => t.getD i undef) 138 :: (fun i => t.getD i undef) 139 :: (fun i => t.getD i undef) 140 :: (fun i => t.getD i undef) 141 :: (fun i => t.getD i undef) 142 :: (fun i => t.getD i undef) 143 :: (fun i => t.getD i undef) 144 :: (fun i => t.getD i undef) 145 :: (fun i => t.getD i undef) 146 :: (fun i => t.getD i undef) 147 :: (fun i => t.getD i undef) 148 :: (fun i => t.getD i undef) 149 :: (fun i => t.getD i undef) 150 :: (fun i => t.getD i undef) 151 :: (fun i => t.getD i undef) 152 :: (fun i => t.getD i undef) 153 :: (fun i => t.getD i undef) 154 :: (fun i => t.getD i undef) 155 :: (fun i => t.getD i undef) 156 :: (fun i => t.getD i undef) 157 :: (fun i => t.getD i undef) 158 :: (fun i => t.getD i undef) 159 :: (fun i => t.getD i undef) 160 :: (fun i => t.getD i undef) 161 :: (fun i => t.getD i undef) 162 :: (fun i => t.getD i undef) 163 :: (fun i => t.getD i undef) 164 :: (fun i => t.getD i undef) 165 :: (fun i => t.getD i undef) 166 :: (fun i => t.getD i undef) 167 :: (fun i => t.getD i undef) 168 :: (fun i => t.getD i undef) 169 :: (fun i => t.getD i undef) 170 :: (fun i => t.getD i undef) 171 :: (fun i => t.getD i undef) 172 :: (fun i => t.getD i undef) 173 :: (fun i => t.getD i undef) 174 :: (fun i => t.getD i undef) 175 :: (fun i => t.getD i undef) 176 :: (fun i => t.getD i undef) 177 :: (fun i => t.getD i undef) 178 :: (fun i => t.getD i undef) 179 :: (fun i => t.getD i undef) 180 :: (fun i => t.getD i undef) 181 :: (fun i => t.getD i undef) 182 :: (fun i => t.getD i undef) 183 :: (fun i => t.getD i undef) 184 :: (fun i => t.getD i undef) 185 :: (fun i => t.getD i undef) 186 :: (fun i => t.getD i undef) 187 :: (fun i => t.getD i undef) 188 :: (fun i => t.getD i undef) 189 :: (fun i => t.getD i undef) 190 :: (fun i => t.getD i undef) 191 :: (fun i => t.getD i undef) 192 :: (fun i => t.getD i undef) 193 :: (fun i => t.getD i undef) 194 :: (fun i => t.getD i undef) 195 :: (fun i => t.getD i undef) 196 :: (fun i => t.getD i undef) 197 :: (fun i => t.getD i undef) 198 :: (fun i => t.getD i undef) 199 :: (fun i => t.getD i undef) 200 :: (fun i => t.getD i undef) 201 :: (fun i => t.getD i undef) 202 :: (fun i => t.getD i undef) 203 :: (fun i => t.getD i undef) 204 :: (fun i => t.getD i undef) 205 :: (fun i => t.getD i undef) 206 :: (fun i => t.getD i undef) 207 :: (fun i => t.getD i undef) 208 :: (fun i => t.getD i undef) 209 :: (fun i => t.getD i undef) 210 :: (fun i => t.getD i undef) 211 :: (fun i => t.getD i undef) 212 :: (fun i => t.getD i undef) 213 :: (fun i => t.getD i undef) 214 :: (fun i => t.getD i undef) 215 :: (fun i => t.getD i undef) 216 :: (fun i => t.getD i undef) 217 :: (fun i => t.getD i undef) 218 :: (fun i => t.getD i undef) 219 :: (fun i => t.getD i undef) 220 :: (fun i => t.getD i undef) 221 :: (fun i => t.getD i undef) 222 :: (fun i => t.getD i undef) 223 :: (fun i => t.getD i undef) 224 :: (fun i => t.getD i undef) 225 :: (fun i => t.getD i undef) 226 :: (fun i => t.getD i undef) 227 :: (fun i => t.getD i undef) 228 :: (fun i => t.getD i undef) 229 :: (fun i => t.getD i undef) 230 :: (fun i => t.getD i undef) 231 :: (fun i => t.getD i undef) 232 :: (fun i => t.getD i undef) 233 :: (fun i => t.getD i undef) 234 :: (fun i => t.getD i undef) 235 :: (fun i => t.getD i undef) 236 :: (fun i => t.getD i undef) 237 :: (fun i => t.getD i undef) 238 :: (fun i => t.getD i undef) 239 :: (fun i => t.getD i undef) 240 :: (fun i => t.getD i undef) 241 :: (fun i => t.getD i undef) 242 :: (fun i => t.getD i undef) 243 :: (fun i => t.getD i undef) 244 :: (fun i => t.getD i undef) 245 :: (fun i => t.getD i undef) 246 :: (fun i => t.getD i undef) 247 :: (fun i => t.getD i undef) 248 :: (fun i => t.getD i undef) 249 :: (fun i => t.getD i undef) 250 :: (fun i => t.getD i undef) 251 :: (fun i => t.getD i undef) 252 :: (fun i => t.getD i undef) 253 :: (fun i => t.getD i undef) 254 :: (fun i => t.getD i undef) 255 :: (fun i => t.getD i undef) 256 :: []) : Array Value) = ((List.range 257).map fun i => t.getD i undef).toArray := rfl
  refine Eq.trans ?_ e.symm
  apply Array.ext
  · simp [h]
  · intro k h1 h2
    simp [Array.getD, h1]
/-- The slots that matter. -/
structure Vpl where
  v0 : Value
  v1 : Value
  v2 : Value
  v3 : Value
  v8 : Value
  v9 : Value
  v10 : Value
  v11 : Value
  v12 : Value
  v13 : Value
  v14 : Value
  v15 : Value
  v16 : Value
  v17 : Value
  v18 : Value
  v19 : Value
  v20 : Value
  v21 : Value
  v22 : Value
  v23 : Value
  v24 : Value
  v25 : Value
  v26 : Value
  v27 : Value
  v28 : Value
  v29 : Value
  v30 : Value
  v31 : Value
  v106 : Value
structure Fpl (a : Act) (v : Vpl) : Prop where
  size : a.tmps.size = 257
  defers : a.defers = []
  s0 : a.tmps.getD 0 undef = v.v0
  s1 : a.tmps.getD 1 undef = v.v1
  s2 : a.tmps.getD 2 undef = v.v2
  s3 : a.tmps.getD 3 undef = v.v3
  s8 : a.tmps.getD 8 undef = v.v8
  s9 : a.tmps.getD 9 undef = v.v9
  s10 : a.tmps.getD 10 undef = v.v10
  s11 : a.tmps.getD 11 undef = v.v11
  s12 : a.tmps.getD 12 undef = v.v12
  s13 : a.tmps.getD 13 undef = v.v13
  s14 : a.tmps.getD 14 undef = v.v14
  s15 : a.tmps.getD 15 undef = v.v15
  s16 : a.tmps.getD 16 undef = v.v16
  s17 : a.tmps.getD 17 undef = v.v17
  s18 : a.tmps.getD 18 undef = v.v18
  s19 : a.tmps.getD 19 undef = v.v19
  s20 : a.tmps.getD 20 undef = v.v20
  s21 : a.tmps.getD 21 undef = v.v21
  s22 : a.tmps.getD 22 undef = v.v22
  s23 : a.tmps.getD 23 undef = v.v23
  s24 : a.tmps.getD 24 undef = v.v24
  s25 : a.tmps.getD 25 undef = v.v25
  s26 : a.tmps.getD 26 undef = v.v26
  s27 : a.tmps.getD 27 undef = v.v27
  s28 : a.tmps.getD 28 undef = v.v28
  s29 : a.tmps.getD 29 undef = v.v29
  s30 : a.tmps.getD 30 undef = v.v30
  s31 : a.tmps.getD 31 undef = v.v31
  s106 : a.tmps.getD 106 undef = v.v106
set_option maxHeartbeats 8000000 in
set_option maxRecDepth 100000 in
theorem pl_r0 {K : Act → World → Prop} {c : Code} (hc : regOf (Try.f3.body.getD .skip) 0 = some c) (a : Act) {v : Vpl} {wq : World}  (hF : Fpl a v) (hQ : ∀ a', Fpl a' { v with v8 := .bool false } → K a' wq) :
    Code.wp Try.prog c (Exit.then K fun _ _ _ => False) a wq := by
  have HQ := hide hQ
  clear hQ
  obtain ⟨t', d'⟩ := a
  obtain ⟨v0, v1, v2, v3, v8, v9, v10, v11, v12, v13, v14, v15, v16, v17, v18, v19, v20, v21, v22, v23, v24, v25, v26, v27, v28, v29, v30, v31, v106⟩ := v
  obtain ⟨hs1, hd1, q0, q1, q2, q3, q8, q9, q10, q11, q12, q13, q14, q15, q16, q17, q18, q19, q20, q21, q22, q23, q24, q25, q26, q27, q28, q29, q30, q31, q106⟩ := hF
  obtain ⟨u, hu⟩ := frame_pl t' hs1
  simp only at hd1 q0 q1 q2 q3 q8 q9 q10 q11 q12 q13 q14 q15 q16 q17 q18 q19 q20 q21 q22 q23 q24 q25 q26 q27 q28 q29 q30 q31 q106
  subst hu hd1
  have e0 : u 0 = v0 := q0
  have e1 : u 1 = v1 := q1
  have e2 : u 2 = v2 := q2
  have e3 : u 3 = v3 := q3
  have e8 : u 8 = v8 := q8
  have e9 : u 9 = v9 := q9
  have e10 : u 10 = v10 := q10
  have e11 : u 11 = v11 := q11
  have e12 : u 12 = v12 := q12
  have e13 : u 13 = v13 := q13
  have e14 : u 14 = v14 := q14
  have e15 : u 15 = v15 := q15
  have e16 : u 16 = v16 := q16
  have e17 : u 17 = v17 := q17
  have e18 : u 18 = v18 := q18
  have e19 : u 19 = v19 := q19
  have e20 : u 20 = v20 := q20
  have e21 : u 21 = v21 := q21
  have e22 : u 22 = v22 := q22
  have e23 : u 23 = v23 := q23
  have e24 : u 24 = v24 := q24
  have e25 : u 25 = v25 := q25
  have e26 : u 26 = v26 := q26
  have e27 : u 27 = v27 := q27
  have e28 : u 28 = v28 := q28
  have e29 : u 29 = v29 := q29
  have e30 : u 30 = v30 := q30
  have e31 : u 31 = v31 := q31
  have e106 : u 106 = v106 := q106
  rw [e0, e1, e2, e3, e8, e9, e10, e11, e12, e13, e14, e15, e16, e17, e18, e19, e20, e21, e22, e23, e24, e25, e26, e27, e28, e29, e30, e31, e106]
  clear q0 e0 q1 e1 q2 e2 q3 e3 q8 e8 q9 e9 q10 e10 q11 e11 q12 e12 q13 e13 q14 e14 q15 e15 q16 e16 q17 e17 q18 e18 q19 e19 q20 e20 q21 e21 q22 e22 q23 e23 q24 e24 q25 e25 q26 e26 q27 e27 q28 e28 q29 e29 q30 e30 q31 e31 q106 e106 hs1
  simp only [Try.f3, Option.getD_some, regOf] at hc
  injection hc with hc
  subst hc
  go_wp2
  exact HQ.out _ ⟨rfl, rfl, rfl, rfl, rfl, rfl, rfl, rfl, rfl, rfl, rfl, rfl, rfl, rfl, rfl, rfl, rfl, rfl, rfl, rfl, rfl, rfl, rfl, rfl, rfl, rfl, rfl, rfl, rfl, rfl, rfl⟩
set_option maxHeartbeats 8000000 in
set_option maxRecDepth 100000 in
theorem pl_r1 {K : Act → World → Prop} {c : Code} (hc : regOf (Try.f3.body.getD .skip) 1 = some c) (a : Act) {v : Vpl} {wq : World} {R : World → Prop}  (hF : Fpl a v) (hE : Calls Try.prog 7 #[] wq fun e w' => e = .returned (.bool true) ∧ R w')
    (hQ : ∀ a' w1, Fpl a' { v with v9 := .bool true } → R w1 → K a' w1) :
    Code.wp Try.prog c (Exit.then K fun _ _ _ => False) a wq := by
  have HQ := hide hQ
  clear hQ
  obtain ⟨t', d'⟩ := a
  obtain ⟨v0, v1, v2, v3, v8, v9, v10, v11, v12, v13, v14, v15, v16, v17, v18, v19, v20, v21, v22, v23, v24, v25, v26, v27, v28, v29, v30, v31, v106⟩ := v
  obtain ⟨hs1, hd1, q0, q1, q2, q3, q8, q9, q10, q11, q12, q13, q14, q15, q16, q17, q18, q19, q20, q21, q22, q23, q24, q25, q26, q27, q28, q29, q30, q31, q106⟩ := hF
  obtain ⟨u, hu⟩ := frame_pl t' hs1
  simp only at hd1 q0 q1 q2 q3 q8 q9 q10 q11 q12 q13 q14 q15 q16 q17 q18 q19 q20 q21 q22 q23 q24 q25 q26 q27 q28 q29 q30 q31 q106
  subst hu hd1
  have e0 : u 0 = v0 := q0
  have e1 : u 1 = v1 := q1
  have e2 : u 2 = v2 := q2
  have e3 : u 3 = v3 := q3
  have e8 : u 8 = v8 := q8
  have e9 : u 9 = v9 := q9
  have e10 : u 10 = v10 := q10
  have e11 : u 11 = v11 := q11
  have e12 : u 12 = v12 := q12
  have e13 : u 13 = v13 := q13
  have e14 : u 14 = v14 := q14
  have e15 : u 15 = v15 := q15
  have e16 : u 16 = v16 := q16
  have e17 : u 17 = v17 := q17
  have e18 : u 18 = v18 := q18
  have e19 : u 19 = v19 := q19
  have e20 : u 20 = v20 := q20
  have e21 : u 21 = v21 := q21
  have e22 : u 22 = v22 := q22
  have e23 : u 23 = v23 := q23
  have e24 : u 24 = v24 := q24
  have e25 : u 25 = v25 := q25
  have e26 : u 26 = v26 := q26
  have e27 : u 27 = v27 := q27
  have e28 : u 28 = v28 := q28
  have e29 : u 29 = v29 := q29
  have e30 : u 30 = v30 := q30
  have e31 : u 31 = v31 := q31
  have e106 : u 106 = v106 := q106
  rw [e0, e1, e2, e3, e8, e9, e10, e11, e12, e13, e14, e15, e16, e17, e18, e19, e20, e21, e22, e23, e24, e25, e26, e27, e28, e29, e30, e31, e106]
  clear q0 e0 q1 e1 q2 e2 q3 e3 q8 e8 q9 e9 q10 e10 q11 e11 q12 e12 q13 e13 q14 e14 q15 e15 q16 e16 q17 e17 q18 e18 q19 e19 q20 e20 q21 e21 q22 e22 q23 e23 q24 e24 q25 e25 q26 e26 q27 e27 q28 e28 q29 e29 q30 e30 q31 e31 q106 e106 hs1
  simp only [Try.f3, Option.getD_some, regOf] at hc
  injection hc with hc
  subst hc
  have HE := hide hE
  clear hE
  go_wp2_with (go_at_call 7; refine HE.out.mono ?_; rintro e w1 ⟨rfl, r1⟩; have R1 := hide r1; clear r1)
  exact HQ.out _ _ ⟨rfl, rfl, rfl, rfl, rfl, rfl, rfl, rfl, rfl, rfl, rfl, rfl, rfl, rfl, rfl, rfl, rfl, rfl, rfl, rfl, rfl, rfl, rfl, rfl, rfl, rfl, rfl, rfl, rfl, rfl, rfl⟩ R1.out
set_option maxHeartbeats 8000000 in
set_option maxRecDepth 100000 in
theorem pl_r2 {K : Act → World → Prop} {c : Code} (hc : regOf (Try.f3.body.getD .skip) 2 = some c) (a : Act) {v : Vpl} {wq : World} {xo ta : Option Addr} {n xc tc : Nat} {w3 : World} (hF : Fpl a v) (h1v : v.v1 = .slice xo n xc) (hr : (Builtin.append_ #[22, 22] 22 #[.slice none 0 0, .slice xo n xc]).run Try.prog wq = .ok (.slice ta n tc) w3)
    (hQ : ∀ a', Fpl a' { v with v10 := .slice ta n tc } → K a' w3) :
    Code.wp Try.prog c (Exit.then K fun _ _ _ => False) a wq := by
  have HQ := hide hQ
  clear hQ
  obtain ⟨t', d'⟩ := a
  obtain ⟨v0, v1, v2, v3, v8, v9, v10, v11, v12, v13, v14, v15, v16, v17, v18, v19, v20, v21, v22, v23, v24, v25, v26, v27, v28, v29, v30, v31, v106⟩ := v
  simp only at h1v HQ
  subst h1v
  obtain ⟨hs1, hd1, q0, q1, q2, q3, q8, q9, q10, q11, q12, q13, q14, q15, q16, q17, q18, q19, q20, q21, q22, q23, q24, q25, q26, q27, q28, q29, q30, q31, q106⟩ := hF
  obtain ⟨u, hu⟩ := frame_pl t' hs1
  simp only at hd1 q0 q1 q2 q3 q8 q9 q10 q11 q12 q13 q14 q15 q16 q17 q18 q19 q20 q21 q22 q23 q24 q25 q26 q27 q28 q29 q30 q31 q106
  subst hu hd1
  have e0 : u 0 = v0 := q0
  have e1 : u 1 = .slice xo n xc := q1
  have e2 : u 2 = v2 := q2
  have e3 : u 3 = v3 := q3
  have e8 : u 8 = v8 := q8
  have e9 : u 9 = v9 := q9
  have e10 : u 10 = v10 := q10
  have e11 : u 11 = v11 := q11
  have e12 : u 12 = v12 := q12
  have e13 : u 13 = v13 := q13
  have e14 : u 14 = v14 := q14
  have e15 : u 15 = v15 := q15
  have e16 : u 16 = v16 := q16
  have e17 : u 17 = v17 := q17
  have e18 : u 18 = v18 := q18
  have e19 : u 19 = v19 := q19
  have e20 : u 20 = v20 := q20
  have e21 : u 21 = v21 := q21
  have e22 : u 22 = v22 := q22
  have e23 : u 23 = v23 := q23
  have e24 : u 24 = v24 := q24
  have e25 : u 25 = v25 := q25
  have e26 : u 26 = v26 := q26
  have e27 : u 27 = v27 := q27
  have e28 : u 28 = v28 := q28
  have e29 : u 29 = v29 := q29
  have e30 : u 30 = v30 := q30
  have e31 : u 31 = v31 := q31
  have e106 : u 106 = v106 := q106
  rw [e0, e1, e2, e3, e8, e9, e10, e11, e12, e13, e14, e15, e16, e17, e18, e19, e20, e21, e22, e23, e24, e25, e26, e27, e28, e29, e30, e31, e106]
  clear q0 e0 q1 e1 q2 e2 q3 e3 q8 e8 q9 e9 q10 e10 q11 e11 q12 e12 q13 e13 q14 e14 q15 e15 q16 e16 q17 e17 q18 e18 q19 e19 q20 e20 q21 e21 q22 e22 q23 e23 q24 e24 q25 e25 q26 e26 q27 e27 q28 e28 q29 e29 q30 e30 q31 e31 q106 e106 hs1
  simp only [Try.f3, Option.getD_some, regOf] at hc
  injection hc with hc
  subst hc
  have HA := hide hr
  clear hr
  go_wp2_with (at_builtin; refine wpList_append_run rfl _ _ 22 rfl _ _ _ rfl rfl HA.out ?_)
  exact HQ.out _ ⟨rfl, rfl, rfl, rfl, rfl, rfl, rfl, rfl, rfl, rfl, rfl, rfl, rfl, rfl, rfl, rfl, rfl, rfl, rfl, rfl, rfl, rfl, rfl, rfl, rfl, rfl, rfl, rfl, rfl, rfl, rfl⟩
set_option maxHeartbeats 8000000 in
set_option maxRecDepth 100000 in
theorem pl_r3 {K : Act → World → Prop} {c : Code} (hc : regOf (Try.f3.body.getD .skip) 3 = some c) (a : Act) {v : Vpl} {wq : World} {xo ta : Option Addr} {n xc tc : Nat} {w3 : World} (hF : Fpl a v) (h2v : v.v2 = .slice xo n xc) (hr : (Builtin.append_ #[23, 23] 23 #[.slice none 0 0, .slice xo n xc]).run Try.prog wq = .ok (.slice ta n tc) w3)
    (hQ : ∀ a', Fpl a' { v with v11 := .slice ta n tc } → K a' w3) :
    Code.wp Try.prog c (Exit.then K fun _ _ _ => False) a wq := by
  have HQ := hide hQ
  clear hQ
  obtain ⟨t', d'⟩ := a
  obtain ⟨v0, v1, v2, v3, v8, v9, v10, v11, v12, v13, v14, v15, v16, v17, v18, v19, v20, v21, v22, v23, v24, v25, v26, v27, v28, v29, v30, v31, v106⟩ := v
  simp only at h2v HQ
  subst h2v
  obtain ⟨hs1, hd1, q0, q1, q2, q3, q8, q9, q10, q11, q12, q13, q14, q15, q16, q17, q18, q19, q20, q21, q22, q23, q24, q25, q26, q27, q28, q29, q30, q31, q106⟩ := hF
  obtain ⟨u, hu⟩ := frame_pl t' hs1
  simp only at hd1 q0 q1 q2 q3 q8 q9 q10 q11 q12 q13 q14 q15 q16 q17 q18 q19 q20 q21 q22 q23 q24 q25 q26 q27 q28 q29 q30 q31 q106
  subst hu hd1
  have e0 : u 0 = v0 := q0
  have e1 : u 1 = v1 := q1
  have e2 : u 2 = .slice xo n xc := q2
  have e3 : u 3 = v3 := q3
  have e8 : u 8 = v8 := q8
  have e9 : u 9 = v9 := q9
  have e10 : u 10 = v10 := q10
  have e11 : u 11 = v11 := q11
  have e12 : u 12 = v12 := q12
  have e13 : u 13 = v13 := q13
  have e14 : u 14 = v14 := q14
  have e15 : u 15 = v15 := q15
  have e16 : u 16 = v16 := q16
  have e17 : u 17 = v17 := q17
  have e18 : u 18 = v18 := q18
  have e19 : u 19 = v19 := q19
  have e20 : u 20 = v20 := q20
  have e21 : u 21 = v21 := q21
  have e22 : u 22 = v22 := q22
  have e23 : u 23 = v23 := q23
  have e24 : u 24 = v24 := q24
  have e25 : u 25 = v25 := q25
  have e26 : u 26 = v26 := q26
  have e27 : u 27 = v27 := q27
  have e28 : u 28 = v28 := q28
  have e29 : u 29 = v29 := q29
  have e30 : u 30 = v30 := q30
  have e31 : u 31 = v31 := q31
  have e106 : u 106 = v106 := q106
  rw [e0, e1, e2, e3, e8, e9, e10, e11, e12, e13, e14, e15, e16, e17, e18, e19, e20, e21, e22, e23, e24, e25, e26, e27, e28, e29, e30, e31, e106]
  clear q0 e0 q1 e1 q2 e2 q3 e3 q8 e8 q9 e9 q10 e10 q11 e11 q12 e12 q13 e13 q14 e14 q15 e15 q16 e16 q17 e17 q18 e18 q19 e19 q20 e20 q21 e21 q22 e22 q23 e23 q24 e24 q25 e25 q26 e26 q27 e27 q28 e28 q29 e29 q30 e30 q31 e31 q106 e106 hs1
  simp only [Try.f3, Option.getD_some, regOf] at hc
  injection hc with hc
  subst hc
  have HA := hide hr
  clear hr
  go_wp2_with (at_builtin; refine wpList_append_run rfl _ _ 23 rfl _ _ _ rfl rfl HA.out ?_)
  exact HQ.out _ ⟨rfl, rfl, rfl, rfl, rfl, rfl, rfl, rfl, rfl, rfl, rfl, rfl, rfl, rfl, rfl, rfl, rfl, rfl, rfl, rfl, rfl, rfl, rfl, rfl, rfl, rfl, rfl, rfl, rfl, rfl, rfl⟩
set_option maxHeartbeats 8000000 in
set_option maxRecDepth 100000 in
theorem pl_r4 {K : Act → World → Prop} {c : Code} (hc : regOf (Try.f3.body.getD .skip) 4 = some c) (a : Act) {v : Vpl} {wq : World} {R : Option Addr → Int → World → Prop} {sf : Int} {ao lo : Option Addr} {n cp m lc : Nat} (hF : Fpl a v) (h0v : v.v0 = .int .i64 sf) (h10v : v.v10 = .slice ao n cp) (h11v : v.v11 = .slice lo m lc) (hE : Calls Try.prog 8 #[.int .i64 sf, .slice ao n cp, .slice lo m lc] wq fun e w' => ∃ (po : Option Addr) (ec : Int), e = .returned (.tuple #[.pointer po, .int .i64 ec]) ∧ R po ec w')
    (hQ : ∀ a' w1 po ec, Fpl a' { v with v12 := .pointer po, v13 := .int .i64 ec } → R po ec w1 → K a' w1) :
    Code.wp Try.prog c (Exit.then K fun _ _ _ => False) a wq := by
  have HQ := hide hQ
  clear hQ
  obtain ⟨t', d'⟩ := a
  obtain ⟨v0, v1, v2, v3, v8, v9, v10, v11, v12, v13, v14, v15, v16, v17, v18, v19, v20, v21, v22, v23, v24, v25, v26, v27, v28, v29, v30, v31, v106⟩ := v
  simp only at h0v h10v h11v HQ
  subst h0v h10v h11v
  obtain ⟨hs1, hd1, q0, q1, q2, q3, q8, q9, q10, q11, q12, q13, q14, q15, q16, q17, q18, q19, q20, q21, q22, q23, q24, q25, q26, q27, q28, q29, q30, q31, q106⟩ := hF
  obtain ⟨u, hu⟩ := frame_pl t' hs1
  simp only at hd1 q0 q1 q2 q3 q8 q9 q10 q11 q12 q13 q14 q15 q16 q17 q18 q19 q20 q21 q22 q23 q24 q25 q26 q27 q28 q29 q30 q31 q106
  subst hu hd1
  have e0 : u 0 = .int .i64 sf := q0
  have e1 : u 1 = v1 := q1
  have e2 : u 2 = v2 := q2
  have e3 : u 3 = v3 := q3
  have e8 : u 8 = v8 := q8
  have e9 : u 9 = v9 := q9
  have e10 : u 10 = .slice ao n cp := q10
  have e11 : u 11 = .slice lo m lc := q11
  have e12 : u 12 = v12 := q12
  have e13 : u 13 = v13 := q13
  have e14 : u 14 = v14 := q14
  have e15 : u 15 = v15 := q15
  have e16 : u 16 = v16 := q16
  have e17 : u 17 = v17 := q17
  have e18 : u 18 = v18 := q18
  have e19 : u 19 = v19 := q19
  have e20 : u 20 = v20 := q20
  have e21 : u 21 = v21 := q21
  have e22 : u 22 = v22 := q22
  have e23 : u 23 = v23 := q23
  have e24 : u 24 = v24 := q24
  have e25 : u 25 = v25 := q25
  have e26 : u 26 = v26 := q26
  have e27 : u 27 = v27 := q27
  have e28 : u 28 = v28 := q28
  have e29 : u 29 = v29 := q29
  have e30 : u 30 = v30 := q30
  have e31 : u 31 = v31 := q31
  have e106 : u 106 = v106 := q106
  rw [e0, e1, e2, e3, e8, e9, e10, e11, e12, e13, e14, e15, e16, e17, e18, e19, e20, e21, e22, e23, e24, e25, e26, e27, e28, e29, e30, e31, e106]
  clear q0 e0 q1 e1 q2 e2 q3 e3 q8 e8 q9 e9 q10 e10 q11 e11 q12 e12 q13 e13 q14 e14 q15 e15 q16 e16 q17 e17 q18 e18 q19 e19 q20 e20 q21 e21 q22 e22 q23 e23 q24 e24 q25 e25 q26 e26 q27 e27 q28 e28 q29 e29 q30 e30 q31 e31 q106 e106 hs1
  simp only [Try.f3, Option.getD_some, regOf] at hc
  injection hc with hc
  subst hc
  have HE := hide hE
  clear hE
  go_wp2_with (go_at_call 8; refine HE.out.mono ?_; rintro e w1 ⟨po, ec, rfl, r1⟩; have R1 := hide r1; clear r1)
  exact HQ.out _ _ _ _ ⟨rfl, rfl, rfl, rfl, rfl, rfl, rfl, rfl, rfl, rfl, rfl, rfl, rfl, rfl, rfl, rfl, rfl, rfl, rfl, rfl, rfl, rfl, rfl, rfl, rfl, rfl, rfl, rfl, rfl, rfl, rfl⟩ R1.out
set_option maxHeartbeats 8000000 in
set_option maxRecDepth 100000 in
theorem pl_r5 {K : Act → World → Prop} {c : Code} (hc : regOf (Try.f3.body.getD .skip) 5 = some c) (a : Act) {v : Vpl} {wq : World} {R : Option Addr → World → Prop} {sf : Int} {ao lo : Option Addr} {n cp m lc : Nat} (hF : Fpl a v) (h0v : v.v0 = .int .i64 sf) (h1v : v.v1 = .slice ao n cp) (h2v : v.v2 = .slice lo m lc) (hE : Calls Try.prog 9 #[.int .i64 sf, .slice ao n cp, .slice lo m lc] wq fun e w' => ∃ (ro : Option Addr), e = .returned (.pointer ro) ∧ R ro w')
    (hQ : ∀ a' w1 ro, Fpl a' { v with v14 := .pointer ro } → R ro w1 → K a' w1) :
    Code.wp Try.prog c (Exit.then K fun _ _ _ => False) a wq := by
  have HQ := hide hQ
  clear hQ
  obtain ⟨t', d'⟩ := a
  obtain ⟨v0, v1, v2, v3, v8, v9, v10, v11, v12, v13, v14, v15, v16, v17, v18, v19, v20, v21, v22, v23, v24, v25, v26, v27, v28, v29, v30, v31, v106⟩ := v
  simp only at h0v h1v h2v HQ
  subst h0v h1v h2v
  obtain ⟨hs1, hd1, q0, q1, q2, q3, q8, q9, q10, q11, q12, q13, q14, q15, q16, q17, q18, q19, q20, q21, q22, q23, q24, q25, q26, q27, q28, q29, q30, q31, q106⟩ := hF
  obtain ⟨u, hu⟩ := frame_pl t' hs1
  simp only at hd1 q0 q1 q2 q3 q8 q9 q10 q11 q12 q13 q14 q15 q16 q17 q18 q19 q20 q21 q22 q23 q24 q25 q26 q27 q28 q29 q30 q31 q106
  subst hu hd1
  have e0 : u 0 = .int .i64 sf := q0
  have e1 : u 1 = .slice ao n cp := q1
  have e2 : u 2 = .slice lo m lc := q2
  have e3 : u 3 = v3 := q3
  have e8 : u 8 = v8 := q8
  have e9 : u 9 = v9 := q9
  have e10 : u 10 = v10 := q10
  have e11 : u 11 = v11 := q11
  have e12 : u 12 = v12 := q12
  have e13 : u 13 = v13 := q13
  have e14 : u 14 = v14 := q14
  have e15 : u 15 = v15 := q15
  have e16 : u 16 = v16 := q16
  have e17 : u 17 = v17 := q17
  have e18 : u 18 = v18 := q18
  have e19 : u 19 = v19 := q19
  have e20 : u 20 = v20 := q20
  have e21 : u 21 = v21 := q21
  have e22 : u 22 = v22 := q22
  have e23 : u 23 = v23 := q23
  have e24 : u 24 = v24 := q24
  have e25 : u 25 = v25 := q25
  have e26 : u 26 = v26 := q26
  have e27 : u 27 = v27 := q27
  have e28 : u 28 = v28 := q28
  have e29 : u 29 = v29 := q29
  have e30 : u 30 = v30 := q30
  have e31 : u 31 = v31 := q31
  have e106 : u 106 = v106 := q106
  rw [e0, e1, e2, e3, e8, e9, e10, e11, e12, e13, e14, e15, e16, e17, e18, e19, e20, e21, e22, e23, e24, e25, e26, e27, e28, e29, e30, e31, e106]
  clear q0 e0 q1 e1 q2 e2 q3 e3 q8 e8 q9 e9 q10 e10 q11 e11 q12 e12 q13 e13 q14 e14 q15 e15 q16 e16 q17 e17 q18 e18 q19 e19 q20 e20 q21 e21 q22 e22 q23 e23 q24 e24 q25 e25 q26 e26 q27 e27 q28 e28 q29 e29 q30 e30 q31 e31 q106 e106 hs1
  simp only [Try.f3, Option.getD_some, regOf] at hc
  injection hc with hc
  subst hc
  have HE := hide hE
  clear hE
  go_wp2_with (go_at_call 9; refine HE.out.mono ?_; rintro e w1 ⟨ro, rfl, r1⟩; have R1 := hide r1; clear r1)
  exact HQ.out _ _ _ ⟨rfl, rfl, rfl, rfl, rfl, rfl, rfl, rfl, rfl, rfl, rfl, rfl, rfl, rfl, rfl, rfl, rfl, rfl, rfl, rfl, rfl, rfl, rfl, rfl, rfl, rfl, rfl, rfl, rfl, rfl, rfl⟩ R1.out
set_option maxHeartbeats 8000000 in
set_option maxRecDepth 100000 in
theorem pl_r6n {K : Act → World → Prop} {c : Code} (hc : regOf (Try.f3.body.getD .skip) 6 = some c) (a : Act) {v : Vpl} {wq : World}  (hF : Fpl a v) (h14v : v.v14 = .pointer none) (hQ : ∀ a', Fpl a' v → a'.tmps.getD 49 undef = .bool true → K a' wq) :
    Code.wp Try.prog c (Exit.then K fun _ _ _ => False) a wq := by
  have HQ := hide hQ
  clear hQ
  obtain ⟨t', d'⟩ := a
  obtain ⟨v0, v1, v2, v3, v8, v9, v10, v11, v12, v13, v14, v15, v16, v17, v18, v19, v20, v21, v22, v23, v24, v25, v26, v27, v28, v29, v30, v31, v106⟩ := v
  simp only at h14v HQ
  subst h14v
  obtain ⟨hs1, hd1, q0, q1, q2, q3, q8, q9, q10, q11, q12, q13, q14, q15, q16, q17, q18, q19, q20, q21, q22, q23, q24, q25, q26, q27, q28, q29, q30, q31, q106⟩ := hF
  obtain ⟨u, hu⟩ := frame_pl t' hs1
  simp only at hd1 q0 q1 q2 q3 q8 q9 q10 q11 q12 q13 q14 q15 q16 q17 q18 q19 q20 q21 q22 q23 q24 q25 q26 q27 q28 q29 q30 q31 q106
  subst hu hd1
  have e0 : u 0 = v0 := q0
  have e1 : u 1 = v1 := q1
  have e2 : u 2 = v2 := q2
  have e3 : u 3 = v3 := q3
  have e8 : u 8 = v8 := q8
  have e9 : u 9 = v9 := q9
  have e10 : u 10 = v10 := q10
  have e11 : u 11 = v11 := q11
  have e12 : u 12 = v12 := q12
  have e13 : u 13 = v13 := q13
  have e14 : u 14 = .pointer none := q14
  have e15 : u 15 = v15 := q15
  have e16 : u 16 = v16 := q16
  have e17 : u 17 = v17 := q17
  have e18 : u 18 = v18 := q18
  have e19 : u 19 = v19 := q19
  have e20 : u 20 = v20 := q20
  have e21 : u 21 = v21 := q21
  have e22 : u 22 = v22 := q22
  have e23 : u 23 = v23 := q23
  have e24 : u 24 = v24 := q24
  have e25 : u 25 = v25 := q25
  have e26 : u 26 = v26 := q26
  have e27 : u 27 = v27 := q27
  have e28 : u 28 = v28 := q28
  have e29 : u 29 = v29 := q29
  have e30 : u 30 = v30 := q30
  have e31 : u 31 = v31 := q31
  have e106 : u 106 = v106 := q106
  rw [e0, e1, e2, e3, e8, e9, e10, e11, e12, e13, e14, e15, e16, e17, e18, e19, e20, e21, e22, e23, e24, e25, e26, e27, e28, e29, e30, e31, e106]
  clear q0 e0 q1 e1 q2 e2 q3 e3 q8 e8 q9 e9 q10 e10 q11 e11 q12 e12 q13 e13 q14 e14 q15 e15 q16 e16 q17 e17 q18 e18 q19 e19 q20 e20 q21 e21 q22 e22 q23 e23 q24 e24 q25 e25 q26 e26 q27 e27 q28 e28 q29 e29 q30 e30 q31 e31 q106 e106 hs1
  simp only [Try.f3, Option.getD_some, regOf] at hc
  injection hc with hc
  subst hc
  go_wp2
  exact HQ.out _ ⟨rfl, rfl, rfl, rfl, rfl, rfl, rfl, rfl, rfl, rfl, rfl, rfl, rfl, rfl, rfl, rfl, rfl, rfl, rfl, rfl, rfl, rfl, rfl, rfl, rfl, rfl, rfl, rfl, rfl, rfl, rfl⟩ (by first | rfl | (simp; done))
set_option maxHeartbeats 8000000 in
set_option maxRecDepth 100000 in
theorem pl_r6y {K : Act → World → Prop} {c : Code} (hc : regOf (Try.f3.body.getD .skip) 6 = some c) (a : Act) {v : Vpl} {wq : World} {rd : Addr} (hF : Fpl a v) (h14v : v.v14 = .pointer (some rd)) (hQ : ∀ a', Fpl a' v → a'.tmps.getD 49 undef = .bool false → K a' wq) :
    Code.wp Try.prog c (Exit.then K fun _ _ _ => False) a wq := by
  have HQ := hide hQ
  clear hQ
  obtain ⟨t', d'⟩ := a
  obtain ⟨v0, v1, v2, v3, v8, v9, v10, v11, v12, v13, v14, v15, v16, v17, v18, v19, v20, v21, v22, v23, v24, v25, v26, v27, v28, v29, v30, v31, v106⟩ := v
  simp only at h14v HQ
  subst h14v
  obtain ⟨hs1, hd1, q0, q1, q2, q3, q8, q9, q10, q11, q12, q13, q14, q15, q16, q17, q18, q19, q20, q21, q22, q23, q24, q25, q26, q27, q28, q29, q30, q31, q106⟩ := hF
  obtain ⟨u, hu⟩ := frame_pl t' hs1
  simp only at hd1 q0 q1 q2 q3 q8 q9 q10 q11 q12 q13 q14 q15 q16 q17 q18 q19 q20 q21 q22 q23 q24 q25 q26 q27 q28 q29 q30 q31 q106
  subst hu hd1
  have e0 : u 0 = v0 := q0
  have e1 : u 1 = v1 := q1
  have e2 : u 2 = v2 := q2
  have e3 : u 3 = v3 := q3
  have e8 : u 8 = v8 := q8
  have e9 : u 9 = v9 := q9
  have e10 : u 10 = v10 := q10
  have e11 : u 11 = v11 := q11
  have e12 : u 12 = v12 := q12
  have e13 : u 13 = v13 := q13
  have e14 : u 14 = .pointer (some rd) := q14
  have e15 : u 15 = v15 := q15
  have e16 : u 16 = v16 := q16
  have e17 : u 17 = v17 := q17
  have e18 : u 18 = v18 := q18
  have e19 : u 19 = v19 := q19
  have e20 : u 20 = v20 := q20
  have e21 : u 21 = v21 := q21
  have e22 : u 22 = v22 := q22
  have e23 : u 23 = v23 := q23
  have e24 : u 24 = v24 := q24
  have e25 : u 25 = v25 := q25
  have e26 : u 26 = v26 := q26
  have e27 : u 27 = v27 := q27
  have e28 : u 28 = v28 := q28
  have e29 : u 29 = v29 := q29
  have e30 : u 30 = v30 := q30
  have e31 : u 31 = v31 := q31
  have e106 : u 106 = v106 := q106
  rw [e0, e1, e2, e3, e8, e9, e10, e11, e12, e13, e14, e15, e16, e17, e18, e19, e20, e21, e22, e23, e24, e25, e26, e27, e28, e29, e30, e31, e106]
  clear q0 e0 q1 e1 q2 e2 q3 e3 q8 e8 q9 e9 q10 e10 q11 e11 q12 e12 q13 e13 q14 e14 q15 e15 q16 e16 q17 e17 q18 e18 q19 e19 q20 e20 q21 e21 q22 e22 q23 e23 q24 e24 q25 e25 q26 e26 q27 e27 q28 e28 q29 e29 q30 e30 q31 e31 q106 e106 hs1
  simp only [Try.f3, Option.getD_some, regOf] at hc
  injection hc with hc
  subst hc
  go_wp2
  exact HQ.out _ ⟨rfl, rfl, rfl, rfl, rfl, rfl, rfl, rfl, rfl, rfl, rfl, rfl, rfl, rfl, rfl, rfl, rfl, rfl, rfl, rfl, rfl, rfl, rfl, rfl, rfl, rfl, rfl, rfl, rfl, rfl, rfl⟩ (by first | rfl | (simp; done))
set_option maxHeartbeats 8000000 in
set_option maxRecDepth 100000 in
theorem pl_r7 {K : Act → World → Prop} {c : Code} (hc : regOf (Try.f3.body.getD .skip) 7 = some c) (a : Act) {v : Vpl} {wq : World}  (hF : Fpl a v) (h9v : v.v9 = .bool true) (h12v : v.v12 = .pointer none) (h13v : v.v13 = .int .i64 1) (hQ : ∀ a', Fpl a' { v with v8 := .bool true } → K a' wq) :
    Code.wp Try.prog c (Exit.then K fun _ _ _ => False) a wq := by
  have HQ := hide hQ
  clear hQ
  obtain ⟨t', d'⟩ := a
  obtain ⟨v0, v1, v2, v3, v8, v9, v10, v11, v12, v13, v14, v15, v16, v17, v18, v19, v20, v21, v22, v23, v24, v25, v26, v27, v28, v29, v30, v31, v106⟩ := v
  simp only at h9v h12v h13v HQ
  subst h9v h12v h13v
  obtain ⟨hs1, hd1, q0, q1, q2, q3, q8, q9, q10, q11, q12, q13, q14, q15, q16, q17, q18, q19, q20, q21, q22, q23, q24, q25, q26, q27, q28, q29, q30, q31, q106⟩ := hF
  obtain ⟨u, hu⟩ := frame_pl t' hs1
  simp only at hd1 q0 q1 q2 q3 q8 q9 q10 q11 q12 q13 q14 q15 q16 q17 q18 q19 q20 q21 q22 q23 q24 q25 q26 q27 q28 q29 q30 q31 q106
  subst hu hd1
  have e0 : u 0 = v0 := q0
  have e1 : u 1 = v1 := q1
  have e2 : u 2 = v2 := q2
  have e3 : u 3 = v3 := q3
  have e8 : u 8 = v8 := q8
  have e9 : u 9 = .bool true := q9
  have e10 : u 10 = v10 := q10
  have e11 : u 11 = v11 := q11
  have e12 : u 12 = .pointer none := q12
  have e13 : u 13 = .int .i64 1 := q13
  have e14 : u 14 = v14 := q14
  have e15 : u 15 = v15 := q15
  have e16 : u 16 = v16 := q16
  have e17 : u 17 = v17 := q17
  have e18 : u 18 = v18 := q18
  have e19 : u 19 = v19 := q19
  have e20 : u 20 = v20 := q20
  have e21 : u 21 = v21 := q21
  have e22 : u 22 = v22 := q22
  have e23 : u 23 = v23 := q23
  have e24 : u 24 = v24 := q24
  have e25 : u 25 = v25 := q25
  have e26 : u 26 = v26 := q26
  have e27 : u 27 = v27 := q27
  have e28 : u 28 = v28 := q28
  have e29 : u 29 = v29 := q29
  have e30 : u 30 = v30 := q30
  have e31 : u 31 = v31 := q31
  have e106 : u 106 = v106 := q106
  rw [e0, e1, e2, e3, e8, e9, e10, e11, e12, e13, e14, e15, e16, e17, e18, e19, e20, e21, e22, e23, e24, e25, e26, e27, e28, e29, e30, e31, e106]
  clear q0 e0 q1 e1 q2 e2 q3 e3 q8 e8 q9 e9 q10 e10 q11 e11 q12 e12 q13 e13 q14 e14 q15 e15 q16 e16 q17 e17 q18 e18 q19 e19 q20 e20 q21 e21 q22 e22 q23 e23 q24 e24 q25 e25 q26 e26 q27 e27 q28 e28 q29 e29 q30 e30 q31 e31 q106 e106 hs1
  simp only [Try.f3, Option.getD_some, regOf] at hc
  injection hc with hc
  subst hc
  go_wp2
  exact HQ.out _ ⟨rfl, rfl, rfl, rfl, rfl, rfl, rfl, rfl, rfl, rfl, rfl, rfl, rfl, rfl, rfl, rfl, rfl, rfl, rfl, rfl, rfl, rfl, rfl, rfl, rfl, rfl, rfl, rfl, rfl, rfl, rfl⟩
set_option maxHeartbeats 8000000 in
set_option maxRecDepth 100000 in
theorem pl_r8 {K : Act → World → Prop} {c : Code} (hc : regOf (Try.f3.body.getD .skip) 8 = some c) (a : Act) {v : Vpl} {wq : World} {R1 R2 : World → Prop} {ad rd : Addr} {x : Bool} (hF : Fpl a v) (h12v : v.v12 = .pointer (some ad)) (h13v : v.v13 = .int .i64 0) (h14v : v.v14 = .pointer (some rd)) (h0 : Calls Try.prog 10 #[.pointer (some ad)] wq fun e w' => e = .returned (.bool x) ∧ R1 w') (h1 : ∀ W, R1 W → Calls Try.prog 11 #[.pointer (some rd)] W fun e w' => e = .returned (.bool x) ∧ R2 w')
    (hQ : ∀ a' w1, Fpl a' v → a'.tmps.getD 71 undef = .bool false → R2 w1 → K a' w1) :
    Code.wp Try.prog c (Exit.then K fun _ _ _ => False) a wq := by
  have HQ := hide hQ
  clear hQ
  obtain ⟨t', d'⟩ := a
  obtain ⟨v0, v1, v2, v3, v8, v9, v10, v11, v12, v13, v14, v15, v16, v17, v18, v19, v20, v21, v22, v23, v24, v25, v26, v27, v28, v29, v30, v31, v106⟩ := v
  simp only at h12v h13v h14v HQ
  subst h12v h13v h14v
  obtain ⟨hs1, hd1, q0, q1, q2, q3, q8, q9, q10, q11, q12, q13, q14, q15, q16, q17, q18, q19, q20, q21, q22, q23, q24, q25, q26, q27, q28, q29, q30, q31, q106⟩ := hF
  obtain ⟨u, hu⟩ := frame_pl t' hs1
  simp only at hd1 q0 q1 q2 q3 q8 q9 q10 q11 q12 q13 q14 q15 q16 q17 q18 q19 q20 q21 q22 q23 q24 q25 q26 q27 q28 q29 q30 q31 q106
  subst hu hd1
  have e0 : u 0 = v0 := q0
  have e1 : u 1 = v1 := q1
  have e2 : u 2 = v2 := q2
  have e3 : u 3 = v3 := q3
  have e8 : u 8 = v8 := q8
  have e9 : u 9 = v9 := q9
  have e10 : u 10 = v10 := q10
  have e11 : u 11 = v11 := q11
  have e12 : u 12 = .pointer (some ad) := q12
  have e13 : u 13 = .int .i64 0 := q13
  have e14 : u 14 = .pointer (some rd) := q14
  have e15 : u 15 = v15 := q15
  have e16 : u 16 = v16 := q16
  have e17 : u 17 = v17 := q17
  have e18 : u 18 = v18 := q18
  have e19 : u 19 = v19 := q19
  have e20 : u 20 = v20 := q20
  have e21 : u 21 = v21 := q21
  have e22 : u 22 = v22 := q22
  have e23 : u 23 = v23 := q23
  have e24 : u 24 = v24 := q24
  have e25 : u 25 = v25 := q25
  have e26 : u 26 = v26 := q26
  have e27 : u 27 = v27 := q27
  have e28 : u 28 = v28 := q28
  have e29 : u 29 = v29 := q29
  have e30 : u 30 = v30 := q30
  have e31 : u 31 = v31 := q31
  have e106 : u 106 = v106 := q106
  rw [e0, e1, e2, e3, e8, e9, e10, e11, e12, e13, e14, e15, e16, e17, e18, e19, e20, e21, e22, e23, e24, e25, e26, e27, e28, e29, e30, e31, e106]
  clear q0 e0 q1 e1 q2 e2 q3 e3 q8 e8 q9 e9 q10 e10 q11 e11 q12 e12 q13 e13 q14 e14 q15 e15 q16 e16 q17 e17 q18 e18 q19 e19 q20 e20 q21 e21 q22 e22 q23 e23 q24 e24 q25 e25 q26 e26 q27 e27 q28 e28 q29 e29 q30 e30 q31 e31 q106 e106 hs1
  simp only [Try.f3, Option.getD_some, regOf] at hc
  injection hc with hc
  subst hc
  have H0 := hide h0
  have H1 := hide h1
  clear h0 h1
  cases x
  all_goals go_wp2_with (first | (go_at_call 10; refine H0.out.mono ?_; rintro e w1 ⟨rfl, r1⟩; have G1 := hide r1; clear r1) | (go_at_call 11; refine (H1.out _ G1.out).mono ?_; rintro e w2 ⟨rfl, r2⟩; have G2 := hide r2; clear r2))
  all_goals exact HQ.out _ _ ⟨rfl, rfl, rfl, rfl, rfl, rfl, rfl, rfl, rfl, rfl, rfl, rfl, rfl, rfl, rfl, rfl, rfl, rfl, rfl, rfl, rfl, rfl, rfl, rfl, rfl, rfl, rfl, rfl, rfl, rfl, rfl⟩ (by first | rfl | (simp; done)) G2.out
set_option maxHeartbeats 8000000 in
set_option maxRecDepth 100000 in
theorem pl_r10 {K : Act → World → Prop} {c : Code} (hc : regOf (Try.f3.body.getD .skip) 10 = some c) (a : Act) {v : Vpl} {wq : World}  (hF : Fpl a v) (hQ : ∀ a', Fpl a' { v with v15 := .int .i64 ((0 : Nat) : Int) } → K a' wq) :
    Code.wp Try.prog c (Exit.then K fun _ _ _ => False) a wq := by
  have HQ := hide hQ
  clear hQ
  obtain ⟨t', d'⟩ := a
  obtain ⟨v0, v1, v2, v3, v8, v9, v10, v11, v12, v13, v14, v15, v16, v17, v18, v19, v20, v21, v22, v23, v24, v25, v26, v27, v28, v29, v30, v31, v106⟩ := v
  obtain ⟨hs1, hd1, q0, q1, q2, q3, q8, q9, q10, q11, q12, q13, q14, q15, q16, q17, q18, q19, q20, q21, q22, q23, q24, q25, q26, q27, q28, q29, q30, q31, q106⟩ := hF
  obtain ⟨u, hu⟩ := frame_pl t' hs1
  simp only at hd1 q0 q1 q2 q3 q8 q9 q10 q11 q12 q13 q14 q15 q16 q17 q18 q19 q20 q21 q22 q23 q24 q25 q26 q27 q28 q29 q30 q31 q106
  subst hu hd1
  have e0 : u 0 = v0 := q0
  have e1 : u 1 = v1 := q1
  have e2 : u 2 = v2 := q2
  have e3 : u 3 = v3 := q3
  have e8 : u 8 = v8 := q8
  have e9 : u 9 = v9 := q9
  have e10 : u 10 = v10 := q10
  have e11 : u 11 = v11 := q11
  have e12 : u 12 = v12 := q12
  have e13 : u 13 = v13 := q13
  have e14 : u 14 = v14 := q14
  have e15 : u 15 = v15 := q15
  have e16 : u 16 = v16 := q16
  have e17 : u 17 = v17 := q17
  have e18 : u 18 = v18 := q18
  have e19 : u 19 = v19 := q19
  have e20 : u 20 = v20 := q20
  have e21 : u 21 = v21 := q21
  have e22 : u 22 = v22 := q22
  have e23 : u 23 = v23 := q23
  have e24 : u 24 = v24 := q24
  have e25 : u 25 = v25 := q25
  have e26 : u 26 = v26 := q26
  have e27 : u 27 = v27 := q27
  have e28 : u 28 = v28 := q28
  have e29 : u 29 = v29 := q29
  have e30 : u 30 = v30 := q30
  have e31 : u 31 = v31 := q31
  have e106 : u 106 = v106 := q106
  rw [e0, e1, e2, e3, e8, e9, e10, e11, e12, e13, e14, e15, e16, e17, e18, e19, e20, e21, e22, e23, e24, e25, e26, e27, e28, e29, e30, e31, e106]
  clear q0 e0 q1 e1 q2 e2 q3 e3 q8 e8 q9 e9 q10 e10 q11 e11 q12 e12 q13 e13 q14 e14 q15 e15 q16 e16 q17 e17 q18 e18 q19 e19 q20 e20 q21 e21 q22 e22 q23 e23 q24 e24 q25 e25 q26 e26 q27 e27 q28 e28 q29 e29 q30 e30 q31 e31 q106 e106 hs1
  simp only [Try.f3, Option.getD_some, regOf] at hc
  injection hc with hc
  subst hc
  go_wp2
  exact HQ.out _ ⟨rfl, rfl, rfl, rfl, rfl, rfl, rfl, rfl, rfl, rfl, rfl, rfl, rfl, rfl, rfl, rfl, rfl, rfl, rfl, rfl, rfl, rfl, rfl, rfl, rfl, rfl, rfl, rfl, rfl, rfl, rfl⟩
set_option maxHeartbeats 8000000 in
set_option maxRecDepth 100000 in
theorem pl_r11n {K : Act → World → Prop} {c : Code} (hc : regOf (Try.f3.body.getD .skip) 11 = some c) (a : Act) {v : Vpl} {wq : World} {ao : Option Addr} {n cp k : Nat} (hF : Fpl a v) (h10v : v.v10 = .slice ao n cp) (h15v : v.v15 = .int .i64 (k : Int)) (hk : ¬ (k : Int) < (n : Int)) (hQ : ∀ a', Fpl a' v → a'.tmps.getD 75 undef = .bool false → K a' wq) :
    Code.wp Try.prog c (Exit.then K fun _ _ _ => False) a wq := by
  have HQ := hide hQ
  clear hQ
  obtain ⟨t', d'⟩ := a
  obtain ⟨v0, v1, v2, v3, v8, v9, v10, v11, v12, v13, v14, v15, v16, v17, v18, v19, v20, v21, v22, v23, v24, v25, v26, v27, v28, v29, v30, v31, v106⟩ := v
  simp only at h10v h15v HQ
  subst h10v h15v
  obtain ⟨hs1, hd1, q0, q1, q2, q3, q8, q9, q10, q11, q12, q13, q14, q15, q16, q17, q18, q19, q20, q21, q22, q23, q24, q25, q26, q27, q28, q29, q30, q31, q106⟩ := hF
  obtain ⟨u, hu⟩ := frame_pl t' hs1
  simp only at hd1 q0 q1 q2 q3 q8 q9 q10 q11 q12 q13 q14 q15 q16 q17 q18 q19 q20 q21 q22 q23 q24 q25 q26 q27 q28 q29 q30 q31 q106
  subst hu hd1
  have e0 : u 0 = v0 := q0
  have e1 : u 1 = v1 := q1
  have e2 : u 2 = v2 := q2
  have e3 : u 3 = v3 := q3
  have e8 : u 8 = v8 := q8
  have e9 : u 9 = v9 := q9
  have e10 : u 10 = .slice ao n cp := q10
  have e11 : u 11 = v11 := q11
  have e12 : u 12 = v12 := q12
  have e13 : u 13 = v13 := q13
  have e14 : u 14 = v14 := q14
  have e15 : u 15 = .int .i64 (k : Int) := q15
  have e16 : u 16 = v16 := q16
  have e17 : u 17 = v17 := q17
  have e18 : u 18 = v18 := q18
  have e19 : u 19 = v19 := q19
  have e20 : u 20 = v20 := q20
  have e21 : u 21 = v21 := q21
  have e22 : u 22 = v22 := q22
  have e23 : u 23 = v23 := q23
  have e24 : u 24 = v24 := q24
  have e25 : u 25 = v25 := q25
  have e26 : u 26 = v26 := q26
  have e27 : u 27 = v27 := q27
  have e28 : u 28 = v28 := q28
  have e29 : u 29 = v29 := q29
  have e30 : u 30 = v30 := q30
  have e31 : u 31 = v31 := q31
  have e106 : u 106 = v106 := q106
  rw [e0, e1, e2, e3, e8, e9, e10, e11, e12, e13, e14, e15, e16, e17, e18, e19, e20, e21, e22, e23, e24, e25, e26, e27, e28, e29, e30, e31, e106]
  clear q0 e0 q1 e1 q2 e2 q3 e3 q8 e8 q9 e9 q10 e10 q11 e11 q12 e12 q13 e13 q14 e14 q15 e15 q16 e16 q17 e17 q18 e18 q19 e19 q20 e20 q21 e21 q22 e22 q23 e23 q24 e24 q25 e25 q26 e26 q27 e27 q28 e28 q29 e29 q30 e30 q31 e31 q106 e106 hs1
  simp only [Try.f3, Option.getD_some, regOf] at hc
  injection hc with hc
  subst hc
  have hd : decide ((k : Int) < (n : Int)) = false := decide_eq_false hk
  go_wp2
  exact HQ.out _ ⟨rfl, rfl, rfl, rfl, rfl, rfl, rfl, rfl, rfl, rfl, rfl, rfl, rfl, rfl, rfl, rfl, rfl, rfl, rfl, rfl, rfl, rfl, rfl, rfl, rfl, rfl, rfl, rfl, rfl, rfl, rfl⟩ (by first | rfl | (simp; done))
set_option maxHeartbeats 8000000 in
set_option maxRecDepth 100000 in
theorem pl_r11y {K : Act → World → Prop} {c : Code} (hc : regOf (Try.f3.body.getD .skip) 11 = some c) (a : Act) {v : Vpl} {wq : World} {ao : Option Addr} {n cp k : Nat} (hF : Fpl a v) (h10v : v.v10 = .slice ao n cp) (h15v : v.v15 = .int .i64 (k : Int)) (hk : (k : Int) < (n : Int)) (hQ : ∀ a', Fpl a' v → a'.tmps.getD 75 undef = .bool true → K a' wq) :
    Code.wp Try.prog c (Exit.then K fun _ _ _ => False) a wq := by
  have HQ := hide hQ
  clear hQ
  obtain ⟨t', d'⟩ := a
  obtain ⟨v0, v1, v2, v3, v8, v9, v10, v11, v12, v13, v14, v15, v16, v17, v18, v19, v20, v21, v22, v23, v24, v25, v26, v27, v28, v29, v30, v31, v106⟩ := v
  simp only at h10v h15v HQ
  subst h10v h15v
  obtain ⟨hs1, hd1, q0, q1, q2, q3, q8, q9, q10, q11, q12, q13, q14, q15, q16, q17, q18, q19, q20, q21, q22, q23, q24, q25, q26, q27, q28, q29, q30, q31, q106⟩ := hF
  obtain ⟨u, hu⟩ := frame_pl t' hs1
  simp only at hd1 q0 q1 q2 q3 q8 q9 q10 q11 q12 q13 q14 q15 q16 q17 q18 q19 q20 q21 q22 q23 q24 q25 q26 q27 q28 q29 q30 q31 q106
  subst hu hd1
  have e0 : u 0 = v0 := q0
  have e1 : u 1 = v1 := q1
  have e2 : u 2 = v2 := q2
  have e3 : u 3 = v3 := q3
  have e8 : u 8 = v8 := q8
  have e9 : u 9 = v9 := q9
  have e10 : u 10 = .slice ao n cp := q10
  have e11 : u 11 = v11 := q11
  have e12 : u 12 = v12 := q12
  have e13 : u 13 = v13 := q13
  have e14 : u 14 = v14 := q14
  have e15 : u 15 = .int .i64 (k : Int) := q15
  have e16 : u 16 = v16 := q16
  have e17 : u 17 = v17 := q17
  have e18 : u 18 = v18 := q18
  have e19 : u 19 = v19 := q19
  have e20 : u 20 = v20 := q20
  have e21 : u 21 = v21 := q21
  have e22 : u 22 = v22 := q22
  have e23 : u 23 = v23 := q23
  have e24 : u 24 = v24 := q24
  have e25 : u 25 = v25 := q25
  have e26 : u 26 = v26 := q26
  have e27 : u 27 = v27 := q27
  have e28 : u 28 = v28 := q28
  have e29 : u 29 = v29 := q29
  have e30 : u 30 = v30 := q30
  have e31 : u 31 = v31 := q31
  have e106 : u 106 = v106 := q106
  rw [e0, e1, e2, e3, e8, e9, e10, e11, e12, e13, e14, e15, e16, e17, e18, e19, e20, e21, e22, e23, e24, e25, e26, e27, e28, e29, e30, e31, e106]
  clear q0 e0 q1 e1 q2 e2 q3 e3 q8 e8 q9 e9 q10 e10 q11 e11 q12 e12 q13 e13 q14 e14 q15 e15 q16 e16 q17 e17 q18 e18 q19 e19 q20 e20 q21 e21 q22 e22 q23 e23 q24 e24 q25 e25 q26 e26 q27 e27 q28 e28 q29 e29 q30 e30 q31 e31 q106 e106 hs1
  simp only [Try.f3, Option.getD_some, regOf] at hc
  injection hc with hc
  subst hc
  have hd : decide ((k : Int) < (n : Int)) = true := decide_eq_true hk
  go_wp2
  exact HQ.out _ ⟨rfl, rfl, rfl, rfl, rfl, rfl, rfl, rfl, rfl, rfl, rfl, rfl, rfl, rfl, rfl, rfl, rfl, rfl, rfl, rfl, rfl, rfl, rfl, rfl, rfl, rfl, rfl, rfl, rfl, rfl, rfl⟩ (by first | rfl | (simp; done))
set_option maxHeartbeats 8000000 in
set_option maxRecDepth 100000 in
theorem pl_r13 {K : Act → World → Prop} {c : Code} (hc : regOf (Try.f3.body.getD .skip) 13 = some c) (a : Act) {v : Vpl} {wq : World} {g n cp k : Nat} {x : Value} (hF : Fpl a v) (h10v : v.v10 = .slice (some ⟨g, 0, none⟩) n cp) (h15v : v.v15 = .int .i64 (k : Int)) (hk : k < n) (hcl : wq.cell? ⟨g, k, none⟩ = some x) (hfr : wq.frozen? ⟨g, k, none⟩ = false)
    (hQ : ∀ a', Fpl a' v → K a' (wq.setCell ⟨g, k, none⟩ (.int .i64 99))) :
    Code.wp Try.prog c (Exit.then K fun _ _ _ => False) a wq := by
  have HQ := hide hQ
  clear hQ
  obtain ⟨t', d'⟩ := a
  obtain ⟨v0, v1, v2, v3, v8, v9, v10, v11, v12, v13, v14, v15, v16, v17, v18, v19, v20, v21, v22, v23, v24, v25, v26, v27, v28, v29, v30, v31, v106⟩ := v
  simp only at h10v h15v HQ
  subst h10v h15v
  obtain ⟨hs1, hd1, q0, q1, q2, q3, q8, q9, q10, q11, q12, q13, q14, q15, q16, q17, q18, q19, q20, q21, q22, q23, q24, q25, q26, q27, q28, q29, q30, q31, q106⟩ := hF
  obtain ⟨u, hu⟩ := frame_pl t' hs1
  simp only at hd1 q0 q1 q2 q3 q8 q9 q10 q11 q12 q13 q14 q15 q16 q17 q18 q19 q20 q21 q22 q23 q24 q25 q26 q27 q28 q29 q30 q31 q106
  subst hu hd1
  have e0 : u 0 = v0 := q0
  have e1 : u 1 = v1 := q1
  have e2 : u 2 = v2 := q2
  have e3 : u 3 = v3 := q3
  have e8 : u 8 = v8 := q8
  have e9 : u 9 = v9 := q9
  have e10 : u 10 = .slice (some ⟨g, 0, none⟩) n cp := q10
  have e11 : u 11 = v11 := q11
  have e12 : u 12 = v12 := q12
  have e13 : u 13 = v13 := q13
  have e14 : u 14 = v14 := q14
  have e15 : u 15 = .int .i64 (k : Int) := q15
  have e16 : u 16 = v16 := q16
  have e17 : u 17 = v17 := q17
  have e18 : u 18 = v18 := q18
  have e19 : u 19 = v19 := q19
  have e20 : u 20 = v20 := q20
  have e21 : u 21 = v21 := q21
  have e22 : u 22 = v22 := q22
  have e23 : u 23 = v23 := q23
  have e24 : u 24 = v24 := q24
  have e25 : u 25 = v25 := q25
  have e26 : u 26 = v26 := q26
  have e27 : u 27 = v27 := q27
  have e28 : u 28 = v28 := q28
  have e29 : u 29 = v29 := q29
  have e30 : u 30 = v30 := q30
  have e31 : u 31 = v31 := q31
  have e106 : u 106 = v106 := q106
  rw [e0, e1, e2, e3, e8, e9, e10, e11, e12, e13, e14, e15, e16, e17, e18, e19, e20, e21, e22, e23, e24, e25, e26, e27, e28, e29, e30, e31, e106]
  clear q0 e0 q1 e1 q2 e2 q3 e3 q8 e8 q9 e9 q10 e10 q11 e11 q12 e12 q13 e13 q14 e14 q15 e15 q16 e16 q17 e17 q18 e18 q19 e19 q20 e20 q21 e21 q22 e22 q23 e23 q24 e24 q25 e25 q26 e26 q27 e27 q28 e28 q29 e29 q30 e30 q31 e31 q106 e106 hs1
  simp only [Try.f3, Option.getD_some, regOf] at hc
  injection hc with hc
  subst hc
  have i0 : (0 : Int) ≤ (k : Int) := by omega
  have i1 : (k : Int) < (n : Int) := by omega
  clear hk
  go_wp2
  exact HQ.out _ ⟨rfl, rfl, rfl, rfl, rfl, rfl, rfl, rfl, rfl, rfl, rfl, rfl, rfl, rfl, rfl, rfl, rfl, rfl, rfl, rfl, rfl, rfl, rfl, rfl, rfl, rfl, rfl, rfl, rfl, rfl, rfl⟩
set_option maxHeartbeats 8000000 in
set_option maxRecDepth 100000 in
theorem pl_r12 {K : Act → World → Prop} {c : Code} (hc : regOf (Try.f3.body.getD .skip) 12 = some c) (a : Act) {v : Vpl} {wq : World} {k : Nat} (hF : Fpl a v) (h15v : v.v15 = .int .i64 (k : Int)) (hk : k ≤ 17592186044416) (hQ : ∀ a', Fpl a' { v with v15 := .int .i64 ((k + 1 : Nat) : Int) } → K a' wq) :
    Code.wp Try.prog c (Exit.then K fun _ _ _ => False) a wq := by
  have HQ := hide hQ
  clear hQ
  obtain ⟨t', d'⟩ := a
  obtain ⟨v0, v1, v2, v3, v8, v9, v10, v11, v12, v13, v14, v15, v16, v17, v18, v19, v20, v21, v22, v23, v24, v25, v26, v27, v28, v29, v30, v31, v106⟩ := v
  simp only at h15v HQ
  subst h15v
  obtain ⟨hs1, hd1, q0, q1, q2, q3, q8, q9, q10, q11, q12, q13, q14, q15, q16, q17, q18, q19, q20, q21, q22, q23, q24, q25, q26, q27, q28, q29, q30, q31, q106⟩ := hF
  obtain ⟨u, hu⟩ := frame_pl t' hs1
  simp only at hd1 q0 q1 q2 q3 q8 q9 q10 q11 q12 q13 q14 q15 q16 q17 q18 q19 q20 q21 q22 q23 q24 q25 q26 q27 q28 q29 q30 q31 q106
  subst hu hd1
  have e0 : u 0 = v0 := q0
  have e1 : u 1 = v1 := q1
  have e2 : u 2 = v2 := q2
  have e3 : u 3 = v3 := q3
  have e8 : u 8 = v8 := q8
  have e9 : u 9 = v9 := q9
  have e10 : u 10 = v10 := q10
  have e11 : u 11 = v11 := q11
  have e12 : u 12 = v12 := q12
  have e13 : u 13 = v13 := q13
  have e14 : u 14 = v14 := q14
  have e15 : u 15 = .int .i64 (k : Int) := q15
  have e16 : u 16 = v16 := q16
  have e17 : u 17 = v17 := q17
  have e18 : u 18 = v18 := q18
  have e19 : u 19 = v19 := q19
  have e20 : u 20 = v20 := q20
  have e21 : u 21 = v21 := q21
  have e22 : u 22 = v22 := q22
  have e23 : u 23 = v23 := q23
  have e24 : u 24 = v24 := q24
  have e25 : u 25 = v25 := q25
  have e26 : u 26 = v26 := q26
  have e27 : u 27 = v27 := q27
  have e28 : u 28 = v28 := q28
  have e29 : u 29 = v29 := q29
  have e30 : u 30 = v30 := q30
  have e31 : u 31 = v31 := q31
  have e106 : u 106 = v106 := q106
  rw [e0, e1, e2, e3, e8, e9, e10, e11, e12, e13, e14, e15, e16, e17, e18, e19, e20, e21, e22, e23, e24, e25, e26, e27, e28, e29, e30, e31, e106]
  clear q0 e0 q1 e1 q2 e2 q3 e3 q8 e8 q9 e9 q10 e10 q11 e11 q12 e12 q13 e13 q14 e14 q15 e15 q16 e16 q17 e17 q18 e18 q19 e19 q20 e20 q21 e21 q22 e22 q23 e23 q24 e24 q25 e25 q26 e26 q27 e27 q28 e28 q29 e29 q30 e30 q31 e31 q106 e106 hs1
  simp only [Try.f3, Option.getD_some, regOf] at hc
  injection hc with hc
  subst hc
  have hc : ((k + 1 : Nat) : Int) = (k : Int) + 1 := by omega
  rw [hc] at HQ
  go_wp2
  exact HQ.out _ ⟨rfl, rfl, rfl, rfl, rfl, rfl, rfl, rfl, rfl, rfl, rfl, rfl, rfl, rfl, rfl, rfl, rfl, rfl, rfl, rfl, rfl, rfl, rfl, rfl, rfl, rfl, rfl, rfl, rfl, rfl, rfl⟩
set_option maxHeartbeats 8000000 in
set_option maxRecDepth 100000 in
theorem pl_r14 {K : Act → World → Prop} {c : Code} (hc : regOf (Try.f3.body.getD .skip) 14 = some c) (a : Act) {v : Vpl} {wq : World}  (hF : Fpl a v) (hQ : ∀ a', Fpl a' { v with v16 := .int .i64 ((0 : Nat) : Int) } → K a' wq) :
    Code.wp Try.prog c (Exit.then K fun _ _ _ => False) a wq := by
  have HQ := hide hQ
  clear hQ
  obtain ⟨t', d'⟩ := a
  obtain ⟨v0, v1, v2, v3, v8, v9, v10, v11, v12, v13, v14, v15, v16, v17, v18, v19, v20, v21, v22, v23, v24, v25, v26, v27, v28, v29, v30, v31, v106⟩ := v
  obtain ⟨hs1, hd1, q0, q1, q2, q3, q8, q9, q10, q11, q12, q13, q14, q15, q16, q17, q18, q19, q20, q21, q22, q23, q24, q25, q26, q27, q28, q29, q30, q31, q106⟩ := hF
  obtain ⟨u, hu⟩ := frame_pl t' hs1
  simp only at hd1 q0 q1 q2 q3 q8 q9 q10 q11 q12 q13 q14 q15 q16 q17 q18 q19 q20 q21 q22 q23 q24 q25 q26 q27 q28 q29 q30 q31 q106
  subst hu hd1
  have e0 : u 0 = v0 := q0
  have e1 : u 1 = v1 := q1
  have e2 : u 2 = v2 := q2
  have e3 : u 3 = v3 := q3
  have e8 : u 8 = v8 := q8
  have e9 : u 9 = v9 := q9
  have e10 : u 10 = v10 := q10
  have e11 : u 11 = v11 := q11
  have e12 : u 12 = v12 := q12
  have e13 : u 13 = v13 := q13
  have e14 : u 14 = v14 := q14
  have e15 : u 15 = v15 := q15
  have e16 : u 16 = v16 := q16
  have e17 : u 17 = v17 := q17
  have e18 : u 18 = v18 := q18
  have e19 : u 19 = v19 := q19
  have e20 : u 20 = v20 := q20
  have e21 : u 21 = v21 := q21
  have e22 : u 22 = v22 := q22
  have e23 : u 23 = v23 := q23
  have e24 : u 24 = v24 := q24
  have e25 : u 25 = v25 := q25
  have e26 : u 26 = v26 := q26
  have e27 : u 27 = v27 := q27
  have e28 : u 28 = v28 := q28
  have e29 : u 29 = v29 := q29
  have e30 : u 30 = v30 := q30
  have e31 : u 31 = v31 := q31
  have e106 : u 106 = v106 := q106
  rw [e0, e1, e2, e3, e8, e9, e10, e11, e12, e13, e14, e15, e16, e17, e18, e19, e20, e21, e22, e23, e24, e25, e26, e27, e28, e29, e30, e31, e106]
  clear q0 e0 q1 e1 q2 e2 q3 e3 q8 e8 q9 e9 q10 e10 q11 e11 q12 e12 q13 e13 q14 e14 q15 e15 q16 e16 q17 e17 q18 e18 q19 e19 q20 e20 q21 e21 q22 e22 q23 e23 q24 e24 q25 e25 q26 e26 q27 e27 q28 e28 q29 e29 q30 e30 q31 e31 q106 e106 hs1
  simp only [Try.f3, Option.getD_some, regOf] at hc
  injection hc with hc
  subst hc
  go_wp2
  exact HQ.out _ ⟨rfl, rfl, rfl, rfl, rfl, rfl, rfl, rfl, rfl, rfl, rfl, rfl, rfl, rfl, rfl, rfl, rfl, rfl, rfl, rfl, rfl, rfl, rfl, rfl, rfl, rfl, rfl, rfl, rfl, rfl, rfl⟩
set_option maxHeartbeats 8000000 in
set_option maxRecDepth 100000 in
theorem pl_r15n {K : Act → World → Prop} {c : Code} (hc : regOf (Try.f3.body.getD .skip) 15 = some c) (a : Act) {v : Vpl} {wq : World} {ao : Option Addr} {n cp k : Nat} (hF : Fpl a v) (h11v : v.v11 = .slice ao n cp) (h16v : v.v16 = .int .i64 (k : Int)) (hk : ¬ (k : Int) < (n : Int)) (hQ : ∀ a', Fpl a' v → a'.tmps.getD 84 undef = .bool false → K a' wq) :
    Code.wp Try.prog c (Exit.then K fun _ _ _ => False) a wq := by
  have HQ := hide hQ
  clear hQ
  obtain ⟨t', d'⟩ := a
  obtain ⟨v0, v1, v2, v3, v8, v9, v10, v11, v12, v13, v14, v15, v16, v17, v18, v19, v20, v21, v22, v23, v24, v25, v26, v27, v28, v29, v30, v31, v106⟩ := v
  simp only at h11v h16v HQ
  subst h11v h16v
  obtain ⟨hs1, hd1, q0, q1, q2, q3, q8, q9, q10, q11, q12, q13, q14, q15, q16, q17, q18, q19, q20, q21, q22, q23, q24, q25, q26, q27, q28, q29, q30, q31, q106⟩ := hF
  obtain ⟨u, hu⟩ := frame_pl t' hs1
  simp only at hd1 q0 q1 q2 q3 q8 q9 q10 q11 q12 q13 q14 q15 q16 q17 q18 q19 q20 q21 q22 q23 q24 q25 q26 q27 q28 q29 q30 q31 q106
  subst hu hd1
  have e0 : u 0 = v0 := q0
  have e1 : u 1 = v1 := q1
  have e2 : u 2 = v2 := q2
  have e3 : u 3 = v3 := q3
  have e8 : u 8 = v8 := q8
  have e9 : u 9 = v9 := q9
  have e10 : u 10 = v10 := q10
  have e11 : u 11 = .slice ao n cp := q11
  have e12 : u 12 = v12 := q12
  have e13 : u 13 = v13 := q13
  have e14 : u 14 = v14 := q14
  have e15 : u 15 = v15 := q15
  have e16 : u 16 = .int .i64 (k : Int) := q16
  have e17 : u 17 = v17 := q17
  have e18 : u 18 = v18 := q18
  have e19 : u 19 = v19 := q19
  have e20 : u 20 = v20 := q20
  have e21 : u 21 = v21 := q21
  have e22 : u 22 = v22 := q22
  have e23 : u 23 = v23 := q23
  have e24 : u 24 = v24 := q24
  have e25 : u 25 = v25 := q25
  have e26 : u 26 = v26 := q26
  have e27 : u 27 = v27 := q27
  have e28 : u 28 = v28 := q28
  have e29 : u 29 = v29 := q29
  have e30 : u 30 = v30 := q30
  have e31 : u 31 = v31 := q31
  have e106 : u 106 = v106 := q106
  rw [e0, e1, e2, e3, e8, e9, e10, e11, e12, e13, e14, e15, e16, e17, e18, e19, e20, e21, e22, e23, e24, e25, e26, e27, e28, e29, e30, e31, e106]
  clear q0 e0 q1 e1 q2 e2 q3 e3 q8 e8 q9 e9 q10 e10 q11 e11 q12 e12 q13 e13 q14 e14 q15 e15 q16 e16 q17 e17 q18 e18 q19 e19 q20 e20 q21 e21 q22 e22 q23 e23 q24 e24 q25 e25 q26 e26 q27 e27 q28 e28 q29 e29 q30 e30 q31 e31 q106 e106 hs1
  simp only [Try.f3, Option.getD_some, regOf] at hc
  injection hc with hc
  subst hc
  have hd : decide ((k : Int) < (n : Int)) = false := decide_eq_false hk
  go_wp2
  exact HQ.out _ ⟨rfl, rfl, rfl, rfl, rfl, rfl, rfl, rfl, rfl, rfl, rfl, rfl, rfl, rfl, rfl, rfl, rfl, rfl, rfl, rfl, rfl, rfl, rfl, rfl, rfl, rfl, rfl, rfl, rfl, rfl, rfl⟩ (by first | rfl | (simp; done))
set_option maxHeartbeats 8000000 in
set_option maxRecDepth 100000 in
theorem pl_r15y {K : Act → World → Prop} {c : Code} (hc : regOf (Try.f3.body.getD .skip) 15 = some c) (a : Act) {v : Vpl} {wq : World} {ao : Option Addr} {n cp k : Nat} (hF : Fpl a v) (h11v : v.v11 = .slice ao n cp) (h16v : v.v16 = .int .i64 (k : Int)) (hk : (k : Int) < (n : Int)) (hQ : ∀ a', Fpl a' v → a'.tmps.getD 84 undef = .bool true → K a' wq) :
    Code.wp Try.prog c (Exit.then K fun _ _ _ => False) a wq := by
  have HQ := hide hQ
  clear hQ
  obtain ⟨t', d'⟩ := a
  obtain ⟨v0, v1, v2, v3, v8, v9, v10, v11, v12, v13, v14, v15, v16, v17, v18, v19, v20, v21, v22, v23, v24, v25, v26, v27, v28, v29, v30, v31, v106⟩ := v
  simp only at h11v h16v HQ
  subst h11v h16v
  obtain ⟨hs1, hd1, q0, q1, q2, q3, q8, q9, q10, q11, q12, q13, q14, q15, q16, q17, q18, q19, q20, q21, q22, q23, q24, q25, q26, q27, q28, q29, q30, q31, q106⟩ := hF
  obtain ⟨u, hu⟩ := frame_pl t' hs1
  simp only at hd1 q0 q1 q2 q3 q8 q9 q10 q11 q12 q13 q14 q15 q16 q17 q18 q19 q20 q21 q22 q23 q24 q25 q26 q27 q28 q29 q30 q31 q106
  subst hu hd1
  have e0 : u 0 = v0 := q0
  have e1 : u 1 = v1 := q1
  have e2 : u 2 = v2 := q2
  have e3 : u 3 = v3 := q3
  have e8 : u 8 = v8 := q8
  have e9 : u 9 = v9 := q9
  have e10 : u 10 = v10 := q10
  have e11 : u 11 = .slice ao n cp := q11
  have e12 : u 12 = v12 := q12
  have e13 : u 13 = v13 := q13
  have e14 : u 14 = v14 := q14
  have e15 : u 15 = v15 := q15
  have e16 : u 16 = .int .i64 (k : Int) := q16
  have e17 : u 17 = v17 := q17
  have e18 : u 18 = v18 := q18
  have e19 : u 19 = v19 := q19
  have e20 : u 20 = v20 := q20
  have e21 : u 21 = v21 := q21
  have e22 : u 22 = v22 := q22
  have e23 : u 23 = v23 := q23
  have e24 : u 24 = v24 := q24
  have e25 : u 25 = v25 := q25
  have e26 : u 26 = v26 := q26
  have e27 : u 27 = v27 := q27
  have e28 : u 28 = v28 := q28
  have e29 : u 29 = v29 := q29
  have e30 : u 30 = v30 := q30
  have e31 : u 31 = v31 := q31
  have e106 : u 106 = v106 := q106
  rw [e0, e1, e2, e3, e8, e9, e10, e11, e12, e13, e14, e15, e16, e17, e18, e19, e20, e21, e22, e23, e24, e25, e26, e27, e28, e29, e30, e31, e106]
  clear q0 e0 q1 e1 q2 e2 q3 e3 q8 e8 q9 e9 q10 e10 q11 e11 q12 e12 q13 e13 q14 e14 q15 e15 q16 e16 q17 e17 q18 e18 q19 e19 q20 e20 q21 e21 q22 e22 q23 e23 q24 e24 q25 e25 q26 e26 q27 e27 q28 e28 q29 e29 q30 e30 q31 e31 q106 e106 hs1
  simp only [Try.f3, Option.getD_some, regOf] at hc
  injection hc with hc
  subst hc
  have hd : decide ((k : Int) < (n : Int)) = true := decide_eq_true hk
  go_wp2
  exact HQ.out _ ⟨rfl, rfl, rfl, rfl, rfl, rfl, rfl, rfl, rfl, rfl, rfl, rfl, rfl, rfl, rfl, rfl, rfl, rfl, rfl, rfl, rfl, rfl, rfl, rfl, rfl, rfl, rfl, rfl, rfl, rfl, rfl⟩ (by first | rfl | (simp; done))
set_option maxHeartbeats 8000000 in
set_option maxRecDepth 100000 in
theorem pl_r17 {K : Act → World → Prop} {c : Code} (hc : regOf (Try.f3.body.getD .skip) 17 = some c) (a : Act) {v : Vpl} {wq : World} {g n cp k : Nat} {x : Value} (hF : Fpl a v) (h11v : v.v11 = .slice (some ⟨g, 0, none⟩) n cp) (h16v : v.v16 = .int .i64 (k : Int)) (hk : k < n) (hcl : wq.cell? ⟨g, k, none⟩ = some x) (hfr : wq.frozen? ⟨g, k, none⟩ = false)
    (hQ : ∀ a', Fpl a' v → K a' (wq.setCell ⟨g, k, none⟩ (.string ⟨#[63]⟩))) :
    Code.wp Try.prog c (Exit.then K fun _ _ _ => False) a wq := by
  have HQ := hide hQ
  clear hQ
  obtain ⟨t', d'⟩ := a
  obtain ⟨v0, v1, v2, v3, v8, v9, v10, v11, v12, v13, v14, v15, v16, v17, v18, v19, v20, v21, v22, v23, v24, v25, v26, v27, v28, v29, v30, v31, v106⟩ := v
  simp only at h11v h16v HQ
  subst h11v h16v
  obtain ⟨hs1, hd1, q0, q1, q2, q3, q8, q9, q10, q11, q12, q13, q14, q15, q16, q17, q18, q19, q20, q21, q22, q23, q24, q25, q26, q27, q28, q29, q30, q31, q106⟩ := hF
  obtain ⟨u, hu⟩ := frame_pl t' hs1
  simp only at hd1 q0 q1 q2 q3 q8 q9 q10 q11 q12 q13 q14 q15 q16 q17 q18 q19 q20 q21 q22 q23 q24 q25 q26 q27 q28 q29 q30 q31 q106
  subst hu hd1
  have e0 : u 0 = v0 := q0
  have e1 : u 1 = v1 := q1
  have e2 : u 2 = v2 := q2
  have e3 : u 3 = v3 := q3
  have e8 : u 8 = v8 := q8
  have e9 : u 9 = v9 := q9
  have e10 : u 10 = v10 := q10
  have e11 : u 11 = .slice (some ⟨g, 0, none⟩) n cp := q11
  have e12 : u 12 = v12 := q12
  have e13 : u 13 = v13 := q13
  have e14 : u 14 = v14 := q14
  have e15 : u 15 = v15 := q15
  have e16 : u 16 = .int .i64 (k : Int) := q16
  have e17 : u 17 = v17 := q17
  have e18 : u 18 = v18 := q18
  have e19 : u 19 = v19 := q19
  have e20 : u 20 = v20 := q20
  have e21 : u 21 = v21 := q21
  have e22 : u 22 = v22 := q22
  have e23 : u 23 = v23 := q23
  have e24 : u 24 = v24 := q24
  have e25 : u 25 = v25 := q25
  have e26 : u 26 = v26 := q26
  have e27 : u 27 = v27 := q27
  have e28 : u 28 = v28 := q28
  have e29 : u 29 = v29 := q29
  have e30 : u 30 = v30 := q30
  have e31 : u 31 = v31 := q31
  have e106 : u 106 = v106 := q106
  rw [e0, e1, e2, e3, e8, e9, e10, e11, e12, e13, e14, e15, e16, e17, e18, e19, e20, e21, e22, e23, e24, e25, e26, e27, e28, e29, e30, e31, e106]
  clear q0 e0 q1 e1 q2 e2 q3 e3 q8 e8 q9 e9 q10 e10 q11 e11 q12 e12 q13 e13 q14 e14 q15 e15 q16 e16 q17 e17 q18 e18 q19 e19 q20 e20 q21 e21 q22 e22 q23 e23 q24 e24 q25 e25 q26 e26 q27 e27 q28 e28 q29 e29 q30 e30 q31 e31 q106 e106 hs1
  simp only [Try.f3, Option.getD_some, regOf] at hc
  injection hc with hc
  subst hc
  have i0 : (0 : Int) ≤ (k : Int) := by omega
  have i1 : (k : Int) < (n : Int) := by omega
  clear hk
  go_wp2
  exact HQ.out _ ⟨rfl, rfl, rfl, rfl, rfl, rfl, rfl, rfl, rfl, rfl, rfl, rfl, rfl, rfl, rfl, rfl, rfl, rfl, rfl, rfl, rfl, rfl, rfl, rfl, rfl, rfl, rfl, rfl, rfl, rfl, rfl⟩
set_option maxHeartbeats 8000000 in
set_option maxRecDepth 100000 in
theorem pl_r16 {K : Act → World → Prop} {c : Code} (hc : regOf (Try.f3.body.getD .skip) 16 = some c) (a : Act) {v : Vpl} {wq : World} {k : Nat} (hF : Fpl a v) (h16v : v.v16 = .int .i64 (k : Int)) (hk : k ≤ 17592186044416) (hQ : ∀ a', Fpl a' { v with v16 := .int .i64 ((k + 1 : Nat) : Int) } → K a' wq) :
    Code.wp Try.prog c (Exit.then K fun _ _ _ => False) a wq := by
  have HQ := hide hQ
  clear hQ
  obtain ⟨t', d'⟩ := a
  obtain ⟨v0, v1, v2, v3, v8, v9, v10, v11, v12, v13, v14, v15, v16, v17, v18, v19, v20, v21, v22, v23, v24, v25, v26, v27, v28, v29, v30, v31, v106⟩ := v
  simp only at h16v HQ
  subst h16v
  obtain ⟨hs1, hd1, q0, q1, q2, q3, q8, q9, q10, q11, q12, q13, q14, q15, q16, q17, q18, q19, q20, q21, q22, q23, q24, q25, q26, q27, q28, q29, q30, q31, q106⟩ := hF
  obtain ⟨u, hu⟩ := frame_pl t' hs1
  simp only at hd1 q0 q1 q2 q3 q8 q9 q10 q11 q12 q13 q14 q15 q16 q17 q18 q19 q20 q21 q22 q23 q24 q25 q26 q27 q28 q29 q30 q31 q106
  subst hu hd1
  have e0 : u 0 = v0 := q0
  have e1 : u 1 = v1 := q1
  have e2 : u 2 = v2 := q2
  have e3 : u 3 = v3 := q3
  have e8 : u 8 = v8 := q8
  have e9 : u 9 = v9 := q9
  have e10 : u 10 = v10 := q10
  have e11 : u 11 = v11 := q11
  have e12 : u 12 = v12 := q12
  have e13 : u 13 = v13 := q13
  have e14 : u 14 = v14 := q14
  have e15 : u 15 = v15 := q15
  have e16 : u 16 = .int .i64 (k : Int) := q16
  have e17 : u 17 = v17 := q17
  have e18 : u 18 = v18 := q18
  have e19 : u 19 = v19 := q19
  have e20 : u 20 = v20 := q20
  have e21 : u 21 = v21 := q21
  have e22 : u 22 = v22 := q22
  have e23 : u 23 = v23 := q23
  have e24 : u 24 = v24 := q24
  have e25 : u 25 = v25 := q25
  have e26 : u 26 = v26 := q26
  have e27 : u 27 = v27 := q27
  have e28 : u 28 = v28 := q28
  have e29 : u 29 = v29 := q29
  have e30 : u 30 = v30 := q30
  have e31 : u 31 = v31 := q31
  have e106 : u 106 = v106 := q106
  rw [e0, e1, e2, e3, e8, e9, e10, e11, e12, e13, e14, e15, e16, e17, e18, e19, e20, e21, e22, e23, e24, e25, e26, e27, e28, e29, e30, e31, e106]
  clear q0 e0 q1 e1 q2 e2 q3 e3 q8 e8 q9 e9 q10 e10 q11 e11 q12 e12 q13 e13 q14 e14 q15 e15 q16 e16 q17 e17 q18 e18 q19 e19 q20 e20 q21 e21 q22 e22 q23 e23 q24 e24 q25 e25 q26 e26 q27 e27 q28 e28 q29 e29 q30 e30 q31 e31 q106 e106 hs1
  simp only [Try.f3, Option.getD_some, regOf] at hc
  injection hc with hc
  subst hc
  have hc : ((k + 1 : Nat) : Int) = (k : Int) + 1 := by omega
  rw [hc] at HQ
  go_wp2
  exact HQ.out _ ⟨rfl, rfl, rfl, rfl, rfl, rfl, rfl, rfl, rfl, rfl, rfl, rfl, rfl, rfl, rfl, rfl, rfl, rfl, rfl, rfl, rfl, rfl, rfl, rfl, rfl, rfl, rfl, rfl, rfl, rfl, rfl⟩
end Go.Proofs.Ytjgbgbgajadgnaa
