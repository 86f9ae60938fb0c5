/-
  SubsPlays' regions (mkpy.py).
-/
import Derived.Test.YtominplelmbecaaZSXa
import Derived.Test.YtominplelmbecaaZXA
namespace Go.Proofs.Ytominplelmbecaa.Y
open Go.RowKit

attribute [local go_sem ↓] Go.wp_at_zero Go.wp_at_succ
set_option linter.unusedSimpArgs false
set_option linter.unusedVariables false
set_option maxRecDepth 100000 in
theorem frame_py (t : Array Value) (h : t.size = 202) : ∃ u : Nat → Value, t = List.toArray (u 0 :: u 1 :: u 2 :: u 3 :: u 4 :: u 5 :: u 6 :: u 7 :: u 8 :: u 9 :: u 10 :: u 11 :: u 12 :: u 13 :: u 14 :: u 15 :: u 16 :: u 17 :: u 18 :: u 19 :: u 20 :: u 21 :: u 22 :: u 23 :: u 24 :: u 25 :: u 26 :: u 27 :: u 28 :: u 29 :: u 30 :: u 31 :: u 32 :: u 33 :: u 34 :: u 35 :: u 36 :: u 37 :: u 38 :: u 39 :: u 40 :: u 41 :: u 42 :: u 43 :: u 44 :: u 45 :: u 46 :: u 47 :: u 48 :: u 49 :: u 50 :: u 51 :: u 52 :: u 53 :: u 54 :: u 55 :: u 56 :: u 57 :: u 58 :: u 59 :: u 60 :: u 61 :: u 62 :: u 63 :: u 64 :: u 65 :: u 66 :: u 67 :: u 68 :: u 69 :: u 70 :: u 71 :: u 72 :: u 73 :: u 74 :: u 75 :: u 76 :: u 77 :: u 78 :: u 79 :: u 80 :: u 81 :: u 82 :: u 83 :: u 84 :: u 85 :: u 86 :: u 87 :: u 88 :: u 89 :: u 90 :: u 91 :: u 92 :: u 93 :: u 94 :: u 95 :: u 96 :: u 97 :: u 98 :: u 99 :: u 100 :: u 101 :: u 102 :: u 103 :: u 104 :: u 105 :: u 106 :: u 107 :: u 108 :: u 109 :: u 110 :: u 111 :: u 112 :: u 113 :: u 114 :: u 115 :: u 116 :: u 117 :: u 118 :: u 119 :: u 120 :: u 121 :: u 122 :: u 123 :: u 124 :: u 125 :: u 126 :: u 127 :: u 128 :: u 129 :: u 130 :: u 131 :: u 132 :: u 133 :: u 134 :: u 135 :: u 136 :: u 137 :: u 138 :: u 139 :: u 140 :: u 141 :: u 142 :: u 143 :: u 144 :: u 145 :: u 146 :: u 147 :: u 148 :: u 149 :: u 150 :: u 151 :: u 152 :: u 153 :: u 154 :: u 155 :: u 156 :: u 157 :: u 158 :: u 159 :: u 160 :: u 161 :: u 162 :: u 163 :: u 164 :: u 165 :: u 166 :: u 167 :: u 168 :: u 169 :: u 170 :: u 171 :: u 172 :: u 173 :: u 174 :: u 175 :: u 176 :: u 177 :: u 178 :: u 179 :: u 180 :: u 181 :: u 182 :: u 183 :: u 184 :: u 185 :: u 186 :: u 187 :: u 188 :: u 189 :: u 190 :: u 191 :: u 192 :: u 193 :: u 194 :: u 195 :: u 196 :: u 197 :: u 198 :: u 199 :: u 200 :: u 201 :: []) := by
  refine ⟨fun i => t.getD i undef, ?_⟩
  have e : (List.toArray ((fun i => t.getD i undef) 0 :: (fun i => t.getD i undef) 1 :: (fun i => t.getD i undef) 2 :: (fun i => t.getD i undef) 3 :: (fun i => t.getD i undef) 4 :: (fun i => t.getD i undef) 5 :: (fun i => t.getD i undef) 6 :: (fun i => t.getD i undef) 7 :: (fun i => t.getD i undef) 8 :: (fun i => t.getD i undef) 9 :: (fun i => t.getD i undef) 10 :: (fun i => t.getD i undef) 11 :: (fun i => t.getD i undef) 12 :: (fun i => t.getD i undef) 13 :: (fun i => t.getD i undef) 14 :: (fun i => t.getD i undef) 15 :: (fun i => t.getD i undef) 16 :: (fun i => t.getD i undef) 17 :: (fun i => t.getD i undef) 18 :: (fun i => t.getD i undef) 19 :: (fun i => t.getD i undef) 20 :: (fun i => t.getD i undef) 21 :: (fun i => t.getD i undef) 22 :: (fun i => t.getD i undef) 23 :: (fun i => t.getD i undef) 24 :: (fun i => t.getD i undef) 25 :: (fun i => t.getD i undef) 26 :: (fun i => t.getD i undef) 27 :: (fun i => t.getD i undef) 28 :: (fun i => t.getD i undef) 29 :: (fun i => t.getD i undef) 30 :: (fun i => t.getD i undef) 31 :: (fun i => t.getD i undef) 32 :: (fun i => t.getD i undef) 33 :: (fun i => t.getD i undef) 34 :: (fun i => t.getD i undef) 35 :: (fun i => t.getD i undef) 36 :: (fun i => t.getD i undef) 37 :: (fun i => t.getD i undef) 38 :: (fun i => t.getD i undef) 39 :: (fun i => t.getD i undef) 40 :: (fun i => t.getD i undef) 41 :: (fun i => t.getD i undef) 42 :: (fun i => t.getD i undef) 43 :: (fun i => t.getD i undef) 44 :: (fun i => t.getD i undef) 45 :: (fun i => t.getD i undef) 46 :: (fun i => t.getD i undef) 47 :: (fun i => t.getD i undef) 48 :: (fun i => t.getD i undef) 49 :: (fun i => t.getD i undef) 50 :: (fun i => t.getD i undef) 51 :: (fun i => t.getD i undef) 52 :: (fun i => t.getD i undef) 53 :: (fun i => t.getD i undef) 54 :: (fun i => t.getD i undef) 55 :: (fun i => t.getD i undef) 56 :: (fun i => t.getD i undef) 57 :: (fun i => t.getD i undef) 58 :: (fun i => t.getD i undef) 59 :: (fun i => t.getD i undef) 60 :: (fun i => t.getD i undef) 61 :: (fun i => t.getD i undef) 62 :: (fun i => t.getD i undef) 63 :: (fun i => t.getD i undef) 64 :: (fun i => t.getD i undef) 65 :: (fun i => t.getD i undef) 66 :: (fun i => t.getD i undef) 67 :: (fun i => t.getD i undef) 68 :: (fun i => t.getD i undef) 69 :: (fun i => t.getD i undef) 70 :: (fun i => t.getD i undef) 71 :: (fun i => t.getD i undef) 72 :: (fun i => t.getD i undef) 73 :: (fun i => t.getD i undef) 74 :: (fun i => t.getD i undef) 75 :: (fun i => t.getD i undef) 76 :: (fun i => t.getD i undef) 77 :: (fun i => t.getD i undef) 78 :: (fun i => t.getD i undef) 79 :: (fun i => t.getD i undef) 80 :: (fun i => t.getD i undef) 81 :: (fun i => t.getD i undef) 82 :: (fun i => t.getD i undef) 83 :: (fun i => t.getD i undef) 84 :: (fun i => t.getD i undef) 85 :: (fun i => t.getD i undef) 86 :: (fun i => t.getD i undef) 87 :: (fun i => t.getD i undef) 88 :: (fun i => t.getD i undef) 89 :: (fun i => t.getD i undef) 90 :: (fun i => t.getD i undef) 91 :: (fun i => t.getD i undef) 92 :: (fun i => t.getD i undef) 93 :: (fun i => t.getD i undef) 94 :: (fun i => t.getD i undef) 95 :: (fun i => t.getD i undef) 96 :: (fun i => t.getD i undef) 97 :: (fun i => t.getD i undef) 98 :: (fun i => t.getD i undef) 99 :: (fun i => t.getD i undef) 100 :: (fun i => t.getD i undef) 101 :: (fun i => t.getD i undef) 102 :: (fun i => t.getD i undef) 103 :: (fun i => t.getD i undef) 104 :: (fun i => t.getD i undef) 105 :: (fun i => t.getD i undef) 106 :: (fun i => t.getD i undef) 107 :: (fun i => t.getD i undef) 108 :: (fun i => t.getD i undef) 109 :: (fun i => t.getD i undef) 110 :: (fun i => t.getD i undef) 111 :: (fun i => t.getD i undef) 112 :: (fun i => t.getD i undef) 113 :: (fun i => t.getD i undef) 114 :: (fun i => t.getD i undef) 115 :: (fun i => t.getD i undef) 116 :: (fun i => t.getD i undef) 117 :: (fun i => t.getD i undef) 118 :: (fun i => t.getD i undef) 119 :: (fun i => t.getD i undef) 120 :: (fun i => t.getD i undef) 121 :: (fun i => t.getD i undef) 122 :: (fun i => t.getD i undef) 123 :: (fun i => t.getD i undef) 124 :: (fun i => t.getD i undef) 125 :: (fun i => t.getD i undef) 126 :: (fun i => t.getD i undef) 127 :: (fun i => t.getD i undef) 128 :: (fun i => t.getD i undef) 129 :: (fun i => t.getD i undef) 130 :: (fun i => t.getD i undef) 131 :: (fun i => t.getD i undef) 132 :: (fun i => t.getD i undef) 133 :: (fun i => t.getD i undef) 134 :: (fun i => t.getD i undef) 135 :: (fun i => t.getD i undef) 136 :: (fun i => t.getD i undef) 137 :: (fun i => t.getD i undef) 138 :: (fun i => t.getD i undef) 139 :: (fun i => t.getD i undef) 140 :: (fun i => t.getD i undef) 141 :: (fun i => t.getD i undef) 142 :: (fun i => t.getD i undef) 143 :: (fun i => t.getD i undef) 144 :: (fun i => t.getD i undef) 145 :: (fun i => t.getD i undef) 146 :: (fun i => t.getD i undef) 147 :: (fun i => t.getD i undef) 148 :: (fun i => t.getD i undef) 149 :: (fun i => t.getD i undef) 150 :: (fun i => t.getD i undef) 151 :: (fun i => t.getD i undef) 152 :: (fun i => t.getD i undef) 153 :: (fun i => t.getD i undef) 154 :: (fun i => t.getD i undef) 155 :: (fun i => t.getD i undef) 156 :: (fun i => t.getD i undef) 157 :: (fun i => t.getD i undef) 158 :: (fun i => t.getD i undef) 159 :: (fun i => t.getD i undef) 160 :: (fun i => t.getD i undef) 161 :: (fun i => t.getD i undef) 162 :: (fun i => t.getD i undef) 163 :: (fun i => t.getD i undef) 164 :: (fun i => t.getD i undef) 165 :: (fun i => t.getD i undef) 166 :: (fun i => t.getD i undef) 167 :: (fun i => t.getD i undef) 168 :: (fun i => t.getD i undef) 169 :: (fun i => t.getD i undef) 170 :: (fun i => t.getD i undef) 171 :: (fun i => t.getD i undef) 172 :: (fun i => t.getD i undef) 173 :: (fun i => t.getD i undef) 174 :: (fun i => t.getD i undef) 175 :: (fun i => t.getD i undef) 176 :: (fun i => t.getD i undef) 177 :: (fun i => t.getD i undef) 178 :: (fun i => t.getD i undef) 179 :: (fun i => t.getD i undef) 180 :: (fun i => t.getD i undef) 181 :: (fun i => t.getD i undef) 182 :: (fun i => t.getD i undef) 183 :: (fun i => t.getD i undef) 184 :: (fun i => t.getD i undef) 185 :: (fun i => t.getD i undef) 186 :: (fun i => t.getD i undef) 187 :: (fun i => t.getD i undef) 188 :: (fun i => t.getD i undef) 189 :: (fun i => t.getD i undef) 190 :: (fun i => t.getD i undef) 191 :: (fun i => t.getD i undef) 192 :: (fun i => t.getD i undef) 193 :: (fun i => t.getD i undef) 194 :: (fun i => t.getD i undef) 195 :: (fun i => t.getD i undef) 196 :: (fun i => t.getD i undef) 197 :: (fun i => t.getD i undef) 198 :: (fun i => t.getD i undef) 199 :: (fun i => t.getD i undef) 200 :: (fun i => t.getD i undef) 201 :: []) : Array Value) = ((List.range 202).map fun i => t.getD i undef).toArray := rfl
  refine Eq.trans ?_ e.symm
  apply Array.ext
  · simp [h]
  · intro k h1 h2
    simp [Array.getD, h1]
/-- The slots that matter. -/
structure Vpy where
  v0 : Value
  v1 : Value
  v2 : Value
  v3 : Value
  v4 : Value
  v5 : Value
  v9 : Value
  v12 : Value
  v13 : Value
  v14 : Value
  v16 : Value
  v17 : Value
  v18 : Value
  v19 : Value
  v20 : Value
  v21 : Value
  v22 : Value
  v23 : Value
  v24 : Value
  v25 : Value
  v26 : Value
  v27 : Value
  v28 : Value
  v99 : Value
structure Fpy (a : Act) (v : Vpy) : Prop where
  size : a.tmps.size = 202
  defers : a.defers = []
  s0 : a.tmps.getD 0 undef = v.v0
  s1 : a.tmps.getD 1 undef = v.v1
  s2 : a.tmps.getD 2 undef = v.v2
  s3 : a.tmps.getD 3 undef = v.v3
  s4 : a.tmps.getD 4 undef = v.v4
  s5 : a.tmps.getD 5 undef = v.v5
  s9 : a.tmps.getD 9 undef = v.v9
  s12 : a.tmps.getD 12 undef = v.v12
  s13 : a.tmps.getD 13 undef = v.v13
  s14 : a.tmps.getD 14 undef = v.v14
  s16 : a.tmps.getD 16 undef = v.v16
  s17 : a.tmps.getD 17 undef = v.v17
  s18 : a.tmps.getD 18 undef = v.v18
  s19 : a.tmps.getD 19 undef = v.v19
  s20 : a.tmps.getD 20 undef = v.v20
  s21 : a.tmps.getD 21 undef = v.v21
  s22 : a.tmps.getD 22 undef = v.v22
  s23 : a.tmps.getD 23 undef = v.v23
  s24 : a.tmps.getD 24 undef = v.v24
  s25 : a.tmps.getD 25 undef = v.v25
  s26 : a.tmps.getD 26 undef = v.v26
  s27 : a.tmps.getD 27 undef = v.v27
  s28 : a.tmps.getD 28 undef = v.v28
  s99 : a.tmps.getD 99 undef = v.v99
set_option maxHeartbeats 8000000 in
set_option maxRecDepth 100000 in
theorem py_r0 {K : Act → World → Prop} {c : Code} (hc : regOf (Try.f3.body.getD .skip) 0 = some c) (a : Act) {v : Vpy} {wq : World} {xn xt : ByteArray} {xc xx : Int} (hF : Fpy a v) (h3v : v.v3 = .agg #[.string xn, .string xt, .int .i64 xc, .int .i64 xx]) (hQ : ∀ a', Fpy a' { v with v9 := .pointer (some ⟨wq.heap.size, 0, none⟩), v12 := .bool false } → K a' (wq.alloc (.cells #[.string xn, .string xt, .int .i64 xc, .int .i64 xx] 23))) :
    Code.wp Try.prog c (Exit.then K fun _ _ _ => False) a wq := by
  have HQ := hide hQ
  clear hQ
  obtain ⟨t', d'⟩ := a
  obtain ⟨v0, v1, v2, v3, v4, v5, v9, v12, v13, v14, v16, v17, v18, v19, v20, v21, v22, v23, v24, v25, v26, v27, v28, v99⟩ := v
  simp only at h3v HQ
  subst h3v
  obtain ⟨hs1, hd1, q0, q1, q2, q3, q4, q5, q9, q12, q13, q14, q16, q17, q18, q19, q20, q21, q22, q23, q24, q25, q26, q27, q28, q99⟩ := hF
  obtain ⟨u, hu⟩ := frame_py t' hs1
  simp only at hd1 q0 q1 q2 q3 q4 q5 q9 q12 q13 q14 q16 q17 q18 q19 q20 q21 q22 q23 q24 q25 q26 q27 q28 q99
  subst hu hd1
  have e0 : u 0 = v0 := q0
  have e1 : u 1 = v1 := q1
  have e2 : u 2 = v2 := q2
  have e3 : u 3 = .agg #[.string xn, .string xt, .int .i64 xc, .int .i64 xx] := q3
  have e4 : u 4 = v4 := q4
  have e5 : u 5 = v5 := q5
  have e9 : u 9 = v9 := q9
  have e12 : u 12 = v12 := q12
  have e13 : u 13 = v13 := q13
  have e14 : u 14 = v14 := q14
  have e16 : u 16 = v16 := q16
  have e17 : u 17 = v17 := q17
  have e18 : u 18 = v18 := q18
  have e19 : u 19 = v19 := q19
  have e20 : u 20 = v20 := q20
  have e21 : u 21 = v21 := q21
  have e22 : u 22 = v22 := q22
  have e23 : u 23 = v23 := q23
  have e24 : u 24 = v24 := q24
  have e25 : u 25 = v25 := q25
  have e26 : u 26 = v26 := q26
  have e27 : u 27 = v27 := q27
  have e28 : u 28 = v28 := q28
  have e99 : u 99 = v99 := q99
  rw [e0, e1, e2, e3, e4, e5, e9, e12, e13, e14, e16, e17, e18, e19, e20, e21, e22, e23, e24, e25, e26, e27, e28, e99]
  clear q0 e0 q1 e1 q2 e2 q3 e3 q4 e4 q5 e5 q9 e9 q12 e12 q13 e13 q14 e14 q16 e16 q17 e17 q18 e18 q19 e19 q20 e20 q21 e21 q22 e22 q23 e23 q24 e24 q25 e25 q26 e26 q27 e27 q28 e28 q99 e99 hs1
  simp only [Try.f3, Option.getD_some, regOf] at hc
  injection hc with hc
  subst hc
  go_wp2
  exact HQ.out _ ⟨rfl, rfl, rfl, rfl, rfl, rfl, rfl, rfl, rfl, rfl, rfl, rfl, rfl, rfl, rfl, rfl, rfl, rfl, rfl, rfl, rfl, rfl, rfl, rfl, rfl, rfl⟩
set_option maxHeartbeats 8000000 in
set_option maxRecDepth 100000 in
theorem py_r1 {K : Act → World → Prop} {c : Code} (hc : regOf (Try.f3.body.getD .skip) 1 = some c) (a : Act) {v : Vpy} {wq : World} {R : World → Prop} (hF : Fpy a v) (hE : Calls Try.prog 5 #[] wq fun e w' => e = .returned (.bool true) ∧ R w')
    (hQ : ∀ a' w' , Fpy a' { v with v13 := .bool true } → R w' → K a' w') :
    Code.wp Try.prog c (Exit.then K fun _ _ _ => False) a wq := by
  have HQ := hide hQ
  clear hQ
  obtain ⟨t', d'⟩ := a
  obtain ⟨v0, v1, v2, v3, v4, v5, v9, v12, v13, v14, v16, v17, v18, v19, v20, v21, v22, v23, v24, v25, v26, v27, v28, v99⟩ := v
  obtain ⟨hs1, hd1, q0, q1, q2, q3, q4, q5, q9, q12, q13, q14, q16, q17, q18, q19, q20, q21, q22, q23, q24, q25, q26, q27, q28, q99⟩ := hF
  obtain ⟨u, hu⟩ := frame_py t' hs1
  simp only at hd1 q0 q1 q2 q3 q4 q5 q9 q12 q13 q14 q16 q17 q18 q19 q20 q21 q22 q23 q24 q25 q26 q27 q28 q99
  subst hu hd1
  have e0 : u 0 = v0 := q0
  have e1 : u 1 = v1 := q1
  have e2 : u 2 = v2 := q2
  have e3 : u 3 = v3 := q3
  have e4 : u 4 = v4 := q4
  have e5 : u 5 = v5 := q5
  have e9 : u 9 = v9 := q9
  have e12 : u 12 = v12 := q12
  have e13 : u 13 = v13 := q13
  have e14 : u 14 = v14 := q14
  have e16 : u 16 = v16 := q16
  have e17 : u 17 = v17 := q17
  have e18 : u 18 = v18 := q18
  have e19 : u 19 = v19 := q19
  have e20 : u 20 = v20 := q20
  have e21 : u 21 = v21 := q21
  have e22 : u 22 = v22 := q22
  have e23 : u 23 = v23 := q23
  have e24 : u 24 = v24 := q24
  have e25 : u 25 = v25 := q25
  have e26 : u 26 = v26 := q26
  have e27 : u 27 = v27 := q27
  have e28 : u 28 = v28 := q28
  have e99 : u 99 = v99 := q99
  rw [e0, e1, e2, e3, e4, e5, e9, e12, e13, e14, e16, e17, e18, e19, e20, e21, e22, e23, e24, e25, e26, e27, e28, e99]
  clear q0 e0 q1 e1 q2 e2 q3 e3 q4 e4 q5 e5 q9 e9 q12 e12 q13 e13 q14 e14 q16 e16 q17 e17 q18 e18 q19 e19 q20 e20 q21 e21 q22 e22 q23 e23 q24 e24 q25 e25 q26 e26 q27 e27 q28 e28 q99 e99 hs1
  simp only [Try.f3, Option.getD_some, regOf] at hc
  injection hc with hc
  subst hc
  have HE := hide hE
  clear hE
  go_wp2_with (go_at_call 5; refine HE.out.mono ?_; rintro e w1 ⟨rfl, r1⟩; have R1 := hide r1; clear r1)
  exact HQ.out _ _ ⟨rfl, rfl, rfl, rfl, rfl, rfl, rfl, rfl, rfl, rfl, rfl, rfl, rfl, rfl, rfl, rfl, rfl, rfl, rfl, rfl, rfl, rfl, rfl, rfl, rfl, rfl⟩ R1.out
set_option maxHeartbeats 8000000 in
set_option maxRecDepth 100000 in
theorem py_r2 {K : Act → World → Prop} {c : Code} (hc : regOf (Try.f3.body.getD .skip) 2 = some c) (a : Act) {v : Vpy} {wq : World} {R : LOC → World → Prop} (hF : Fpy a v) (hE : Calls Try.prog 6 #[.string ⟨#[116]⟩] wq fun e w' => ∃ L : LOC, e = .returned (.tuple #[.pointer (some ⟨L.b, 0, none⟩), .int .i64 0]) ∧ R L w')
    (hQ : ∀ a' w' (L : LOC), Fpy a' { v with v14 := .pointer (some ⟨L.b, 0, none⟩) } → R L w' → K a' w') :
    Code.wp Try.prog c (Exit.then K fun _ _ _ => False) a wq := by
  have HQ := hide hQ
  clear hQ
  obtain ⟨t', d'⟩ := a
  obtain ⟨v0, v1, v2, v3, v4, v5, v9, v12, v13, v14, v16, v17, v18, v19, v20, v21, v22, v23, v24, v25, v26, v27, v28, v99⟩ := v
  obtain ⟨hs1, hd1, q0, q1, q2, q3, q4, q5, q9, q12, q13, q14, q16, q17, q18, q19, q20, q21, q22, q23, q24, q25, q26, q27, q28, q99⟩ := hF
  obtain ⟨u, hu⟩ := frame_py t' hs1
  simp only at hd1 q0 q1 q2 q3 q4 q5 q9 q12 q13 q14 q16 q17 q18 q19 q20 q21 q22 q23 q24 q25 q26 q27 q28 q99
  subst hu hd1
  have e0 : u 0 = v0 := q0
  have e1 : u 1 = v1 := q1
  have e2 : u 2 = v2 := q2
  have e3 : u 3 = v3 := q3
  have e4 : u 4 = v4 := q4
  have e5 : u 5 = v5 := q5
  have e9 : u 9 = v9 := q9
  have e12 : u 12 = v12 := q12
  have e13 : u 13 = v13 := q13
  have e14 : u 14 = v14 := q14
  have e16 : u 16 = v16 := q16
  have e17 : u 17 = v17 := q17
  have e18 : u 18 = v18 := q18
  have e19 : u 19 = v19 := q19
  have e20 : u 20 = v20 := q20
  have e21 : u 21 = v21 := q21
  have e22 : u 22 = v22 := q22
  have e23 : u 23 = v23 := q23
  have e24 : u 24 = v24 := q24
  have e25 : u 25 = v25 := q25
  have e26 : u 26 = v26 := q26
  have e27 : u 27 = v27 := q27
  have e28 : u 28 = v28 := q28
  have e99 : u 99 = v99 := q99
  rw [e0, e1, e2, e3, e4, e5, e9, e12, e13, e14, e16, e17, e18, e19, e20, e21, e22, e23, e24, e25, e26, e27, e28, e99]
  clear q0 e0 q1 e1 q2 e2 q3 e3 q4 e4 q5 e5 q9 e9 q12 e12 q13 e13 q14 e14 q16 e16 q17 e17 q18 e18 q19 e19 q20 e20 q21 e21 q22 e22 q23 e23 q24 e24 q25 e25 q26 e26 q27 e27 q28 e28 q99 e99 hs1
  simp only [Try.f3, Option.getD_some, regOf] at hc
  injection hc with hc
  subst hc
  have HE := hide hE
  clear hE
  go_wp2_with (go_at_call 6; refine HE.out.mono ?_; rintro e w1 ⟨L, rfl, r1⟩; have R1 := hide r1; clear r1)
  exact HQ.out _ _ L ⟨rfl, rfl, rfl, rfl, rfl, rfl, rfl, rfl, rfl, rfl, rfl, rfl, rfl, rfl, rfl, rfl, rfl, rfl, rfl, rfl, rfl, rfl, rfl, rfl, rfl, rfl⟩ R1.out
set_option maxHeartbeats 8000000 in
set_option maxRecDepth 100000 in
theorem py_r3 {K : Act → World → Prop} {c : Code} (hc : regOf (Try.f3.body.getD .skip) 3 = some c) (a : Act) {v : Vpy} {wq : World} {R : XL → World → Prop} (hF : Fpy a v) (hE : Calls Try.prog 7 #[.string ⟨#[116]⟩] wq fun e w' => ∃ X : XL, e = .returned (.pointer (some ⟨X.b, 0, none⟩)) ∧ R X w')
    (hQ : ∀ a' w' (X : XL), Fpy a' { v with v16 := .pointer (some ⟨X.b, 0, none⟩) } → R X w' → K a' w') :
    Code.wp Try.prog c (Exit.then K fun _ _ _ => False) a wq := by
  have HQ := hide hQ
  clear hQ
  obtain ⟨t', d'⟩ := a
  obtain ⟨v0, v1, v2, v3, v4, v5, v9, v12, v13, v14, v16, v17, v18, v19, v20, v21, v22, v23, v24, v25, v26, v27, v28, v99⟩ := v
  obtain ⟨hs1, hd1, q0, q1, q2, q3, q4, q5, q9, q12, q13, q14, q16, q17, q18, q19, q20, q21, q22, q23, q24, q25, q26, q27, q28, q99⟩ := hF
  obtain ⟨u, hu⟩ := frame_py t' hs1
  simp only at hd1 q0 q1 q2 q3 q4 q5 q9 q12 q13 q14 q16 q17 q18 q19 q20 q21 q22 q23 q24 q25 q26 q27 q28 q99
  subst hu hd1
  have e0 : u 0 = v0 := q0
  have e1 : u 1 = v1 := q1
  have e2 : u 2 = v2 := q2
  have e3 : u 3 = v3 := q3
  have e4 : u 4 = v4 := q4
  have e5 : u 5 = v5 := q5
  have e9 : u 9 = v9 := q9
  have e12 : u 12 = v12 := q12
  have e13 : u 13 = v13 := q13
  have e14 : u 14 = v14 := q14
  have e16 : u 16 = v16 := q16
  have e17 : u 17 = v17 := q17
  have e18 : u 18 = v18 := q18
  have e19 : u 19 = v19 := q19
  have e20 : u 20 = v20 := q20
  have e21 : u 21 = v21 := q21
  have e22 : u 22 = v22 := q22
  have e23 : u 23 = v23 := q23
  have e24 : u 24 = v24 := q24
  have e25 : u 25 = v25 := q25
  have e26 : u 26 = v26 := q26
  have e27 : u 27 = v27 := q27
  have e28 : u 28 = v28 := q28
  have e99 : u 99 = v99 := q99
  rw [e0, e1, e2, e3, e4, e5, e9, e12, e13, e14, e16, e17, e18, e19, e20, e21, e22, e23, e24, e25, e26, e27, e28, e99]
  clear q0 e0 q1 e1 q2 e2 q3 e3 q4 e4 q5 e5 q9 e9 q12 e12 q13 e13 q14 e14 q16 e16 q17 e17 q18 e18 q19 e19 q20 e20 q21 e21 q22 e22 q23 e23 q24 e24 q25 e25 q26 e26 q27 e27 q28 e28 q99 e99 hs1
  simp only [Try.f3, Option.getD_some, regOf] at hc
  injection hc with hc
  subst hc
  have HE := hide hE
  clear hE
  go_wp2_with (go_at_call 7; refine HE.out.mono ?_; rintro e w1 ⟨X, rfl, r1⟩; have R1 := hide r1; clear r1)
  exact HQ.out _ _ X ⟨rfl, rfl, rfl, rfl, rfl, rfl, rfl, rfl, rfl, rfl, rfl, rfl, rfl, rfl, rfl, rfl, rfl, rfl, rfl, rfl, rfl, rfl, rfl, rfl, rfl, rfl⟩ R1.out
set_option maxHeartbeats 8000000 in
set_option maxRecDepth 100000 in
theorem py_r4 {K : Act → World → Prop} {c : Code} (hc : regOf (Try.f3.body.getD .skip) 4 = some c) (a : Act) {v : Vpy} {wq : World} {L : LOC} (hF : Fpy a v) (h14v : v.v14 = .pointer (some ⟨L.b, 0, none⟩)) (hQ : ∀ a', Fpy a' v → a'.tmps.getD 36 undef = .bool false → K a' wq) :
    Code.wp Try.prog c (Exit.then K fun _ _ _ => False) a wq := by
  have HQ := hide hQ
  clear hQ
  obtain ⟨t', d'⟩ := a
  obtain ⟨v0, v1, v2, v3, v4, v5, v9, v12, v13, v14, v16, v17, v18, v19, v20, v21, v22, v23, v24, v25, v26, v27, v28, v99⟩ := v
  simp only at h14v HQ
  subst h14v
  obtain ⟨hs1, hd1, q0, q1, q2, q3, q4, q5, q9, q12, q13, q14, q16, q17, q18, q19, q20, q21, q22, q23, q24, q25, q26, q27, q28, q99⟩ := hF
  obtain ⟨u, hu⟩ := frame_py t' hs1
  simp only at hd1 q0 q1 q2 q3 q4 q5 q9 q12 q13 q14 q16 q17 q18 q19 q20 q21 q22 q23 q24 q25 q26 q27 q28 q99
  subst hu hd1
  have e0 : u 0 = v0 := q0
  have e1 : u 1 = v1 := q1
  have e2 : u 2 = v2 := q2
  have e3 : u 3 = v3 := q3
  have e4 : u 4 = v4 := q4
  have e5 : u 5 = v5 := q5
  have e9 : u 9 = v9 := q9
  have e12 : u 12 = v12 := q12
  have e13 : u 13 = v13 := q13
  have e14 : u 14 = .pointer (some ⟨L.b, 0, none⟩) := q14
  have e16 : u 16 = v16 := q16
  have e17 : u 17 = v17 := q17
  have e18 : u 18 = v18 := q18
  have e19 : u 19 = v19 := q19
  have e20 : u 20 = v20 := q20
  have e21 : u 21 = v21 := q21
  have e22 : u 22 = v22 := q22
  have e23 : u 23 = v23 := q23
  have e24 : u 24 = v24 := q24
  have e25 : u 25 = v25 := q25
  have e26 : u 26 = v26 := q26
  have e27 : u 27 = v27 := q27
  have e28 : u 28 = v28 := q28
  have e99 : u 99 = v99 := q99
  rw [e0, e1, e2, e3, e4, e5, e9, e12, e13, e14, e16, e17, e18, e19, e20, e21, e22, e23, e24, e25, e26, e27, e28, e99]
  clear q0 e0 q1 e1 q2 e2 q3 e3 q4 e4 q5 e5 q9 e9 q12 e12 q13 e13 q14 e14 q16 e16 q17 e17 q18 e18 q19 e19 q20 e20 q21 e21 q22 e22 q23 e23 q24 e24 q25 e25 q26 e26 q27 e27 q28 e28 q99 e99 hs1
  simp only [Try.f3, Option.getD_some, regOf] at hc
  injection hc with hc
  subst hc
  go_wp2
  exact HQ.out _ ⟨rfl, rfl, rfl, rfl, rfl, rfl, rfl, rfl, rfl, rfl, rfl, rfl, rfl, rfl, rfl, rfl, rfl, rfl, rfl, rfl, rfl, rfl, rfl, rfl, rfl, rfl⟩ (by first | rfl | (simp; done))
set_option maxHeartbeats 8000000 in
set_option maxRecDepth 100000 in
theorem py_r6 {K : Act → World → Prop} {c : Code} (hc : regOf (Try.f3.body.getD .skip) 6 = some c) (a : Act) {v : Vpy} {wq : World}  (hF : Fpy a v) (hQ : ∀ a', Fpy a' { v with v17 := .int .i64 0 } → K a' wq) :
    Code.wp Try.prog c (Exit.then K fun _ _ _ => False) a wq := by
  have HQ := hide hQ
  clear hQ
  obtain ⟨t', d'⟩ := a
  obtain ⟨v0, v1, v2, v3, v4, v5, v9, v12, v13, v14, v16, v17, v18, v19, v20, v21, v22, v23, v24, v25, v26, v27, v28, v99⟩ := v
  obtain ⟨hs1, hd1, q0, q1, q2, q3, q4, q5, q9, q12, q13, q14, q16, q17, q18, q19, q20, q21, q22, q23, q24, q25, q26, q27, q28, q99⟩ := hF
  obtain ⟨u, hu⟩ := frame_py t' hs1
  simp only at hd1 q0 q1 q2 q3 q4 q5 q9 q12 q13 q14 q16 q17 q18 q19 q20 q21 q22 q23 q24 q25 q26 q27 q28 q99
  subst hu hd1
  have e0 : u 0 = v0 := q0
  have e1 : u 1 = v1 := q1
  have e2 : u 2 = v2 := q2
  have e3 : u 3 = v3 := q3
  have e4 : u 4 = v4 := q4
  have e5 : u 5 = v5 := q5
  have e9 : u 9 = v9 := q9
  have e12 : u 12 = v12 := q12
  have e13 : u 13 = v13 := q13
  have e14 : u 14 = v14 := q14
  have e16 : u 16 = v16 := q16
  have e17 : u 17 = v17 := q17
  have e18 : u 18 = v18 := q18
  have e19 : u 19 = v19 := q19
  have e20 : u 20 = v20 := q20
  have e21 : u 21 = v21 := q21
  have e22 : u 22 = v22 := q22
  have e23 : u 23 = v23 := q23
  have e24 : u 24 = v24 := q24
  have e25 : u 25 = v25 := q25
  have e26 : u 26 = v26 := q26
  have e27 : u 27 = v27 := q27
  have e28 : u 28 = v28 := q28
  have e99 : u 99 = v99 := q99
  rw [e0, e1, e2, e3, e4, e5, e9, e12, e13, e14, e16, e17, e18, e19, e20, e21, e22, e23, e24, e25, e26, e27, e28, e99]
  clear q0 e0 q1 e1 q2 e2 q3 e3 q4 e4 q5 e5 q9 e9 q12 e12 q13 e13 q14 e14 q16 e16 q17 e17 q18 e18 q19 e19 q20 e20 q21 e21 q22 e22 q23 e23 q24 e24 q25 e25 q26 e26 q27 e27 q28 e28 q99 e99 hs1
  simp only [Try.f3, Option.getD_some, regOf] at hc
  injection hc with hc
  subst hc
  go_wp2
  exact HQ.out _ ⟨rfl, rfl, rfl, rfl, rfl, rfl, rfl, rfl, rfl, rfl, rfl, rfl, rfl, rfl, rfl, rfl, rfl, rfl, rfl, rfl, rfl, rfl, rfl, rfl, rfl, rfl⟩
set_option maxHeartbeats 8000000 in
set_option maxRecDepth 100000 in
theorem py_r7 {K : Act → World → Prop} {c : Code} (hc : regOf (Try.f3.body.getD .skip) 7 = some c) (a : Act) {v : Vpy} {wq : World} {m : Int} {i n : Nat} (hF : Fpy a v) (h1v : v.v1 = .int .i64 m) (h17v : v.v17 = .int .i64 (i : Int)) (hE : Calls Try.prog 8 #[.int .i64 m, .int .i64 201] wq fun e w' => e = .returned (.int .i64 (n : Int)) ∧ w' = wq)
    (hQ : ∀ a' w' , Fpy a' v → a'.tmps.getD 40 undef = .bool (decide (i < n)) → w' = wq → K a' w') :
    Code.wp Try.prog c (Exit.then K fun _ _ _ => False) a wq := by
  have HQ := hide hQ
  clear hQ
  obtain ⟨t', d'⟩ := a
  obtain ⟨v0, v1, v2, v3, v4, v5, v9, v12, v13, v14, v16, v17, v18, v19, v20, v21, v22, v23, v24, v25, v26, v27, v28, v99⟩ := v
  simp only at h1v h17v HQ
  subst h1v h17v
  obtain ⟨hs1, hd1, q0, q1, q2, q3, q4, q5, q9, q12, q13, q14, q16, q17, q18, q19, q20, q21, q22, q23, q24, q25, q26, q27, q28, q99⟩ := hF
  obtain ⟨u, hu⟩ := frame_py t' hs1
  simp only at hd1 q0 q1 q2 q3 q4 q5 q9 q12 q13 q14 q16 q17 q18 q19 q20 q21 q22 q23 q24 q25 q26 q27 q28 q99
  subst hu hd1
  have e0 : u 0 = v0 := q0
  have e1 : u 1 = .int .i64 m := q1
  have e2 : u 2 = v2 := q2
  have e3 : u 3 = v3 := q3
  have e4 : u 4 = v4 := q4
  have e5 : u 5 = v5 := q5
  have e9 : u 9 = v9 := q9
  have e12 : u 12 = v12 := q12
  have e13 : u 13 = v13 := q13
  have e14 : u 14 = v14 := q14
  have e16 : u 16 = v16 := q16
  have e17 : u 17 = .int .i64 (i : Int) := q17
  have e18 : u 18 = v18 := q18
  have e19 : u 19 = v19 := q19
  have e20 : u 20 = v20 := q20
  have e21 : u 21 = v21 := q21
  have e22 : u 22 = v22 := q22
  have e23 : u 23 = v23 := q23
  have e24 : u 24 = v24 := q24
  have e25 : u 25 = v25 := q25
  have e26 : u 26 = v26 := q26
  have e27 : u 27 = v27 := q27
  have e28 : u 28 = v28 := q28
  have e99 : u 99 = v99 := q99
  rw [e0, e1, e2, e3, e4, e5, e9, e12, e13, e14, e16, e17, e18, e19, e20, e21, e22, e23, e24, e25, e26, e27, e28, e99]
  clear q0 e0 q1 e1 q2 e2 q3 e3 q4 e4 q5 e5 q9 e9 q12 e12 q13 e13 q14 e14 q16 e16 q17 e17 q18 e18 q19 e19 q20 e20 q21 e21 q22 e22 q23 e23 q24 e24 q25 e25 q26 e26 q27 e27 q28 e28 q99 e99 hs1
  simp only [Try.f3, Option.getD_some, regOf] at hc
  injection hc with hc
  subst hc
  have HE := hide hE
  clear hE
  go_wp2_with (go_at_call 8; refine HE.out.mono ?_; rintro e w1 ⟨rfl, r1⟩; have R1 := hide r1; clear r1)
  exact HQ.out _ _ ⟨rfl, rfl, rfl, rfl, rfl, rfl, rfl, rfl, rfl, rfl, rfl, rfl, rfl, rfl, rfl, rfl, rfl, rfl, rfl, rfl, rfl, rfl, rfl, rfl, rfl, rfl⟩ (by first | rfl | (simp; done)) R1.out
set_option maxHeartbeats 8000000 in
set_option maxRecDepth 100000 in
theorem py_r8 {K : Act → World → Prop} {c : Code} (hc : regOf (Try.f3.body.getD .skip) 8 = some c) (a : Act) {v : Vpy} {wq : World} {L : LOC} {i : Int} {R : World → Prop} (hF : Fpy a v) (h14v : v.v14 = .pointer (some ⟨L.b, 0, none⟩)) (h17v : v.v17 = .int .i64 i) (hE : Calls Try.prog 9 #[.pointer (some ⟨L.b, 0, none⟩), .string ⟨#[112]⟩, .int .i64 i, .string ⟨#[]⟩, .string ⟨#[]⟩] wq fun e w' => (∃ x y : Int, e = .returned (.tuple #[.int .i64 x, .int .i64 y])) ∧ R w')
    (hQ : ∀ a' w' , Fpy a' v → R w' → K a' w') :
    Code.wp Try.prog c (Exit.then K fun _ _ _ => False) a wq := by
  have HQ := hide hQ
  clear hQ
  obtain ⟨t', d'⟩ := a
  obtain ⟨v0, v1, v2, v3, v4, v5, v9, v12, v13, v14, v16, v17, v18, v19, v20, v21, v22, v23, v24, v25, v26, v27, v28, v99⟩ := v
  simp only at h14v h17v HQ
  subst h14v h17v
  obtain ⟨hs1, hd1, q0, q1, q2, q3, q4, q5, q9, q12, q13, q14, q16, q17, q18, q19, q20, q21, q22, q23, q24, q25, q26, q27, q28, q99⟩ := hF
  obtain ⟨u, hu⟩ := frame_py t' hs1
  simp only at hd1 q0 q1 q2 q3 q4 q5 q9 q12 q13 q14 q16 q17 q18 q19 q20 q21 q22 q23 q24 q25 q26 q27 q28 q99
  subst hu hd1
  have e0 : u 0 = v0 := q0
  have e1 : u 1 = v1 := q1
  have e2 : u 2 = v2 := q2
  have e3 : u 3 = v3 := q3
  have e4 : u 4 = v4 := q4
  have e5 : u 5 = v5 := q5
  have e9 : u 9 = v9 := q9
  have e12 : u 12 = v12 := q12
  have e13 : u 13 = v13 := q13
  have e14 : u 14 = .pointer (some ⟨L.b, 0, none⟩) := q14
  have e16 : u 16 = v16 := q16
  have e17 : u 17 = .int .i64 i := q17
  have e18 : u 18 = v18 := q18
  have e19 : u 19 = v19 := q19
  have e20 : u 20 = v20 := q20
  have e21 : u 21 = v21 := q21
  have e22 : u 22 = v22 := q22
  have e23 : u 23 = v23 := q23
  have e24 : u 24 = v24 := q24
  have e25 : u 25 = v25 := q25
  have e26 : u 26 = v26 := q26
  have e27 : u 27 = v27 := q27
  have e28 : u 28 = v28 := q28
  have e99 : u 99 = v99 := q99
  rw [e0, e1, e2, e3, e4, e5, e9, e12, e13, e14, e16, e17, e18, e19, e20, e21, e22, e23, e24, e25, e26, e27, e28, e99]
  clear q0 e0 q1 e1 q2 e2 q3 e3 q4 e4 q5 e5 q9 e9 q12 e12 q13 e13 q14 e14 q16 e16 q17 e17 q18 e18 q19 e19 q20 e20 q21 e21 q22 e22 q23 e23 q24 e24 q25 e25 q26 e26 q27 e27 q28 e28 q99 e99 hs1
  simp only [Try.f3, Option.getD_some, regOf] at hc
  injection hc with hc
  subst hc
  have HE := hide hE
  clear hE
  go_wp2_with (go_at_call 9; refine HE.out.mono ?_; rintro e w1 ⟨⟨x, y, rfl⟩, r1⟩; have R1 := hide r1; clear r1)
  exact HQ.out _ _ ⟨rfl, rfl, rfl, rfl, rfl, rfl, rfl, rfl, rfl, rfl, rfl, rfl, rfl, rfl, rfl, rfl, rfl, rfl, rfl, rfl, rfl, rfl, rfl, rfl, rfl, rfl⟩ R1.out
set_option maxHeartbeats 8000000 in
set_option maxRecDepth 100000 in
theorem py_r30 {K : Act → World → Prop} {c : Code} (hc : regOf (Try.f3.body.getD .skip) 30 = some c) (a : Act) {v : Vpy} {wq : World} {L : LOC} {i : Int} {R : World → Prop} (hF : Fpy a v) (h14v : v.v14 = .pointer (some ⟨L.b, 0, none⟩)) (h17v : v.v17 = .int .i64 i) (hE : Calls Try.prog 9 #[.pointer (some ⟨L.b, 0, none⟩), .string ⟨#[112]⟩, .int .i64 i, .string ⟨#[]⟩, .string ⟨#[]⟩] wq fun e w' => (∃ x y : Int, e = .returned (.tuple #[.int .i64 x, .int .i64 y])) ∧ R w')
    (hQ : ∀ a' w' , Fpy a' v → R w' → K a' w') :
    Code.wp Try.prog c (Exit.then K fun _ _ _ => False) a wq := by
  have HQ := hide hQ
  clear hQ
  obtain ⟨t', d'⟩ := a
  obtain ⟨v0, v1, v2, v3, v4, v5, v9, v12, v13, v14, v16, v17, v18, v19, v20, v21, v22, v23, v24, v25, v26, v27, v28, v99⟩ := v
  simp only at h14v h17v HQ
  subst h14v h17v
  obtain ⟨hs1, hd1, q0, q1, q2, q3, q4, q5, q9, q12, q13, q14, q16, q17, q18, q19, q20, q21, q22, q23, q24, q25, q26, q27, q28, q99⟩ := hF
  obtain ⟨u, hu⟩ := frame_py t' hs1
  simp only at hd1 q0 q1 q2 q3 q4 q5 q9 q12 q13 q14 q16 q17 q18 q19 q20 q21 q22 q23 q24 q25 q26 q27 q28 q99
  subst hu hd1
  have e0 : u 0 = v0 := q0
  have e1 : u 1 = v1 := q1
  have e2 : u 2 = v2 := q2
  have e3 : u 3 = v3 := q3
  have e4 : u 4 = v4 := q4
  have e5 : u 5 = v5 := q5
  have e9 : u 9 = v9 := q9
  have e12 : u 12 = v12 := q12
  have e13 : u 13 = v13 := q13
  have e14 : u 14 = .pointer (some ⟨L.b, 0, none⟩) := q14
  have e16 : u 16 = v16 := q16
  have e17 : u 17 = .int .i64 i := q17
  have e18 : u 18 = v18 := q18
  have e19 : u 19 = v19 := q19
  have e20 : u 20 = v20 := q20
  have e21 : u 21 = v21 := q21
  have e22 : u 22 = v22 := q22
  have e23 : u 23 = v23 := q23
  have e24 : u 24 = v24 := q24
  have e25 : u 25 = v25 := q25
  have e26 : u 26 = v26 := q26
  have e27 : u 27 = v27 := q27
  have e28 : u 28 = v28 := q28
  have e99 : u 99 = v99 := q99
  rw [e0, e1, e2, e3, e4, e5, e9, e12, e13, e14, e16, e17, e18, e19, e20, e21, e22, e23, e24, e25, e26, e27, e28, e99]
  clear q0 e0 q1 e1 q2 e2 q3 e3 q4 e4 q5 e5 q9 e9 q12 e12 q13 e13 q14 e14 q16 e16 q17 e17 q18 e18 q19 e19 q20 e20 q21 e21 q22 e22 q23 e23 q24 e24 q25 e25 q26 e26 q27 e27 q28 e28 q99 e99 hs1
  simp only [Try.f3, Option.getD_some, regOf] at hc
  injection hc with hc
  subst hc
  have HE := hide hE
  clear hE
  go_wp2_with (go_at_call 9; refine HE.out.mono ?_; rintro e w1 ⟨⟨x, y, rfl⟩, r1⟩; have R1 := hide r1; clear r1)
  exact HQ.out _ _ ⟨rfl, rfl, rfl, rfl, rfl, rfl, rfl, rfl, rfl, rfl, rfl, rfl, rfl, rfl, rfl, rfl, rfl, rfl, rfl, rfl, rfl, rfl, rfl, rfl, rfl, rfl⟩ R1.out
set_option maxHeartbeats 8000000 in
set_option maxRecDepth 100000 in
theorem py_r9 {K : Act → World → Prop} {c : Code} (hc : regOf (Try.f3.body.getD .skip) 9 = some c) (a : Act) {v : Vpy} {wq : World} {xb : Nat} {i : Int} {R : World → Prop} (hF : Fpy a v) (h16v : v.v16 = .pointer (some ⟨xb, 0, none⟩)) (h17v : v.v17 = .int .i64 i) (hE : Calls Try.prog 10 #[.pointer (some ⟨xb, 0, none⟩), .string ⟨#[112]⟩, .int .i64 i, .string ⟨#[]⟩, .string ⟨#[]⟩] wq fun e w' => (∃ x y : Int, e = .returned (.tuple #[.int .i64 x, .int .i64 y])) ∧ R w')
    (hQ : ∀ a' w' , Fpy a' v → R w' → K a' w') :
    Code.wp Try.prog c (Exit.then K fun _ _ _ => False) a wq := by
  have HQ := hide hQ
  clear hQ
  obtain ⟨t', d'⟩ := a
  obtain ⟨v0, v1, v2, v3, v4, v5, v9, v12, v13, v14, v16, v17, v18, v19, v20, v21, v22, v23, v24, v25, v26, v27, v28, v99⟩ := v
  simp only at h16v h17v HQ
  subst h16v h17v
  obtain ⟨hs1, hd1, q0, q1, q2, q3, q4, q5, q9, q12, q13, q14, q16, q17, q18, q19, q20, q21, q22, q23, q24, q25, q26, q27, q28, q99⟩ := hF
  obtain ⟨u, hu⟩ := frame_py t' hs1
  simp only at hd1 q0 q1 q2 q3 q4 q5 q9 q12 q13 q14 q16 q17 q18 q19 q20 q21 q22 q23 q24 q25 q26 q27 q28 q99
  subst hu hd1
  have e0 : u 0 = v0 := q0
  have e1 : u 1 = v1 := q1
  have e2 : u 2 = v2 := q2
  have e3 : u 3 = v3 := q3
  have e4 : u 4 = v4 := q4
  have e5 : u 5 = v5 := q5
  have e9 : u 9 = v9 := q9
  have e12 : u 12 = v12 := q12
  have e13 : u 13 = v13 := q13
  have e14 : u 14 = v14 := q14
  have e16 : u 16 = .pointer (some ⟨xb, 0, none⟩) := q16
  have e17 : u 17 = .int .i64 i := q17
  have e18 : u 18 = v18 := q18
  have e19 : u 19 = v19 := q19
  have e20 : u 20 = v20 := q20
  have e21 : u 21 = v21 := q21
  have e22 : u 22 = v22 := q22
  have e23 : u 23 = v23 := q23
  have e24 : u 24 = v24 := q24
  have e25 : u 25 = v25 := q25
  have e26 : u 26 = v26 := q26
  have e27 : u 27 = v27 := q27
  have e28 : u 28 = v28 := q28
  have e99 : u 99 = v99 := q99
  rw [e0, e1, e2, e3, e4, e5, e9, e12, e13, e14, e16, e17, e18, e19, e20, e21, e22, e23, e24, e25, e26, e27, e28, e99]
  clear q0 e0 q1 e1 q2 e2 q3 e3 q4 e4 q5 e5 q9 e9 q12 e12 q13 e13 q14 e14 q16 e16 q17 e17 q18 e18 q19 e19 q20 e20 q21 e21 q22 e22 q23 e23 q24 e24 q25 e25 q26 e26 q27 e27 q28 e28 q99 e99 hs1
  simp only [Try.f3, Option.getD_some, regOf] at hc
  injection hc with hc
  subst hc
  have HE := hide hE
  clear hE
  go_wp2_with (go_at_call 10; refine HE.out.mono ?_; rintro e w1 ⟨⟨x, y, rfl⟩, r1⟩; have R1 := hide r1; clear r1)
  exact HQ.out _ _ ⟨rfl, rfl, rfl, rfl, rfl, rfl, rfl, rfl, rfl, rfl, rfl, rfl, rfl, rfl, rfl, rfl, rfl, rfl, rfl, rfl, rfl, rfl, rfl, rfl, rfl, rfl⟩ R1.out
set_option maxHeartbeats 8000000 in
set_option maxRecDepth 100000 in
theorem py_r31 {K : Act → World → Prop} {c : Code} (hc : regOf (Try.f3.body.getD .skip) 31 = some c) (a : Act) {v : Vpy} {wq : World} {xb : Nat} {i : Int} {R : World → Prop} (hF : Fpy a v) (h16v : v.v16 = .pointer (some ⟨xb, 0, none⟩)) (h17v : v.v17 = .int .i64 i) (hE : Calls Try.prog 10 #[.pointer (some ⟨xb, 0, none⟩), .string ⟨#[112]⟩, .int .i64 i, .string ⟨#[]⟩, .string ⟨#[]⟩] wq fun e w' => (∃ x y : Int, e = .returned (.tuple #[.int .i64 x, .int .i64 y])) ∧ R w')
    (hQ : ∀ a' w' , Fpy a' v → R w' → K a' w') :
    Code.wp Try.prog c (Exit.then K fun _ _ _ => False) a wq := by
  have HQ := hide hQ
  clear hQ
  obtain ⟨t', d'⟩ := a
  obtain ⟨v0, v1, v2, v3, v4, v5, v9, v12, v13, v14, v16, v17, v18, v19, v20, v21, v22, v23, v24, v25, v26, v27, v28, v99⟩ := v
  simp only at h16v h17v HQ
  subst h16v h17v
  obtain ⟨hs1, hd1, q0, q1, q2, q3, q4, q5, q9, q12, q13, q14, q16, q17, q18, q19, q20, q21, q22, q23, q24, q25, q26, q27, q28, q99⟩ := hF
  obtain ⟨u, hu⟩ := frame_py t' hs1
  simp only at hd1 q0 q1 q2 q3 q4 q5 q9 q12 q13 q14 q16 q17 q18 q19 q20 q21 q22 q23 q24 q25 q26 q27 q28 q99
  subst hu hd1
  have e0 : u 0 = v0 := q0
  have e1 : u 1 = v1 := q1
  have e2 : u 2 = v2 := q2
  have e3 : u 3 = v3 := q3
  have e4 : u 4 = v4 := q4
  have e5 : u 5 = v5 := q5
  have e9 : u 9 = v9 := q9
  have e12 : u 12 = v12 := q12
  have e13 : u 13 = v13 := q13
  have e14 : u 14 = v14 := q14
  have e16 : u 16 = .pointer (some ⟨xb, 0, none⟩) := q16
  have e17 : u 17 = .int .i64 i := q17
  have e18 : u 18 = v18 := q18
  have e19 : u 19 = v19 := q19
  have e20 : u 20 = v20 := q20
  have e21 : u 21 = v21 := q21
  have e22 : u 22 = v22 := q22
  have e23 : u 23 = v23 := q23
  have e24 : u 24 = v24 := q24
  have e25 : u 25 = v25 := q25
  have e26 : u 26 = v26 := q26
  have e27 : u 27 = v27 := q27
  have e28 : u 28 = v28 := q28
  have e99 : u 99 = v99 := q99
  rw [e0, e1, e2, e3, e4, e5, e9, e12, e13, e14, e16, e17, e18, e19, e20, e21, e22, e23, e24, e25, e26, e27, e28, e99]
  clear q0 e0 q1 e1 q2 e2 q3 e3 q4 e4 q5 e5 q9 e9 q12 e12 q13 e13 q14 e14 q16 e16 q17 e17 q18 e18 q19 e19 q20 e20 q21 e21 q22 e22 q23 e23 q24 e24 q25 e25 q26 e26 q27 e27 q28 e28 q99 e99 hs1
  simp only [Try.f3, Option.getD_some, regOf] at hc
  injection hc with hc
  subst hc
  have HE := hide hE
  clear hE
  go_wp2_with (go_at_call 10; refine HE.out.mono ?_; rintro e w1 ⟨⟨x, y, rfl⟩, r1⟩; have R1 := hide r1; clear r1)
  exact HQ.out _ _ ⟨rfl, rfl, rfl, rfl, rfl, rfl, rfl, rfl, rfl, rfl, rfl, rfl, rfl, rfl, rfl, rfl, rfl, rfl, rfl, rfl, rfl, rfl, rfl, rfl, rfl, rfl⟩ R1.out
set_option maxHeartbeats 8000000 in
set_option maxRecDepth 100000 in
theorem py_r10 {K : Act → World → Prop} {c : Code} (hc : regOf (Try.f3.body.getD .skip) 10 = some c) (a : Act) {v : Vpy} {wq : World} {i : Nat} (hF : Fpy a v) (h17v : v.v17 = .int .i64 (i : Int)) (hi : i ≤ 1000000)
    (hQ : ∀ a', Fpy a' { v with v17 := .int .i64 ((i + 1 : Nat) : Int) } → K a' wq) :
    Code.wp Try.prog c (Exit.then K fun _ _ _ => False) a wq := by
  have HQ := hide hQ
  clear hQ
  obtain ⟨t', d'⟩ := a
  obtain ⟨v0, v1, v2, v3, v4, v5, v9, v12, v13, v14, v16, v17, v18, v19, v20, v21, v22, v23, v24, v25, v26, v27, v28, v99⟩ := v
  simp only at h17v HQ
  subst h17v
  obtain ⟨hs1, hd1, q0, q1, q2, q3, q4, q5, q9, q12, q13, q14, q16, q17, q18, q19, q20, q21, q22, q23, q24, q25, q26, q27, q28, q99⟩ := hF
  obtain ⟨u, hu⟩ := frame_py t' hs1
  simp only at hd1 q0 q1 q2 q3 q4 q5 q9 q12 q13 q14 q16 q17 q18 q19 q20 q21 q22 q23 q24 q25 q26 q27 q28 q99
  subst hu hd1
  have e0 : u 0 = v0 := q0
  have e1 : u 1 = v1 := q1
  have e2 : u 2 = v2 := q2
  have e3 : u 3 = v3 := q3
  have e4 : u 4 = v4 := q4
  have e5 : u 5 = v5 := q5
  have e9 : u 9 = v9 := q9
  have e12 : u 12 = v12 := q12
  have e13 : u 13 = v13 := q13
  have e14 : u 14 = v14 := q14
  have e16 : u 16 = v16 := q16
  have e17 : u 17 = .int .i64 (i : Int) := q17
  have e18 : u 18 = v18 := q18
  have e19 : u 19 = v19 := q19
  have e20 : u 20 = v20 := q20
  have e21 : u 21 = v21 := q21
  have e22 : u 22 = v22 := q22
  have e23 : u 23 = v23 := q23
  have e24 : u 24 = v24 := q24
  have e25 : u 25 = v25 := q25
  have e26 : u 26 = v26 := q26
  have e27 : u 27 = v27 := q27
  have e28 : u 28 = v28 := q28
  have e99 : u 99 = v99 := q99
  rw [e0, e1, e2, e3, e4, e5, e9, e12, e13, e14, e16, e17, e18, e19, e20, e21, e22, e23, e24, e25, e26, e27, e28, e99]
  clear q0 e0 q1 e1 q2 e2 q3 e3 q4 e4 q5 e5 q9 e9 q12 e12 q13 e13 q14 e14 q16 e16 q17 e17 q18 e18 q19 e19 q20 e20 q21 e21 q22 e22 q23 e23 q24 e24 q25 e25 q26 e26 q27 e27 q28 e28 q99 e99 hs1
  simp only [Try.f3, Option.getD_some, regOf] at hc
  injection hc with hc
  subst hc
  go_wp2
  exact HQ.out _ ⟨rfl, rfl, rfl, rfl, rfl, rfl, rfl, rfl, rfl, rfl, rfl, rfl, rfl, (by first | rfl | (simp; done) | (go_num; done)), rfl, rfl, rfl, rfl, rfl, rfl, rfl, rfl, rfl, rfl, rfl, rfl⟩
set_option maxHeartbeats 8000000 in
set_option maxRecDepth 100000 in
theorem py_r32 {K : Act → World → Prop} {c : Code} (hc : regOf (Try.f3.body.getD .skip) 32 = some c) (a : Act) {v : Vpy} {wq : World} {i : Nat} (hF : Fpy a v) (h17v : v.v17 = .int .i64 (i : Int)) (hi : i ≤ 1000000)
    (hQ : ∀ a', Fpy a' { v with v17 := .int .i64 ((i + 1 : Nat) : Int) } → K a' wq) :
    Code.wp Try.prog c (Exit.then K fun _ _ _ => False) a wq := by
  have HQ := hide hQ
  clear hQ
  obtain ⟨t', d'⟩ := a
  obtain ⟨v0, v1, v2, v3, v4, v5, v9, v12, v13, v14, v16, v17, v18, v19, v20, v21, v22, v23, v24, v25, v26, v27, v28, v99⟩ := v
  simp only at h17v HQ
  subst h17v
  obtain ⟨hs1, hd1, q0, q1, q2, q3, q4, q5, q9, q12, q13, q14, q16, q17, q18, q19, q20, q21, q22, q23, q24, q25, q26, q27, q28, q99⟩ := hF
  obtain ⟨u, hu⟩ := frame_py t' hs1
  simp only at hd1 q0 q1 q2 q3 q4 q5 q9 q12 q13 q14 q16 q17 q18 q19 q20 q21 q22 q23 q24 q25 q26 q27 q28 q99
  subst hu hd1
  have e0 : u 0 = v0 := q0
  have e1 : u 1 = v1 := q1
  have e2 : u 2 = v2 := q2
  have e3 : u 3 = v3 := q3
  have e4 : u 4 = v4 := q4
  have e5 : u 5 = v5 := q5
  have e9 : u 9 = v9 := q9
  have e12 : u 12 = v12 := q12
  have e13 : u 13 = v13 := q13
  have e14 : u 14 = v14 := q14
  have e16 : u 16 = v16 := q16
  have e17 : u 17 = .int .i64 (i : Int) := q17
  have e18 : u 18 = v18 := q18
  have e19 : u 19 = v19 := q19
  have e20 : u 20 = v20 := q20
  have e21 : u 21 = v21 := q21
  have e22 : u 22 = v22 := q22
  have e23 : u 23 = v23 := q23
  have e24 : u 24 = v24 := q24
  have e25 : u 25 = v25 := q25
  have e26 : u 26 = v26 := q26
  have e27 : u 27 = v27 := q27
  have e28 : u 28 = v28 := q28
  have e99 : u 99 = v99 := q99
  rw [e0, e1, e2, e3, e4, e5, e9, e12, e13, e14, e16, e17, e18, e19, e20, e21, e22, e23, e24, e25, e26, e27, e28, e99]
  clear q0 e0 q1 e1 q2 e2 q3 e3 q4 e4 q5 e5 q9 e9 q12 e12 q13 e13 q14 e14 q16 e16 q17 e17 q18 e18 q19 e19 q20 e20 q21 e21 q22 e22 q23 e23 q24 e24 q25 e25 q26 e26 q27 e27 q28 e28 q99 e99 hs1
  simp only [Try.f3, Option.getD_some, regOf] at hc
  injection hc with hc
  subst hc
  go_wp2
  exact HQ.out _ ⟨rfl, rfl, rfl, rfl, rfl, rfl, rfl, rfl, rfl, rfl, rfl, rfl, rfl, (by first | rfl | (simp; done) | (go_num; done)), rfl, rfl, rfl, rfl, rfl, rfl, rfl, rfl, rfl, rfl, rfl, rfl⟩
set_option maxHeartbeats 8000000 in
set_option maxRecDepth 100000 in
theorem py_r20 {K : Act → World → Prop} {c : Code} (hc : regOf (Try.f3.body.getD .skip) 20 = some c) (a : Act) {v : Vpy} {wq : World} {i : Nat} (hF : Fpy a v) (h22v : v.v22 = .int .i64 (i : Int)) (hi : i ≤ 1000000)
    (hQ : ∀ a', Fpy a' { v with v22 := .int .i64 ((i + 1 : Nat) : Int) } → K a' wq) :
    Code.wp Try.prog c (Exit.then K fun _ _ _ => False) a wq := by
  have HQ := hide hQ
  clear hQ
  obtain ⟨t', d'⟩ := a
  obtain ⟨v0, v1, v2, v3, v4, v5, v9, v12, v13, v14, v16, v17, v18, v19, v20, v21, v22, v23, v24, v25, v26, v27, v28, v99⟩ := v
  simp only at h22v HQ
  subst h22v
  obtain ⟨hs1, hd1, q0, q1, q2, q3, q4, q5, q9, q12, q13, q14, q16, q17, q18, q19, q20, q21, q22, q23, q24, q25, q26, q27, q28, q99⟩ := hF
  obtain ⟨u, hu⟩ := frame_py t' hs1
  simp only at hd1 q0 q1 q2 q3 q4 q5 q9 q12 q13 q14 q16 q17 q18 q19 q20 q21 q22 q23 q24 q25 q26 q27 q28 q99
  subst hu hd1
  have e0 : u 0 = v0 := q0
  have e1 : u 1 = v1 := q1
  have e2 : u 2 = v2 := q2
  have e3 : u 3 = v3 := q3
  have e4 : u 4 = v4 := q4
  have e5 : u 5 = v5 := q5
  have e9 : u 9 = v9 := q9
  have e12 : u 12 = v12 := q12
  have e13 : u 13 = v13 := q13
  have e14 : u 14 = v14 := q14
  have e16 : u 16 = v16 := q16
  have e17 : u 17 = v17 := q17
  have e18 : u 18 = v18 := q18
  have e19 : u 19 = v19 := q19
  have e20 : u 20 = v20 := q20
  have e21 : u 21 = v21 := q21
  have e22 : u 22 = .int .i64 (i : Int) := q22
  have e23 : u 23 = v23 := q23
  have e24 : u 24 = v24 := q24
  have e25 : u 25 = v25 := q25
  have e26 : u 26 = v26 := q26
  have e27 : u 27 = v27 := q27
  have e28 : u 28 = v28 := q28
  have e99 : u 99 = v99 := q99
  rw [e0, e1, e2, e3, e4, e5, e9, e12, e13, e14, e16, e17, e18, e19, e20, e21, e22, e23, e24, e25, e26, e27, e28, e99]
  clear q0 e0 q1 e1 q2 e2 q3 e3 q4 e4 q5 e5 q9 e9 q12 e12 q13 e13 q14 e14 q16 e16 q17 e17 q18 e18 q19 e19 q20 e20 q21 e21 q22 e22 q23 e23 q24 e24 q25 e25 q26 e26 q27 e27 q28 e28 q99 e99 hs1
  simp only [Try.f3, Option.getD_some, regOf] at hc
  injection hc with hc
  subst hc
  go_wp2
  exact HQ.out _ ⟨rfl, rfl, rfl, rfl, rfl, rfl, rfl, rfl, rfl, rfl, rfl, rfl, rfl, rfl, rfl, rfl, rfl, rfl, (by first | rfl | (simp; done) | (go_num; done)), rfl, rfl, rfl, rfl, rfl, rfl, rfl⟩
set_option maxHeartbeats 8000000 in
set_option maxRecDepth 100000 in
theorem py_r11 {K : Act → World → Prop} {c : Code} (hc : regOf (Try.f3.body.getD .skip) 11 = some c) (a : Act) {v : Vpy} {wq : World} {tb : Nat} {p : ByteArray} {m cd : Int} {yn yt : ByteArray} {yc yx : Int} (hF : Fpy a v) (h0v : v.v0 = .string p) (h2v : v.v2 = .int .i64 m) (h14v : v.v14 = .pointer (some ⟨tb, 0, none⟩)) (hE : Calls Try.prog 11 #[.string p, .pointer (some ⟨tb, 0, none⟩), .int .i64 m] wq fun e w' => e = .returned (.tuple #[.agg #[.string yn, .string yt, .int .i64 yc, .int .i64 yx], .int .i64 cd]) ∧ Below wq.heap.size wq w')
    (hQ : ∀ a' w1, Fpy a' { v with v18 := .pointer (some ⟨w1.heap.size, 0, none⟩), v19 := .int .i64 cd } → Below wq.heap.size wq w1 → K a' (w1.alloc (.cells #[.string yn, .string yt, .int .i64 yc, .int .i64 yx] 23))) :
    Code.wp Try.prog c (Exit.then K fun _ _ _ => False) a wq := by
  have HQ := hide hQ
  clear hQ
  obtain ⟨t', d'⟩ := a
  obtain ⟨v0, v1, v2, v3, v4, v5, v9, v12, v13, v14, v16, v17, v18, v19, v20, v21, v22, v23, v24, v25, v26, v27, v28, v99⟩ := v
  simp only at h0v h2v h14v HQ
  subst h0v h2v h14v
  obtain ⟨hs1, hd1, q0, q1, q2, q3, q4, q5, q9, q12, q13, q14, q16, q17, q18, q19, q20, q21, q22, q23, q24, q25, q26, q27, q28, q99⟩ := hF
  obtain ⟨u, hu⟩ := frame_py t' hs1
  simp only at hd1 q0 q1 q2 q3 q4 q5 q9 q12 q13 q14 q16 q17 q18 q19 q20 q21 q22 q23 q24 q25 q26 q27 q28 q99
  subst hu hd1
  have e0 : u 0 = .string p := q0
  have e1 : u 1 = v1 := q1
  have e2 : u 2 = .int .i64 m := q2
  have e3 : u 3 = v3 := q3
  have e4 : u 4 = v4 := q4
  have e5 : u 5 = v5 := q5
  have e9 : u 9 = v9 := q9
  have e12 : u 12 = v12 := q12
  have e13 : u 13 = v13 := q13
  have e14 : u 14 = .pointer (some ⟨tb, 0, none⟩) := q14
  have e16 : u 16 = v16 := q16
  have e17 : u 17 = v17 := q17
  have e18 : u 18 = v18 := q18
  have e19 : u 19 = v19 := q19
  have e20 : u 20 = v20 := q20
  have e21 : u 21 = v21 := q21
  have e22 : u 22 = v22 := q22
  have e23 : u 23 = v23 := q23
  have e24 : u 24 = v24 := q24
  have e25 : u 25 = v25 := q25
  have e26 : u 26 = v26 := q26
  have e27 : u 27 = v27 := q27
  have e28 : u 28 = v28 := q28
  have e99 : u 99 = v99 := q99
  rw [e0, e1, e2, e3, e4, e5, e9, e12, e13, e14, e16, e17, e18, e19, e20, e21, e22, e23, e24, e25, e26, e27, e28, e99]
  clear q0 e0 q1 e1 q2 e2 q3 e3 q4 e4 q5 e5 q9 e9 q12 e12 q13 e13 q14 e14 q16 e16 q17 e17 q18 e18 q19 e19 q20 e20 q21 e21 q22 e22 q23 e23 q24 e24 q25 e25 q26 e26 q27 e27 q28 e28 q99 e99 hs1
  simp only [Try.f3, Option.getD_some, regOf] at hc
  injection hc with hc
  subst hc
  have HE := hide hE
  clear hE
  go_wp2_with (go_at_call 11; refine HE.out.mono ?_; rintro e w1 ⟨rfl, b1⟩; have B1 := hide b1; clear b1)
  exact HQ.out _ _ ⟨rfl, rfl, rfl, rfl, rfl, rfl, rfl, rfl, rfl, rfl, rfl, rfl, rfl, rfl, rfl, rfl, rfl, rfl, rfl, rfl, rfl, rfl, rfl, rfl, rfl, rfl⟩ B1.out
set_option maxHeartbeats 8000000 in
set_option maxRecDepth 100000 in
theorem py_r12 {K : Act → World → Prop} {c : Code} (hc : regOf (Try.f3.body.getD .skip) 12 = some c) (a : Act) {v : Vpy} {wq : World} {tb : Nat} {p : ByteArray} {m cd : Int} {yn yt : ByteArray} {yc yx : Int} (hF : Fpy a v) (h0v : v.v0 = .string p) (h2v : v.v2 = .int .i64 m) (h16v : v.v16 = .pointer (some ⟨tb, 0, none⟩)) (hE : Calls Try.prog 12 #[.string p, .pointer (some ⟨tb, 0, none⟩), .int .i64 m] wq fun e w' => e = .returned (.tuple #[.agg #[.string yn, .string yt, .int .i64 yc, .int .i64 yx], .int .i64 cd]) ∧ Below wq.heap.size wq w')
    (hQ : ∀ a' w1, Fpy a' { v with v20 := .pointer (some ⟨w1.heap.size, 0, none⟩), v21 := .int .i64 cd } → Below wq.heap.size wq w1 → K a' (w1.alloc (.cells #[.string yn, .string yt, .int .i64 yc, .int .i64 yx] 37))) :
    Code.wp Try.prog c (Exit.then K fun _ _ _ => False) a wq := by
  have HQ := hide hQ
  clear hQ
  obtain ⟨t', d'⟩ := a
  obtain ⟨v0, v1, v2, v3, v4, v5, v9, v12, v13, v14, v16, v17, v18, v19, v20, v21, v22, v23, v24, v25, v26, v27, v28, v99⟩ := v
  simp only at h0v h2v h16v HQ
  subst h0v h2v h16v
  obtain ⟨hs1, hd1, q0, q1, q2, q3, q4, q5, q9, q12, q13, q14, q16, q17, q18, q19, q20, q21, q22, q23, q24, q25, q26, q27, q28, q99⟩ := hF
  obtain ⟨u, hu⟩ := frame_py t' hs1
  simp only at hd1 q0 q1 q2 q3 q4 q5 q9 q12 q13 q14 q16 q17 q18 q19 q20 q21 q22 q23 q24 q25 q26 q27 q28 q99
  subst hu hd1
  have e0 : u 0 = .string p := q0
  have e1 : u 1 = v1 := q1
  have e2 : u 2 = .int .i64 m := q2
  have e3 : u 3 = v3 := q3
  have e4 : u 4 = v4 := q4
  have e5 : u 5 = v5 := q5
  have e9 : u 9 = v9 := q9
  have e12 : u 12 = v12 := q12
  have e13 : u 13 = v13 := q13
  have e14 : u 14 = v14 := q14
  have e16 : u 16 = .pointer (some ⟨tb, 0, none⟩) := q16
  have e17 : u 17 = v17 := q17
  have e18 : u 18 = v18 := q18
  have e19 : u 19 = v19 := q19
  have e20 : u 20 = v20 := q20
  have e21 : u 21 = v21 := q21
  have e22 : u 22 = v22 := q22
  have e23 : u 23 = v23 := q23
  have e24 : u 24 = v24 := q24
  have e25 : u 25 = v25 := q25
  have e26 : u 26 = v26 := q26
  have e27 : u 27 = v27 := q27
  have e28 : u 28 = v28 := q28
  have e99 : u 99 = v99 := q99
  rw [e0, e1, e2, e3, e4, e5, e9, e12, e13, e14, e16, e17, e18, e19, e20, e21, e22, e23, e24, e25, e26, e27, e28, e99]
  clear q0 e0 q1 e1 q2 e2 q3 e3 q4 e4 q5 e5 q9 e9 q12 e12 q13 e13 q14 e14 q16 e16 q17 e17 q18 e18 q19 e19 q20 e20 q21 e21 q22 e22 q23 e23 q24 e24 q25 e25 q26 e26 q27 e27 q28 e28 q99 e99 hs1
  simp only [Try.f3, Option.getD_some, regOf] at hc
  injection hc with hc
  subst hc
  have HE := hide hE
  clear hE
  go_wp2_with (go_at_call 12; refine HE.out.mono ?_; rintro e w1 ⟨rfl, b1⟩; have B1 := hide b1; clear b1)
  exact HQ.out _ _ ⟨rfl, rfl, rfl, rfl, rfl, rfl, rfl, rfl, rfl, rfl, rfl, rfl, rfl, rfl, rfl, rfl, rfl, rfl, rfl, rfl, rfl, rfl, rfl, rfl, rfl, rfl⟩ B1.out
set_option maxHeartbeats 8000000 in
set_option maxRecDepth 100000 in
theorem py_r13 {K : Act → World → Prop} {c : Code} (hc : regOf (Try.f3.body.getD .skip) 13 = some c) (a : Act) {v : Vpy} {wq : World} {sb zb : Nat} {cd : Int} {xn xt : ByteArray} {xc xx : Int} (hF : Fpy a v) (h18v : v.v18 = .pointer (some ⟨sb, 0, none⟩)) (h19v : v.v19 = .int .i64 cd) (h20v : v.v20 = .pointer (some ⟨zb, 0, none⟩)) (h21v : v.v21 = .int .i64 cd) (hS : wq.heap[sb]? = some (.cells #[.string xn, .string xt, .int .i64 xc, .int .i64 xx] 23 (0, 0))) (hZ : wq.heap[zb]? = some (.cells #[.string xn, .string xt, .int .i64 xc, .int .i64 xx] 37 (0, 0))) (hE : ∀ W, Calls Try.prog 13 #[.agg #[.string xn, .string xt, .int .i64 xc, .int .i64 xx], .agg #[.string xn, .string xt, .int .i64 xc, .int .i64 xx]] W fun e w' => e = .returned (.bool true) ∧ Below W.heap.size W w')
    (hQ : ∀ a' w', Fpy a' v → a'.tmps.getD 71 undef = .bool false → Below wq.heap.size wq w' → K a' w') :
    Code.wp Try.prog c (Exit.then K fun _ _ _ => False) a wq := by
  have HQ := hide hQ
  clear hQ
  obtain ⟨t', d'⟩ := a
  obtain ⟨v0, v1, v2, v3, v4, v5, v9, v12, v13, v14, v16, v17, v18, v19, v20, v21, v22, v23, v24, v25, v26, v27, v28, v99⟩ := v
  simp only at h18v h19v h20v h21v HQ
  subst h18v h19v h20v h21v
  obtain ⟨hs1, hd1, q0, q1, q2, q3, q4, q5, q9, q12, q13, q14, q16, q17, q18, q19, q20, q21, q22, q23, q24, q25, q26, q27, q28, q99⟩ := hF
  obtain ⟨u, hu⟩ := frame_py t' hs1
  simp only at hd1 q0 q1 q2 q3 q4 q5 q9 q12 q13 q14 q16 q17 q18 q19 q20 q21 q22 q23 q24 q25 q26 q27 q28 q99
  subst hu hd1
  have e0 : u 0 = v0 := q0
  have e1 : u 1 = v1 := q1
  have e2 : u 2 = v2 := q2
  have e3 : u 3 = v3 := q3
  have e4 : u 4 = v4 := q4
  have e5 : u 5 = v5 := q5
  have e9 : u 9 = v9 := q9
  have e12 : u 12 = v12 := q12
  have e13 : u 13 = v13 := q13
  have e14 : u 14 = v14 := q14
  have e16 : u 16 = v16 := q16
  have e17 : u 17 = v17 := q17
  have e18 : u 18 = .pointer (some ⟨sb, 0, none⟩) := q18
  have e19 : u 19 = .int .i64 cd := q19
  have e20 : u 20 = .pointer (some ⟨zb, 0, none⟩) := q20
  have e21 : u 21 = .int .i64 cd := q21
  have e22 : u 22 = v22 := q22
  have e23 : u 23 = v23 := q23
  have e24 : u 24 = v24 := q24
  have e25 : u 25 = v25 := q25
  have e26 : u 26 = v26 := q26
  have e27 : u 27 = v27 := q27
  have e28 : u 28 = v28 := q28
  have e99 : u 99 = v99 := q99
  rw [e0, e1, e2, e3, e4, e5, e9, e12, e13, e14, e16, e17, e18, e19, e20, e21, e22, e23, e24, e25, e26, e27, e28, e99]
  clear q0 e0 q1 e1 q2 e2 q3 e3 q4 e4 q5 e5 q9 e9 q12 e12 q13 e13 q14 e14 q16 e16 q17 e17 q18 e18 q19 e19 q20 e20 q21 e21 q22 e22 q23 e23 q24 e24 q25 e25 q26 e26 q27 e27 q28 e28 q99 e99 hs1
  simp only [Try.f3, Option.getD_some, regOf] at hc
  injection hc with hc
  subst hc
  have HE := hide hE
  obtain ⟨⟨c0, c1, c2, c3⟩, _⟩ := box4 hS
  obtain ⟨⟨d0, d1, d2, d3⟩, _⟩ := box4 hZ
  clear hE hS hZ
  go_wp2_with (go_at_call 13; refine (HE.out _).mono ?_; rintro e w1 ⟨rfl, b1⟩; have B1 := hide b1; clear b1)
  exact HQ.out _ _ ⟨rfl, rfl, rfl, rfl, rfl, rfl, rfl, rfl, rfl, rfl, rfl, rfl, rfl, rfl, rfl, rfl, rfl, rfl, rfl, rfl, rfl, rfl, rfl, rfl, rfl, rfl⟩ (by first | rfl | (simp; done)) B1.out
set_option maxHeartbeats 8000000 in
set_option maxRecDepth 100000 in
theorem py_r15 {K : Act → World → Prop} {c : Code} (hc : regOf (Try.f3.body.getD .skip) 15 = some c) (a : Act) {v : Vpy} {wq : World} {b : Bool} (hF : Fpy a v) (h4v : v.v4 = .bool b) (hQ : ∀ a', Fpy a' v → a'.tmps.getD 72 undef = .bool b → K a' wq) :
    Code.wp Try.prog c (Exit.then K fun _ _ _ => False) a wq := by
  have HQ := hide hQ
  clear hQ
  obtain ⟨t', d'⟩ := a
  obtain ⟨v0, v1, v2, v3, v4, v5, v9, v12, v13, v14, v16, v17, v18, v19, v20, v21, v22, v23, v24, v25, v26, v27, v28, v99⟩ := v
  simp only at h4v HQ
  subst h4v
  obtain ⟨hs1, hd1, q0, q1, q2, q3, q4, q5, q9, q12, q13, q14, q16, q17, q18, q19, q20, q21, q22, q23, q24, q25, q26, q27, q28, q99⟩ := hF
  obtain ⟨u, hu⟩ := frame_py t' hs1
  simp only at hd1 q0 q1 q2 q3 q4 q5 q9 q12 q13 q14 q16 q17 q18 q19 q20 q21 q22 q23 q24 q25 q26 q27 q28 q99
  subst hu hd1
  have e0 : u 0 = v0 := q0
  have e1 : u 1 = v1 := q1
  have e2 : u 2 = v2 := q2
  have e3 : u 3 = v3 := q3
  have e4 : u 4 = .bool b := q4
  have e5 : u 5 = v5 := q5
  have e9 : u 9 = v9 := q9
  have e12 : u 12 = v12 := q12
  have e13 : u 13 = v13 := q13
  have e14 : u 14 = v14 := q14
  have e16 : u 16 = v16 := q16
  have e17 : u 17 = v17 := q17
  have e18 : u 18 = v18 := q18
  have e19 : u 19 = v19 := q19
  have e20 : u 20 = v20 := q20
  have e21 : u 21 = v21 := q21
  have e22 : u 22 = v22 := q22
  have e23 : u 23 = v23 := q23
  have e24 : u 24 = v24 := q24
  have e25 : u 25 = v25 := q25
  have e26 : u 26 = v26 := q26
  have e27 : u 27 = v27 := q27
  have e28 : u 28 = v28 := q28
  have e99 : u 99 = v99 := q99
  rw [e0, e1, e2, e3, e4, e5, e9, e12, e13, e14, e16, e17, e18, e19, e20, e21, e22, e23, e24, e25, e26, e27, e28, e99]
  clear q0 e0 q1 e1 q2 e2 q3 e3 q4 e4 q5 e5 q9 e9 q12 e12 q13 e13 q14 e14 q16 e16 q17 e17 q18 e18 q19 e19 q20 e20 q21 e21 q22 e22 q23 e23 q24 e24 q25 e25 q26 e26 q27 e27 q28 e28 q99 e99 hs1
  simp only [Try.f3, Option.getD_some, regOf] at hc
  injection hc with hc
  subst hc
  go_wp2
  exact HQ.out _ ⟨rfl, rfl, rfl, rfl, rfl, rfl, rfl, rfl, rfl, rfl, rfl, rfl, rfl, rfl, rfl, rfl, rfl, rfl, rfl, rfl, rfl, rfl, rfl, rfl, rfl, rfl⟩ (by first | rfl | (simp; done))
set_option maxHeartbeats 8000000 in
set_option maxRecDepth 100000 in
theorem py_r16 {K : Act → World → Prop} {c : Code} (hc : regOf (Try.f3.body.getD .skip) 16 = some c) (a : Act) {v : Vpy} {wq : World} {fb sb : Nat} {y0 y1 y2 y3 : Value} {xn xt : ByteArray} {xc xx : Int} (hF : Fpy a v) (h9v : v.v9 = .pointer (some ⟨fb, 0, none⟩)) (h18v : v.v18 = .pointer (some ⟨sb, 0, none⟩)) (hF9 : wq.heap[fb]? = some (.cells #[.string xn, .string xt, .int .i64 xc, .int .i64 xx] 23 (0, 0))) (hS : wq.heap[sb]? = some (.cells #[y0, y1, y2, y3] 23 (0, 0)))
    (hQ : ∀ a', Fpy a' v → K a' (set4 wq sb (.string xn) (.string xt) (.int .i64 xc) (.int .i64 xx))) :
    Code.wp Try.prog c (Exit.then K fun _ _ _ => False) a wq := by
  have HQ := hide hQ
  clear hQ
  obtain ⟨t', d'⟩ := a
  obtain ⟨v0, v1, v2, v3, v4, v5, v9, v12, v13, v14, v16, v17, v18, v19, v20, v21, v22, v23, v24, v25, v26, v27, v28, v99⟩ := v
  simp only at h9v h18v HQ
  subst h9v h18v
  obtain ⟨hs1, hd1, q0, q1, q2, q3, q4, q5, q9, q12, q13, q14, q16, q17, q18, q19, q20, q21, q22, q23, q24, q25, q26, q27, q28, q99⟩ := hF
  obtain ⟨u, hu⟩ := frame_py t' hs1
  simp only at hd1 q0 q1 q2 q3 q4 q5 q9 q12 q13 q14 q16 q17 q18 q19 q20 q21 q22 q23 q24 q25 q26 q27 q28 q99
  subst hu hd1
  have e0 : u 0 = v0 := q0
  have e1 : u 1 = v1 := q1
  have e2 : u 2 = v2 := q2
  have e3 : u 3 = v3 := q3
  have e4 : u 4 = v4 := q4
  have e5 : u 5 = v5 := q5
  have e9 : u 9 = .pointer (some ⟨fb, 0, none⟩) := q9
  have e12 : u 12 = v12 := q12
  have e13 : u 13 = v13 := q13
  have e14 : u 14 = v14 := q14
  have e16 : u 16 = v16 := q16
  have e17 : u 17 = v17 := q17
  have e18 : u 18 = .pointer (some ⟨sb, 0, none⟩) := q18
  have e19 : u 19 = v19 := q19
  have e20 : u 20 = v20 := q20
  have e21 : u 21 = v21 := q21
  have e22 : u 22 = v22 := q22
  have e23 : u 23 = v23 := q23
  have e24 : u 24 = v24 := q24
  have e25 : u 25 = v25 := q25
  have e26 : u 26 = v26 := q26
  have e27 : u 27 = v27 := q27
  have e28 : u 28 = v28 := q28
  have e99 : u 99 = v99 := q99
  rw [e0, e1, e2, e3, e4, e5, e9, e12, e13, e14, e16, e17, e18, e19, e20, e21, e22, e23, e24, e25, e26, e27, e28, e99]
  clear q0 e0 q1 e1 q2 e2 q3 e3 q4 e4 q5 e5 q9 e9 q12 e12 q13 e13 q14 e14 q16 e16 q17 e17 q18 e18 q19 e19 q20 e20 q21 e21 q22 e22 q23 e23 q24 e24 q25 e25 q26 e26 q27 e27 q28 e28 q99 e99 hs1
  simp only [Try.f3, Option.getD_some, regOf] at hc
  injection hc with hc
  subst hc
  obtain ⟨⟨c0, c1, c2, c3⟩, _⟩ := box4 hF9
  obtain ⟨⟨d0, d1, d2, d3⟩, f0, f1, f2, f3⟩ := box4 hS
  clear hF9 hS
  unfold set4 at HQ
  go_wp2
  exact HQ.out _ ⟨rfl, rfl, rfl, rfl, rfl, rfl, rfl, rfl, rfl, rfl, rfl, rfl, rfl, rfl, rfl, rfl, rfl, rfl, rfl, rfl, rfl, rfl, rfl, rfl, rfl, rfl⟩
set_option maxHeartbeats 8000000 in
set_option maxRecDepth 100000 in
theorem py_r17 {K : Act → World → Prop} {c : Code} (hc : regOf (Try.f3.body.getD .skip) 17 = some c) (a : Act) {v : Vpy} {wq : World} {fb zb : Nat} {y0 y1 y2 y3 : Value} {xn xt : ByteArray} {xc xx : Int} (hF : Fpy a v) (h9v : v.v9 = .pointer (some ⟨fb, 0, none⟩)) (h20v : v.v20 = .pointer (some ⟨zb, 0, none⟩)) (hF9 : wq.heap[fb]? = some (.cells #[.string xn, .string xt, .int .i64 xc, .int .i64 xx] 23 (0, 0))) (hZ : wq.heap[zb]? = some (.cells #[y0, y1, y2, y3] 37 (0, 0)))
    (hQ : ∀ a', Fpy a' v → K a' (set4 wq zb (.string xn) (.string xt) (.int .i64 xc) (.int .i64 xx))) :
    Code.wp Try.prog c (Exit.then K fun _ _ _ => False) a wq := by
  have HQ := hide hQ
  clear hQ
  obtain ⟨t', d'⟩ := a
  obtain ⟨v0, v1, v2, v3, v4, v5, v9, v12, v13, v14, v16, v17, v18, v19, v20, v21, v22, v23, v24, v25, v26, v27, v28, v99⟩ := v
  simp only at h9v h20v HQ
  subst h9v h20v
  obtain ⟨hs1, hd1, q0, q1, q2, q3, q4, q5, q9, q12, q13, q14, q16, q17, q18, q19, q20, q21, q22, q23, q24, q25, q26, q27, q28, q99⟩ := hF
  obtain ⟨u, hu⟩ := frame_py t' hs1
  simp only at hd1 q0 q1 q2 q3 q4 q5 q9 q12 q13 q14 q16 q17 q18 q19 q20 q21 q22 q23 q24 q25 q26 q27 q28 q99
  subst hu hd1
  have e0 : u 0 = v0 := q0
  have e1 : u 1 = v1 := q1
  have e2 : u 2 = v2 := q2
  have e3 : u 3 = v3 := q3
  have e4 : u 4 = v4 := q4
  have e5 : u 5 = v5 := q5
  have e9 : u 9 = .pointer (some ⟨fb, 0, none⟩) := q9
  have e12 : u 12 = v12 := q12
  have e13 : u 13 = v13 := q13
  have e14 : u 14 = v14 := q14
  have e16 : u 16 = v16 := q16
  have e17 : u 17 = v17 := q17
  have e18 : u 18 = v18 := q18
  have e19 : u 19 = v19 := q19
  have e20 : u 20 = .pointer (some ⟨zb, 0, none⟩) := q20
  have e21 : u 21 = v21 := q21
  have e22 : u 22 = v22 := q22
  have e23 : u 23 = v23 := q23
  have e24 : u 24 = v24 := q24
  have e25 : u 25 = v25 := q25
  have e26 : u 26 = v26 := q26
  have e27 : u 27 = v27 := q27
  have e28 : u 28 = v28 := q28
  have e99 : u 99 = v99 := q99
  rw [e0, e1, e2, e3, e4, e5, e9, e12, e13, e14, e16, e17, e18, e19, e20, e21, e22, e23, e24, e25, e26, e27, e28, e99]
  clear q0 e0 q1 e1 q2 e2 q3 e3 q4 e4 q5 e5 q9 e9 q12 e12 q13 e13 q14 e14 q16 e16 q17 e17 q18 e18 q19 e19 q20 e20 q21 e21 q22 e22 q23 e23 q24 e24 q25 e25 q26 e26 q27 e27 q28 e28 q99 e99 hs1
  simp only [Try.f3, Option.getD_some, regOf] at hc
  injection hc with hc
  subst hc
  obtain ⟨⟨c0, c1, c2, c3⟩, _⟩ := box4 hF9
  obtain ⟨⟨d0, d1, d2, d3⟩, f0, f1, f2, f3⟩ := box4 hZ
  clear hF9 hZ
  unfold set4 at HQ
  go_wp2
  exact HQ.out _ ⟨rfl, rfl, rfl, rfl, rfl, rfl, rfl, rfl, rfl, rfl, rfl, rfl, rfl, rfl, rfl, rfl, rfl, rfl, rfl, rfl, rfl, rfl, rfl, rfl, rfl, rfl⟩
set_option maxHeartbeats 8000000 in
set_option maxRecDepth 100000 in
theorem py_r18 {K : Act → World → Prop} {c : Code} (hc : regOf (Try.f3.body.getD .skip) 18 = some c) (a : Act) {v : Vpy} {wq : World}  (hF : Fpy a v) (hQ : ∀ a', Fpy a' { v with v22 := .int .i64 0 } → K a' wq) :
    Code.wp Try.prog c (Exit.then K fun _ _ _ => False) a wq := by
  have HQ := hide hQ
  clear hQ
  obtain ⟨t', d'⟩ := a
  obtain ⟨v0, v1, v2, v3, v4, v5, v9, v12, v13, v14, v16, v17, v18, v19, v20, v21, v22, v23, v24, v25, v26, v27, v28, v99⟩ := v
  obtain ⟨hs1, hd1, q0, q1, q2, q3, q4, q5, q9, q12, q13, q14, q16, q17, q18, q19, q20, q21, q22, q23, q24, q25, q26, q27, q28, q99⟩ := hF
  obtain ⟨u, hu⟩ := frame_py t' hs1
  simp only at hd1 q0 q1 q2 q3 q4 q5 q9 q12 q13 q14 q16 q17 q18 q19 q20 q21 q22 q23 q24 q25 q26 q27 q28 q99
  subst hu hd1
  have e0 : u 0 = v0 := q0
  have e1 : u 1 = v1 := q1
  have e2 : u 2 = v2 := q2
  have e3 : u 3 = v3 := q3
  have e4 : u 4 = v4 := q4
  have e5 : u 5 = v5 := q5
  have e9 : u 9 = v9 := q9
  have e12 : u 12 = v12 := q12
  have e13 : u 13 = v13 := q13
  have e14 : u 14 = v14 := q14
  have e16 : u 16 = v16 := q16
  have e17 : u 17 = v17 := q17
  have e18 : u 18 = v18 := q18
  have e19 : u 19 = v19 := q19
  have e20 : u 20 = v20 := q20
  have e21 : u 21 = v21 := q21
  have e22 : u 22 = v22 := q22
  have e23 : u 23 = v23 := q23
  have e24 : u 24 = v24 := q24
  have e25 : u 25 = v25 := q25
  have e26 : u 26 = v26 := q26
  have e27 : u 27 = v27 := q27
  have e28 : u 28 = v28 := q28
  have e99 : u 99 = v99 := q99
  rw [e0, e1, e2, e3, e4, e5, e9, e12, e13, e14, e16, e17, e18, e19, e20, e21, e22, e23, e24, e25, e26, e27, e28, e99]
  clear q0 e0 q1 e1 q2 e2 q3 e3 q4 e4 q5 e5 q9 e9 q12 e12 q13 e13 q14 e14 q16 e16 q17 e17 q18 e18 q19 e19 q20 e20 q21 e21 q22 e22 q23 e23 q24 e24 q25 e25 q26 e26 q27 e27 q28 e28 q99 e99 hs1
  simp only [Try.f3, Option.getD_some, regOf] at hc
  injection hc with hc
  subst hc
  go_wp2
  exact HQ.out _ ⟨rfl, rfl, rfl, rfl, rfl, rfl, rfl, rfl, rfl, rfl, rfl, rfl, rfl, rfl, rfl, rfl, rfl, rfl, rfl, rfl, rfl, rfl, rfl, rfl, rfl, rfl⟩
set_option maxHeartbeats 8000000 in
set_option maxRecDepth 100000 in
theorem py_r19 {K : Act → World → Prop} {c : Code} (hc : regOf (Try.f3.body.getD .skip) 19 = some c) (a : Act) {v : Vpy} {wq : World} {ao : Option Addr} {nq cap iq : Nat} (hF : Fpy a v) (h5v : v.v5 = .slice ao nq cap) (h22v : v.v22 = .int .i64 (iq : Int)) (hQ : ∀ a', Fpy a' v → a'.tmps.getD 90 undef = .bool (decide (iq < nq) && decide (iq < 100)) → K a' wq) :
    Code.wp Try.prog c (Exit.then K fun _ _ _ => False) a wq := by
  have HQ := hide hQ
  clear hQ
  obtain ⟨t', d'⟩ := a
  obtain ⟨v0, v1, v2, v3, v4, v5, v9, v12, v13, v14, v16, v17, v18, v19, v20, v21, v22, v23, v24, v25, v26, v27, v28, v99⟩ := v
  simp only at h5v h22v HQ
  subst h5v h22v
  obtain ⟨hs1, hd1, q0, q1, q2, q3, q4, q5, q9, q12, q13, q14, q16, q17, q18, q19, q20, q21, q22, q23, q24, q25, q26, q27, q28, q99⟩ := hF
  obtain ⟨u, hu⟩ := frame_py t' hs1
  simp only at hd1 q0 q1 q2 q3 q4 q5 q9 q12 q13 q14 q16 q17 q18 q19 q20 q21 q22 q23 q24 q25 q26 q27 q28 q99
  subst hu hd1
  have e0 : u 0 = v0 := q0
  have e1 : u 1 = v1 := q1
  have e2 : u 2 = v2 := q2
  have e3 : u 3 = v3 := q3
  have e4 : u 4 = v4 := q4
  have e5 : u 5 = .slice ao nq cap := q5
  have e9 : u 9 = v9 := q9
  have e12 : u 12 = v12 := q12
  have e13 : u 13 = v13 := q13
  have e14 : u 14 = v14 := q14
  have e16 : u 16 = v16 := q16
  have e17 : u 17 = v17 := q17
  have e18 : u 18 = v18 := q18
  have e19 : u 19 = v19 := q19
  have e20 : u 20 = v20 := q20
  have e21 : u 21 = v21 := q21
  have e22 : u 22 = .int .i64 (iq : Int) := q22
  have e23 : u 23 = v23 := q23
  have e24 : u 24 = v24 := q24
  have e25 : u 25 = v25 := q25
  have e26 : u 26 = v26 := q26
  have e27 : u 27 = v27 := q27
  have e28 : u 28 = v28 := q28
  have e99 : u 99 = v99 := q99
  rw [e0, e1, e2, e3, e4, e5, e9, e12, e13, e14, e16, e17, e18, e19, e20, e21, e22, e23, e24, e25, e26, e27, e28, e99]
  clear q0 e0 q1 e1 q2 e2 q3 e3 q4 e4 q5 e5 q9 e9 q12 e12 q13 e13 q14 e14 q16 e16 q17 e17 q18 e18 q19 e19 q20 e20 q21 e21 q22 e22 q23 e23 q24 e24 q25 e25 q26 e26 q27 e27 q28 e28 q99 e99 hs1
  simp only [Try.f3, Option.getD_some, regOf] at hc
  injection hc with hc
  subst hc
  by_cases h1 : iq < nq
  · have g1 : (iq : Int) < (nq : Int) := by omega
    by_cases h2 : iq < 100
    · rw [decide_eq_true h1, decide_eq_true h2] at HQ
      have g2 : (iq : Int) < 100 := by omega
      go_wp2
      exact HQ.out _ ⟨rfl, rfl, rfl, rfl, rfl, rfl, rfl, rfl, rfl, rfl, rfl, rfl, rfl, rfl, rfl, rfl, rfl, rfl, rfl, rfl, rfl, rfl, rfl, rfl, rfl, rfl⟩ (by first | rfl | (simp; done) | (simp; omega))
    · rw [decide_eq_true h1, decide_eq_false h2] at HQ
      have g2 : ¬ (iq : Int) < 100 := by omega
      go_wp2
      exact HQ.out _ ⟨rfl, rfl, rfl, rfl, rfl, rfl, rfl, rfl, rfl, rfl, rfl, rfl, rfl, rfl, rfl, rfl, rfl, rfl, rfl, rfl, rfl, rfl, rfl, rfl, rfl, rfl⟩ (by first | rfl | (simp; done) | (simp; omega))
  · rw [decide_eq_false h1] at HQ
    have g1 : ¬ (iq : Int) < (nq : Int) := by omega
    go_wp2
    exact HQ.out _ ⟨rfl, rfl, rfl, rfl, rfl, rfl, rfl, rfl, rfl, rfl, rfl, rfl, rfl, rfl, rfl, rfl, rfl, rfl, rfl, rfl, rfl, rfl, rfl, rfl, rfl, rfl⟩ (by first | rfl | (simp; done) | (simp; omega))
set_option maxHeartbeats 8000000 in
set_option maxRecDepth 100000 in
theorem py_r21 {K : Act → World → Prop} {c : Code} (hc : regOf (Try.f3.body.getD .skip) 21 = some c) (a : Act) {v : Vpy} {wq : World} {kk m : Int} {bq oq nq cq iq : Nat} (hF : Fpy a v) (h5v : v.v5 = .slice (some ⟨bq, oq, none⟩) nq cq) (h22v : v.v22 = .int .i64 (iq : Int)) (hi : iq < nq) (hc0 : wq.cell? ⟨bq, oq + iq * 2, none⟩ = some (.int .i64 kk)) (hc1 : wq.cell? ⟨bq, oq + iq * 2 + 1, none⟩ = some (.int .i64 m))
    (hQ : ∀ a', Fpy a' { v with v23 := .pointer (some ⟨wq.heap.size, 0, none⟩) } → K a' (wq.alloc (.cells #[.int .i64 kk, .int .i64 m] 42))) :
    Code.wp Try.prog c (Exit.then K fun _ _ _ => False) a wq := by
  have HQ := hide hQ
  clear hQ
  obtain ⟨t', d'⟩ := a
  obtain ⟨v0, v1, v2, v3, v4, v5, v9, v12, v13, v14, v16, v17, v18, v19, v20, v21, v22, v23, v24, v25, v26, v27, v28, v99⟩ := v
  simp only at h5v h22v HQ
  subst h5v h22v
  obtain ⟨hs1, hd1, q0, q1, q2, q3, q4, q5, q9, q12, q13, q14, q16, q17, q18, q19, q20, q21, q22, q23, q24, q25, q26, q27, q28, q99⟩ := hF
  obtain ⟨u, hu⟩ := frame_py t' hs1
  simp only at hd1 q0 q1 q2 q3 q4 q5 q9 q12 q13 q14 q16 q17 q18 q19 q20 q21 q22 q23 q24 q25 q26 q27 q28 q99
  subst hu hd1
  have e0 : u 0 = v0 := q0
  have e1 : u 1 = v1 := q1
  have e2 : u 2 = v2 := q2
  have e3 : u 3 = v3 := q3
  have e4 : u 4 = v4 := q4
  have e5 : u 5 = .slice (some ⟨bq, oq, none⟩) nq cq := q5
  have e9 : u 9 = v9 := q9
  have e12 : u 12 = v12 := q12
  have e13 : u 13 = v13 := q13
  have e14 : u 14 = v14 := q14
  have e16 : u 16 = v16 := q16
  have e17 : u 17 = v17 := q17
  have e18 : u 18 = v18 := q18
  have e19 : u 19 = v19 := q19
  have e20 : u 20 = v20 := q20
  have e21 : u 21 = v21 := q21
  have e22 : u 22 = .int .i64 (iq : Int) := q22
  have e23 : u 23 = v23 := q23
  have e24 : u 24 = v24 := q24
  have e25 : u 25 = v25 := q25
  have e26 : u 26 = v26 := q26
  have e27 : u 27 = v27 := q27
  have e28 : u 28 = v28 := q28
  have e99 : u 99 = v99 := q99
  rw [e0, e1, e2, e3, e4, e5, e9, e12, e13, e14, e16, e17, e18, e19, e20, e21, e22, e23, e24, e25, e26, e27, e28, e99]
  clear q0 e0 q1 e1 q2 e2 q3 e3 q4 e4 q5 e5 q9 e9 q12 e12 q13 e13 q14 e14 q16 e16 q17 e17 q18 e18 q19 e19 q20 e20 q21 e21 q22 e22 q23 e23 q24 e24 q25 e25 q26 e26 q27 e27 q28 e28 q99 e99 hs1
  simp only [Try.f3, Option.getD_some, regOf] at hc
  injection hc with hc
  subst hc
  have e1 : (iq : Int) < (nq : Int) := by omega
  go_wp2
  exact HQ.out _ ⟨rfl, rfl, rfl, rfl, rfl, rfl, rfl, rfl, rfl, rfl, rfl, rfl, rfl, rfl, rfl, rfl, rfl, rfl, rfl, rfl, rfl, rfl, rfl, rfl, rfl, rfl⟩
set_option maxHeartbeats 8000000 in
set_option maxRecDepth 100000 in
theorem py_r22 {K : Act → World → Prop} {c : Code} (hc : regOf (Try.f3.body.getD .skip) 22 = some c) (a : Act) {v : Vpy} {wq : World}  (hF : Fpy a v) (hQ : ∀ a', Fpy a' { v with v24 := .int .i64 0 } → K a' wq) :
    Code.wp Try.prog c (Exit.then K fun _ _ _ => False) a wq := by
  have HQ := hide hQ
  clear hQ
  obtain ⟨t', d'⟩ := a
  obtain ⟨v0, v1, v2, v3, v4, v5, v9, v12, v13, v14, v16, v17, v18, v19, v20, v21, v22, v23, v24, v25, v26, v27, v28, v99⟩ := v
  obtain ⟨hs1, hd1, q0, q1, q2, q3, q4, q5, q9, q12, q13, q14, q16, q17, q18, q19, q20, q21, q22, q23, q24, q25, q26, q27, q28, q99⟩ := hF
  obtain ⟨u, hu⟩ := frame_py t' hs1
  simp only at hd1 q0 q1 q2 q3 q4 q5 q9 q12 q13 q14 q16 q17 q18 q19 q20 q21 q22 q23 q24 q25 q26 q27 q28 q99
  subst hu hd1
  have e0 : u 0 = v0 := q0
  have e1 : u 1 = v1 := q1
  have e2 : u 2 = v2 := q2
  have e3 : u 3 = v3 := q3
  have e4 : u 4 = v4 := q4
  have e5 : u 5 = v5 := q5
  have e9 : u 9 = v9 := q9
  have e12 : u 12 = v12 := q12
  have e13 : u 13 = v13 := q13
  have e14 : u 14 = v14 := q14
  have e16 : u 16 = v16 := q16
  have e17 : u 17 = v17 := q17
  have e18 : u 18 = v18 := q18
  have e19 : u 19 = v19 := q19
  have e20 : u 20 = v20 := q20
  have e21 : u 21 = v21 := q21
  have e22 : u 22 = v22 := q22
  have e23 : u 23 = v23 := q23
  have e24 : u 24 = v24 := q24
  have e25 : u 25 = v25 := q25
  have e26 : u 26 = v26 := q26
  have e27 : u 27 = v27 := q27
  have e28 : u 28 = v28 := q28
  have e99 : u 99 = v99 := q99
  rw [e0, e1, e2, e3, e4, e5, e9, e12, e13, e14, e16, e17, e18, e19, e20, e21, e22, e23, e24, e25, e26, e27, e28, e99]
  clear q0 e0 q1 e1 q2 e2 q3 e3 q4 e4 q5 e5 q9 e9 q12 e12 q13 e13 q14 e14 q16 e16 q17 e17 q18 e18 q19 e19 q20 e20 q21 e21 q22 e22 q23 e23 q24 e24 q25 e25 q26 e26 q27 e27 q28 e28 q99 e99 hs1
  simp only [Try.f3, Option.getD_some, regOf] at hc
  injection hc with hc
  subst hc
  go_wp2
  exact HQ.out _ ⟨rfl, rfl, rfl, rfl, rfl, rfl, rfl, rfl, rfl, rfl, rfl, rfl, rfl, rfl, rfl, rfl, rfl, rfl, rfl, rfl, rfl, rfl, rfl, rfl, rfl, rfl⟩
set_option maxHeartbeats 8000000 in
set_option maxRecDepth 100000 in
theorem py_r23 {K : Act → World → Prop} {c : Code} (hc : regOf (Try.f3.body.getD .skip) 23 = some c) (a : Act) {v : Vpy} {wq : World}  (hF : Fpy a v) (hQ : ∀ a', Fpy a' { v with v25 := .int .i64 0 } → K a' wq) :
    Code.wp Try.prog c (Exit.then K fun _ _ _ => False) a wq := by
  have HQ := hide hQ
  clear hQ
  obtain ⟨t', d'⟩ := a
  obtain ⟨v0, v1, v2, v3, v4, v5, v9, v12, v13, v14, v16, v17, v18, v19, v20, v21, v22, v23, v24, v25, v26, v27, v28, v99⟩ := v
  obtain ⟨hs1, hd1, q0, q1, q2, q3, q4, q5, q9, q12, q13, q14, q16, q17, q18, q19, q20, q21, q22, q23, q24, q25, q26, q27, q28, q99⟩ := hF
  obtain ⟨u, hu⟩ := frame_py t' hs1
  simp only at hd1 q0 q1 q2 q3 q4 q5 q9 q12 q13 q14 q16 q17 q18 q19 q20 q21 q22 q23 q24 q25 q26 q27 q28 q99
  subst hu hd1
  have e0 : u 0 = v0 := q0
  have e1 : u 1 = v1 := q1
  have e2 : u 2 = v2 := q2
  have e3 : u 3 = v3 := q3
  have e4 : u 4 = v4 := q4
  have e5 : u 5 = v5 := q5
  have e9 : u 9 = v9 := q9
  have e12 : u 12 = v12 := q12
  have e13 : u 13 = v13 := q13
  have e14 : u 14 = v14 := q14
  have e16 : u 16 = v16 := q16
  have e17 : u 17 = v17 := q17
  have e18 : u 18 = v18 := q18
  have e19 : u 19 = v19 := q19
  have e20 : u 20 = v20 := q20
  have e21 : u 21 = v21 := q21
  have e22 : u 22 = v22 := q22
  have e23 : u 23 = v23 := q23
  have e24 : u 24 = v24 := q24
  have e25 : u 25 = v25 := q25
  have e26 : u 26 = v26 := q26
  have e27 : u 27 = v27 := q27
  have e28 : u 28 = v28 := q28
  have e99 : u 99 = v99 := q99
  rw [e0, e1, e2, e3, e4, e5, e9, e12, e13, e14, e16, e17, e18, e19, e20, e21, e22, e23, e24, e25, e26, e27, e28, e99]
  clear q0 e0 q1 e1 q2 e2 q3 e3 q4 e4 q5 e5 q9 e9 q12 e12 q13 e13 q14 e14 q16 e16 q17 e17 q18 e18 q19 e19 q20 e20 q21 e21 q22 e22 q23 e23 q24 e24 q25 e25 q26 e26 q27 e27 q28 e28 q99 e99 hs1
  simp only [Try.f3, Option.getD_some, regOf] at hc
  injection hc with hc
  subst hc
  go_wp2
  exact HQ.out _ ⟨rfl, rfl, rfl, rfl, rfl, rfl, rfl, rfl, rfl, rfl, rfl, rfl, rfl, rfl, rfl, rfl, rfl, rfl, rfl, rfl, rfl, rfl, rfl, rfl, rfl, rfl⟩
set_option maxHeartbeats 8000000 in
set_option maxRecDepth 100000 in
theorem py_r24 {K : Act → World → Prop} {c : Code} (hc : regOf (Try.f3.body.getD .skip) 24 = some c) (a : Act) {v : Vpy} {wq : World}  (hF : Fpy a v) (hQ : ∀ a', Fpy a' { v with v26 := .slice none 0 0 } → K a' wq) :
    Code.wp Try.prog c (Exit.then K fun _ _ _ => False) a wq := by
  have HQ := hide hQ
  clear hQ
  obtain ⟨t', d'⟩ := a
  obtain ⟨v0, v1, v2, v3, v4, v5, v9, v12, v13, v14, v16, v17, v18, v19, v20, v21, v22, v23, v24, v25, v26, v27, v28, v99⟩ := v
  obtain ⟨hs1, hd1, q0, q1, q2, q3, q4, q5, q9, q12, q13, q14, q16, q17, q18, q19, q20, q21, q22, q23, q24, q25, q26, q27, q28, q99⟩ := hF
  obtain ⟨u, hu⟩ := frame_py t' hs1
  simp only at hd1 q0 q1 q2 q3 q4 q5 q9 q12 q13 q14 q16 q17 q18 q19 q20 q21 q22 q23 q24 q25 q26 q27 q28 q99
  subst hu hd1
  have e0 : u 0 = v0 := q0
  have e1 : u 1 = v1 := q1
  have e2 : u 2 = v2 := q2
  have e3 : u 3 = v3 := q3
  have e4 : u 4 = v4 := q4
  have e5 : u 5 = v5 := q5
  have e9 : u 9 = v9 := q9
  have e12 : u 12 = v12 := q12
  have e13 : u 13 = v13 := q13
  have e14 : u 14 = v14 := q14
  have e16 : u 16 = v16 := q16
  have e17 : u 17 = v17 := q17
  have e18 : u 18 = v18 := q18
  have e19 : u 19 = v19 := q19
  have e20 : u 20 = v20 := q20
  have e21 : u 21 = v21 := q21
  have e22 : u 22 = v22 := q22
  have e23 : u 23 = v23 := q23
  have e24 : u 24 = v24 := q24
  have e25 : u 25 = v25 := q25
  have e26 : u 26 = v26 := q26
  have e27 : u 27 = v27 := q27
  have e28 : u 28 = v28 := q28
  have e99 : u 99 = v99 := q99
  rw [e0, e1, e2, e3, e4, e5, e9, e12, e13, e14, e16, e17, e18, e19, e20, e21, e22, e23, e24, e25, e26, e27, e28, e99]
  clear q0 e0 q1 e1 q2 e2 q3 e3 q4 e4 q5 e5 q9 e9 q12 e12 q13 e13 q14 e14 q16 e16 q17 e17 q18 e18 q19 e19 q20 e20 q21 e21 q22 e22 q23 e23 q24 e24 q25 e25 q26 e26 q27 e27 q28 e28 q99 e99 hs1
  simp only [Try.f3, Option.getD_some, regOf] at hc
  injection hc with hc
  subst hc
  go_wp2
  exact HQ.out _ ⟨rfl, rfl, rfl, rfl, rfl, rfl, rfl, rfl, rfl, rfl, rfl, rfl, rfl, rfl, rfl, rfl, rfl, rfl, rfl, rfl, rfl, rfl, rfl, rfl, rfl, rfl⟩
set_option maxHeartbeats 8000000 in
set_option maxRecDepth 100000 in
theorem py_r25 {K : Act → World → Prop} {c : Code} (hc : regOf (Try.f3.body.getD .skip) 25 = some c) (a : Act) {v : Vpy} {wq : World}  (hF : Fpy a v) (hQ : ∀ a', Fpy a' { v with v27 := .slice none 0 0 } → K a' wq) :
    Code.wp Try.prog c (Exit.then K fun _ _ _ => False) a wq := by
  have HQ := hide hQ
  clear hQ
  obtain ⟨t', d'⟩ := a
  obtain ⟨v0, v1, v2, v3, v4, v5, v9, v12, v13, v14, v16, v17, v18, v19, v20, v21, v22, v23, v24, v25, v26, v27, v28, v99⟩ := v
  obtain ⟨hs1, hd1, q0, q1, q2, q3, q4, q5, q9, q12, q13, q14, q16, q17, q18, q19, q20, q21, q22, q23, q24, q25, q26, q27, q28, q99⟩ := hF
  obtain ⟨u, hu⟩ := frame_py t' hs1
  simp only at hd1 q0 q1 q2 q3 q4 q5 q9 q12 q13 q14 q16 q17 q18 q19 q20 q21 q22 q23 q24 q25 q26 q27 q28 q99
  subst hu hd1
  have e0 : u 0 = v0 := q0
  have e1 : u 1 = v1 := q1
  have e2 : u 2 = v2 := q2
  have e3 : u 3 = v3 := q3
  have e4 : u 4 = v4 := q4
  have e5 : u 5 = v5 := q5
  have e9 : u 9 = v9 := q9
  have e12 : u 12 = v12 := q12
  have e13 : u 13 = v13 := q13
  have e14 : u 14 = v14 := q14
  have e16 : u 16 = v16 := q16
  have e17 : u 17 = v17 := q17
  have e18 : u 18 = v18 := q18
  have e19 : u 19 = v19 := q19
  have e20 : u 20 = v20 := q20
  have e21 : u 21 = v21 := q21
  have e22 : u 22 = v22 := q22
  have e23 : u 23 = v23 := q23
  have e24 : u 24 = v24 := q24
  have e25 : u 25 = v25 := q25
  have e26 : u 26 = v26 := q26
  have e27 : u 27 = v27 := q27
  have e28 : u 28 = v28 := q28
  have e99 : u 99 = v99 := q99
  rw [e0, e1, e2, e3, e4, e5, e9, e12, e13, e14, e16, e17, e18, e19, e20, e21, e22, e23, e24, e25, e26, e27, e28, e99]
  clear q0 e0 q1 e1 q2 e2 q3 e3 q4 e4 q5 e5 q9 e9 q12 e12 q13 e13 q14 e14 q16 e16 q17 e17 q18 e18 q19 e19 q20 e20 q21 e21 q22 e22 q23 e23 q24 e24 q25 e25 q26 e26 q27 e27 q28 e28 q99 e99 hs1
  simp only [Try.f3, Option.getD_some, regOf] at hc
  injection hc with hc
  subst hc
  go_wp2
  exact HQ.out _ ⟨rfl, rfl, rfl, rfl, rfl, rfl, rfl, rfl, rfl, rfl, rfl, rfl, rfl, rfl, rfl, rfl, rfl, rfl, rfl, rfl, rfl, rfl, rfl, rfl, rfl, rfl⟩
set_option maxHeartbeats 8000000 in
set_option maxRecDepth 100000 in
theorem py_r26 {K : Act → World → Prop} {c : Code} (hc : regOf (Try.f3.body.getD .skip) 26 = some c) (a : Act) {v : Vpy} {wq : World} {kk pk : Int} {db : Nat} (hF : Fpy a v) (h23v : v.v23 = .pointer (some ⟨db, 0, none⟩)) (hD : wq.cell? ⟨db, 0, none⟩ = some (.int .i64 kk)) (hE : Calls Try.prog 8 #[.int .i64 kk, .int .i64 6] wq fun e w' => e = .returned (.int .i64 pk) ∧ w' = wq)
    (hQ : ∀ a' w', Fpy a' { v with v99 := .int .i64 pk } → w' = wq → K a' w') :
    Code.wp Try.prog c (Exit.then K fun _ _ _ => False) a wq := by
  have HQ := hide hQ
  clear hQ
  obtain ⟨t', d'⟩ := a
  obtain ⟨v0, v1, v2, v3, v4, v5, v9, v12, v13, v14, v16, v17, v18, v19, v20, v21, v22, v23, v24, v25, v26, v27, v28, v99⟩ := v
  simp only at h23v HQ
  subst h23v
  obtain ⟨hs1, hd1, q0, q1, q2, q3, q4, q5, q9, q12, q13, q14, q16, q17, q18, q19, q20, q21, q22, q23, q24, q25, q26, q27, q28, q99⟩ := hF
  obtain ⟨u, hu⟩ := frame_py t' hs1
  simp only at hd1 q0 q1 q2 q3 q4 q5 q9 q12 q13 q14 q16 q17 q18 q19 q20 q21 q22 q23 q24 q25 q26 q27 q28 q99
  subst hu hd1
  have e0 : u 0 = v0 := q0
  have e1 : u 1 = v1 := q1
  have e2 : u 2 = v2 := q2
  have e3 : u 3 = v3 := q3
  have e4 : u 4 = v4 := q4
  have e5 : u 5 = v5 := q5
  have e9 : u 9 = v9 := q9
  have e12 : u 12 = v12 := q12
  have e13 : u 13 = v13 := q13
  have e14 : u 14 = v14 := q14
  have e16 : u 16 = v16 := q16
  have e17 : u 17 = v17 := q17
  have e18 : u 18 = v18 := q18
  have e19 : u 19 = v19 := q19
  have e20 : u 20 = v20 := q20
  have e21 : u 21 = v21 := q21
  have e22 : u 22 = v22 := q22
  have e23 : u 23 = .pointer (some ⟨db, 0, none⟩) := q23
  have e24 : u 24 = v24 := q24
  have e25 : u 25 = v25 := q25
  have e26 : u 26 = v26 := q26
  have e27 : u 27 = v27 := q27
  have e28 : u 28 = v28 := q28
  have e99 : u 99 = v99 := q99
  rw [e0, e1, e2, e3, e4, e5, e9, e12, e13, e14, e16, e17, e18, e19, e20, e21, e22, e23, e24, e25, e26, e27, e28, e99]
  clear q0 e0 q1 e1 q2 e2 q3 e3 q4 e4 q5 e5 q9 e9 q12 e12 q13 e13 q14 e14 q16 e16 q17 e17 q18 e18 q19 e19 q20 e20 q21 e21 q22 e22 q23 e23 q24 e24 q25 e25 q26 e26 q27 e27 q28 e28 q99 e99 hs1
  simp only [Try.f3, Option.getD_some, regOf] at hc
  injection hc with hc
  subst hc
  have HE := hide hE
  clear hE
  go_wp2_with (go_at_call 8; refine HE.out.mono ?_; rintro e w1 ⟨rfl, r1⟩; have R1 := hide r1; clear r1)
  exact HQ.out _ _ ⟨rfl, rfl, rfl, rfl, rfl, rfl, rfl, rfl, rfl, rfl, rfl, rfl, rfl, rfl, rfl, rfl, rfl, rfl, rfl, rfl, rfl, rfl, rfl, rfl, rfl, rfl⟩ R1.out
set_option maxHeartbeats 8000000 in
set_option maxRecDepth 100000 in
theorem py_r29 {K : Act → World → Prop} {c : Code} (hc : regOf (Try.f3.body.getD .skip) 29 = some c) (a : Act) {v : Vpy} {wq : World} {pk : Int} (hF : Fpy a v) (h99v : v.v99 = .int .i64 pk) (hQ : ∀ a', Fpy a' v → a'.tmps.getD 108 undef = .bool (pk == 0) → K a' wq) :
    Code.wp Try.prog c (Exit.then K fun _ _ _ => False) a wq := by
  have HQ := hide hQ
  clear hQ
  obtain ⟨t', d'⟩ := a
  obtain ⟨v0, v1, v2, v3, v4, v5, v9, v12, v13, v14, v16, v17, v18, v19, v20, v21, v22, v23, v24, v25, v26, v27, v28, v99⟩ := v
  simp only at h99v HQ
  subst h99v
  obtain ⟨hs1, hd1, q0, q1, q2, q3, q4, q5, q9, q12, q13, q14, q16, q17, q18, q19, q20, q21, q22, q23, q24, q25, q26, q27, q28, q99⟩ := hF
  obtain ⟨u, hu⟩ := frame_py t' hs1
  simp only at hd1 q0 q1 q2 q3 q4 q5 q9 q12 q13 q14 q16 q17 q18 q19 q20 q21 q22 q23 q24 q25 q26 q27 q28 q99
  subst hu hd1
  have e0 : u 0 = v0 := q0
  have e1 : u 1 = v1 := q1
  have e2 : u 2 = v2 := q2
  have e3 : u 3 = v3 := q3
  have e4 : u 4 = v4 := q4
  have e5 : u 5 = v5 := q5
  have e9 : u 9 = v9 := q9
  have e12 : u 12 = v12 := q12
  have e13 : u 13 = v13 := q13
  have e14 : u 14 = v14 := q14
  have e16 : u 16 = v16 := q16
  have e17 : u 17 = v17 := q17
  have e18 : u 18 = v18 := q18
  have e19 : u 19 = v19 := q19
  have e20 : u 20 = v20 := q20
  have e21 : u 21 = v21 := q21
  have e22 : u 22 = v22 := q22
  have e23 : u 23 = v23 := q23
  have e24 : u 24 = v24 := q24
  have e25 : u 25 = v25 := q25
  have e26 : u 26 = v26 := q26
  have e27 : u 27 = v27 := q27
  have e28 : u 28 = v28 := q28
  have e99 : u 99 = .int .i64 pk := q99
  rw [e0, e1, e2, e3, e4, e5, e9, e12, e13, e14, e16, e17, e18, e19, e20, e21, e22, e23, e24, e25, e26, e27, e28, e99]
  clear q0 e0 q1 e1 q2 e2 q3 e3 q4 e4 q5 e5 q9 e9 q12 e12 q13 e13 q14 e14 q16 e16 q17 e17 q18 e18 q19 e19 q20 e20 q21 e21 q22 e22 q23 e23 q24 e24 q25 e25 q26 e26 q27 e27 q28 e28 q99 e99 hs1
  simp only [Try.f3, Option.getD_some, regOf] at hc
  injection hc with hc
  subst hc
  go_wp2
  exact HQ.out _ ⟨rfl, rfl, rfl, rfl, rfl, rfl, rfl, rfl, rfl, rfl, rfl, rfl, rfl, rfl, rfl, rfl, rfl, rfl, rfl, rfl, rfl, rfl, rfl, rfl, rfl, rfl⟩ (by first | rfl | (simp; done))
set_option maxHeartbeats 8000000 in
set_option maxRecDepth 100000 in
theorem py_r33 {K : Act → World → Prop} {c : Code} (hc : regOf (Try.f3.body.getD .skip) 33 = some c) (a : Act) {v : Vpy} {wq : World} {pk : Int} (hF : Fpy a v) (h99v : v.v99 = .int .i64 pk) (hQ : ∀ a', Fpy a' v → a'.tmps.getD 118 undef = .bool (pk == 1) → K a' wq) :
    Code.wp Try.prog c (Exit.then K fun _ _ _ => False) a wq := by
  have HQ := hide hQ
  clear hQ
  obtain ⟨t', d'⟩ := a
  obtain ⟨v0, v1, v2, v3, v4, v5, v9, v12, v13, v14, v16, v17, v18, v19, v20, v21, v22, v23, v24, v25, v26, v27, v28, v99⟩ := v
  simp only at h99v HQ
  subst h99v
  obtain ⟨hs1, hd1, q0, q1, q2, q3, q4, q5, q9, q12, q13, q14, q16, q17, q18, q19, q20, q21, q22, q23, q24, q25, q26, q27, q28, q99⟩ := hF
  obtain ⟨u, hu⟩ := frame_py t' hs1
  simp only at hd1 q0 q1 q2 q3 q4 q5 q9 q12 q13 q14 q16 q17 q18 q19 q20 q21 q22 q23 q24 q25 q26 q27 q28 q99
  subst hu hd1
  have e0 : u 0 = v0 := q0
  have e1 : u 1 = v1 := q1
  have e2 : u 2 = v2 := q2
  have e3 : u 3 = v3 := q3
  have e4 : u 4 = v4 := q4
  have e5 : u 5 = v5 := q5
  have e9 : u 9 = v9 := q9
  have e12 : u 12 = v12 := q12
  have e13 : u 13 = v13 := q13
  have e14 : u 14 = v14 := q14
  have e16 : u 16 = v16 := q16
  have e17 : u 17 = v17 := q17
  have e18 : u 18 = v18 := q18
  have e19 : u 19 = v19 := q19
  have e20 : u 20 = v20 := q20
  have e21 : u 21 = v21 := q21
  have e22 : u 22 = v22 := q22
  have e23 : u 23 = v23 := q23
  have e24 : u 24 = v24 := q24
  have e25 : u 25 = v25 := q25
  have e26 : u 26 = v26 := q26
  have e27 : u 27 = v27 := q27
  have e28 : u 28 = v28 := q28
  have e99 : u 99 = .int .i64 pk := q99
  rw [e0, e1, e2, e3, e4, e5, e9, e12, e13, e14, e16, e17, e18, e19, e20, e21, e22, e23, e24, e25, e26, e27, e28, e99]
  clear q0 e0 q1 e1 q2 e2 q3 e3 q4 e4 q5 e5 q9 e9 q12 e12 q13 e13 q14 e14 q16 e16 q17 e17 q18 e18 q19 e19 q20 e20 q21 e21 q22 e22 q23 e23 q24 e24 q25 e25 q26 e26 q27 e27 q28 e28 q99 e99 hs1
  simp only [Try.f3, Option.getD_some, regOf] at hc
  injection hc with hc
  subst hc
  go_wp2
  exact HQ.out _ ⟨rfl, rfl, rfl, rfl, rfl, rfl, rfl, rfl, rfl, rfl, rfl, rfl, rfl, rfl, rfl, rfl, rfl, rfl, rfl, rfl, rfl, rfl, rfl, rfl, rfl, rfl⟩ (by first | rfl | (simp; done))
set_option maxHeartbeats 8000000 in
set_option maxRecDepth 100000 in
theorem py_r36 {K : Act → World → Prop} {c : Code} (hc : regOf (Try.f3.body.getD .skip) 36 = some c) (a : Act) {v : Vpy} {wq : World} {pk : Int} (hF : Fpy a v) (h99v : v.v99 = .int .i64 pk) (hQ : ∀ a', Fpy a' v → a'.tmps.getD 124 undef = .bool (pk == 2) → K a' wq) :
    Code.wp Try.prog c (Exit.then K fun _ _ _ => False) a wq := by
  have HQ := hide hQ
  clear hQ
  obtain ⟨t', d'⟩ := a
  obtain ⟨v0, v1, v2, v3, v4, v5, v9, v12, v13, v14, v16, v17, v18, v19, v20, v21, v22, v23, v24, v25, v26, v27, v28, v99⟩ := v
  simp only at h99v HQ
  subst h99v
  obtain ⟨hs1, hd1, q0, q1, q2, q3, q4, q5, q9, q12, q13, q14, q16, q17, q18, q19, q20, q21, q22, q23, q24, q25, q26, q27, q28, q99⟩ := hF
  obtain ⟨u, hu⟩ := frame_py t' hs1
  simp only at hd1 q0 q1 q2 q3 q4 q5 q9 q12 q13 q14 q16 q17 q18 q19 q20 q21 q22 q23 q24 q25 q26 q27 q28 q99
  subst hu hd1
  have e0 : u 0 = v0 := q0
  have e1 : u 1 = v1 := q1
  have e2 : u 2 = v2 := q2
  have e3 : u 3 = v3 := q3
  have e4 : u 4 = v4 := q4
  have e5 : u 5 = v5 := q5
  have e9 : u 9 = v9 := q9
  have e12 : u 12 = v12 := q12
  have e13 : u 13 = v13 := q13
  have e14 : u 14 = v14 := q14
  have e16 : u 16 = v16 := q16
  have e17 : u 17 = v17 := q17
  have e18 : u 18 = v18 := q18
  have e19 : u 19 = v19 := q19
  have e20 : u 20 = v20 := q20
  have e21 : u 21 = v21 := q21
  have e22 : u 22 = v22 := q22
  have e23 : u 23 = v23 := q23
  have e24 : u 24 = v24 := q24
  have e25 : u 25 = v25 := q25
  have e26 : u 26 = v26 := q26
  have e27 : u 27 = v27 := q27
  have e28 : u 28 = v28 := q28
  have e99 : u 99 = .int .i64 pk := q99
  rw [e0, e1, e2, e3, e4, e5, e9, e12, e13, e14, e16, e17, e18, e19, e20, e21, e22, e23, e24, e25, e26, e27, e28, e99]
  clear q0 e0 q1 e1 q2 e2 q3 e3 q4 e4 q5 e5 q9 e9 q12 e12 q13 e13 q14 e14 q16 e16 q17 e17 q18 e18 q19 e19 q20 e20 q21 e21 q22 e22 q23 e23 q24 e24 q25 e25 q26 e26 q27 e27 q28 e28 q99 e99 hs1
  simp only [Try.f3, Option.getD_some, regOf] at hc
  injection hc with hc
  subst hc
  go_wp2
  exact HQ.out _ ⟨rfl, rfl, rfl, rfl, rfl, rfl, rfl, rfl, rfl, rfl, rfl, rfl, rfl, rfl, rfl, rfl, rfl, rfl, rfl, rfl, rfl, rfl, rfl, rfl, rfl, rfl⟩ (by first | rfl | (simp; done))
set_option maxHeartbeats 8000000 in
set_option maxRecDepth 100000 in
theorem py_r39 {K : Act → World → Prop} {c : Code} (hc : regOf (Try.f3.body.getD .skip) 39 = some c) (a : Act) {v : Vpy} {wq : World} {pk : Int} (hF : Fpy a v) (h99v : v.v99 = .int .i64 pk) (hQ : ∀ a', Fpy a' v → a'.tmps.getD 144 undef = .bool (pk == 3) → K a' wq) :
    Code.wp Try.prog c (Exit.then K fun _ _ _ => False) a wq := by
  have HQ := hide hQ
  clear hQ
  obtain ⟨t', d'⟩ := a
  obtain ⟨v0, v1, v2, v3, v4, v5, v9, v12, v13, v14, v16, v17, v18, v19, v20, v21, v22, v23, v24, v25, v26, v27, v28, v99⟩ := v
  simp only at h99v HQ
  subst h99v
  obtain ⟨hs1, hd1, q0, q1, q2, q3, q4, q5, q9, q12, q13, q14, q16, q17, q18, q19, q20, q21, q22, q23, q24, q25, q26, q27, q28, q99⟩ := hF
  obtain ⟨u, hu⟩ := frame_py t' hs1
  simp only at hd1 q0 q1 q2 q3 q4 q5 q9 q12 q13 q14 q16 q17 q18 q19 q20 q21 q22 q23 q24 q25 q26 q27 q28 q99
  subst hu hd1
  have e0 : u 0 = v0 := q0
  have e1 : u 1 = v1 := q1
  have e2 : u 2 = v2 := q2
  have e3 : u 3 = v3 := q3
  have e4 : u 4 = v4 := q4
  have e5 : u 5 = v5 := q5
  have e9 : u 9 = v9 := q9
  have e12 : u 12 = v12 := q12
  have e13 : u 13 = v13 := q13
  have e14 : u 14 = v14 := q14
  have e16 : u 16 = v16 := q16
  have e17 : u 17 = v17 := q17
  have e18 : u 18 = v18 := q18
  have e19 : u 19 = v19 := q19
  have e20 : u 20 = v20 := q20
  have e21 : u 21 = v21 := q21
  have e22 : u 22 = v22 := q22
  have e23 : u 23 = v23 := q23
  have e24 : u 24 = v24 := q24
  have e25 : u 25 = v25 := q25
  have e26 : u 26 = v26 := q26
  have e27 : u 27 = v27 := q27
  have e28 : u 28 = v28 := q28
  have e99 : u 99 = .int .i64 pk := q99
  rw [e0, e1, e2, e3, e4, e5, e9, e12, e13, e14, e16, e17, e18, e19, e20, e21, e22, e23, e24, e25, e26, e27, e28, e99]
  clear q0 e0 q1 e1 q2 e2 q3 e3 q4 e4 q5 e5 q9 e9 q12 e12 q13 e13 q14 e14 q16 e16 q17 e17 q18 e18 q19 e19 q20 e20 q21 e21 q22 e22 q23 e23 q24 e24 q25 e25 q26 e26 q27 e27 q28 e28 q99 e99 hs1
  simp only [Try.f3, Option.getD_some, regOf] at hc
  injection hc with hc
  subst hc
  go_wp2
  exact HQ.out _ ⟨rfl, rfl, rfl, rfl, rfl, rfl, rfl, rfl, rfl, rfl, rfl, rfl, rfl, rfl, rfl, rfl, rfl, rfl, rfl, rfl, rfl, rfl, rfl, rfl, rfl, rfl⟩ (by first | rfl | (simp; done))
set_option maxHeartbeats 8000000 in
set_option maxRecDepth 100000 in
theorem py_r42 {K : Act → World → Prop} {c : Code} (hc : regOf (Try.f3.body.getD .skip) 42 = some c) (a : Act) {v : Vpy} {wq : World} {pk : Int} (hF : Fpy a v) (h99v : v.v99 = .int .i64 pk) (hQ : ∀ a', Fpy a' v → a'.tmps.getD 160 undef = .bool (pk == 4) → K a' wq) :
    Code.wp Try.prog c (Exit.then K fun _ _ _ => False) a wq := by
  have HQ := hide hQ
  clear hQ
  obtain ⟨t', d'⟩ := a
  obtain ⟨v0, v1, v2, v3, v4, v5, v9, v12, v13, v14, v16, v17, v18, v19, v20, v21, v22, v23, v24, v25, v26, v27, v28, v99⟩ := v
  simp only at h99v HQ
  subst h99v
  obtain ⟨hs1, hd1, q0, q1, q2, q3, q4, q5, q9, q12, q13, q14, q16, q17, q18, q19, q20, q21, q22, q23, q24, q25, q26, q27, q28, q99⟩ := hF
  obtain ⟨u, hu⟩ := frame_py t' hs1
  simp only at hd1 q0 q1 q2 q3 q4 q5 q9 q12 q13 q14 q16 q17 q18 q19 q20 q21 q22 q23 q24 q25 q26 q27 q28 q99
  subst hu hd1
  have e0 : u 0 = v0 := q0
  have e1 : u 1 = v1 := q1
  have e2 : u 2 = v2 := q2
  have e3 : u 3 = v3 := q3
  have e4 : u 4 = v4 := q4
  have e5 : u 5 = v5 := q5
  have e9 : u 9 = v9 := q9
  have e12 : u 12 = v12 := q12
  have e13 : u 13 = v13 := q13
  have e14 : u 14 = v14 := q14
  have e16 : u 16 = v16 := q16
  have e17 : u 17 = v17 := q17
  have e18 : u 18 = v18 := q18
  have e19 : u 19 = v19 := q19
  have e20 : u 20 = v20 := q20
  have e21 : u 21 = v21 := q21
  have e22 : u 22 = v22 := q22
  have e23 : u 23 = v23 := q23
  have e24 : u 24 = v24 := q24
  have e25 : u 25 = v25 := q25
  have e26 : u 26 = v26 := q26
  have e27 : u 27 = v27 := q27
  have e28 : u 28 = v28 := q28
  have e99 : u 99 = .int .i64 pk := q99
  rw [e0, e1, e2, e3, e4, e5, e9, e12, e13, e14, e16, e17, e18, e19, e20, e21, e22, e23, e24, e25, e26, e27, e28, e99]
  clear q0 e0 q1 e1 q2 e2 q3 e3 q4 e4 q5 e5 q9 e9 q12 e12 q13 e13 q14 e14 q16 e16 q17 e17 q18 e18 q19 e19 q20 e20 q21 e21 q22 e22 q23 e23 q24 e24 q25 e25 q26 e26 q27 e27 q28 e28 q99 e99 hs1
  simp only [Try.f3, Option.getD_some, regOf] at hc
  injection hc with hc
  subst hc
  go_wp2
  exact HQ.out _ ⟨rfl, rfl, rfl, rfl, rfl, rfl, rfl, rfl, rfl, rfl, rfl, rfl, rfl, rfl, rfl, rfl, rfl, rfl, rfl, rfl, rfl, rfl, rfl, rfl, rfl, rfl⟩ (by first | rfl | (simp; done))
set_option maxHeartbeats 8000000 in
set_option maxRecDepth 100000 in
theorem py_r34 {K : Act → World → Prop} {c : Code} (hc : regOf (Try.f3.body.getD .skip) 34 = some c) (a : Act) {v : Vpy} {wq : World} {sb : Nat} {xn xt yn yt : ByteArray} {xc xx yc yx : Int}  (hF : Fpy a v) (h18v : v.v18 = .pointer (some ⟨sb, 0, none⟩)) (hS : wq.heap[sb]? = some (.cells #[.string xn, .string xt, .int .i64 xc, .int .i64 xx] 23 (0, 0))) (hE : Calls Try.prog 14 #[.agg #[.string xn, .string xt, .int .i64 xc, .int .i64 xx]] wq fun e w' => e = .returned (.agg #[.string yn, .string yt, .int .i64 yc, .int .i64 yx]) ∧ Below wq.heap.size wq w')
    (hQ : ∀ a' w1, Fpy a' v → Below wq.heap.size wq w1 → K a' (set4 w1 sb (.string yn) (.string yt) (.int .i64 yc) (.int .i64 yx))) :
    Code.wp Try.prog c (Exit.then K fun _ _ _ => False) a wq := by
  have HQ := hide hQ
  clear hQ
  obtain ⟨t', d'⟩ := a
  obtain ⟨v0, v1, v2, v3, v4, v5, v9, v12, v13, v14, v16, v17, v18, v19, v20, v21, v22, v23, v24, v25, v26, v27, v28, v99⟩ := v
  simp only at h18v HQ
  subst h18v
  obtain ⟨hs1, hd1, q0, q1, q2, q3, q4, q5, q9, q12, q13, q14, q16, q17, q18, q19, q20, q21, q22, q23, q24, q25, q26, q27, q28, q99⟩ := hF
  obtain ⟨u, hu⟩ := frame_py t' hs1
  simp only at hd1 q0 q1 q2 q3 q4 q5 q9 q12 q13 q14 q16 q17 q18 q19 q20 q21 q22 q23 q24 q25 q26 q27 q28 q99
  subst hu hd1
  have e0 : u 0 = v0 := q0
  have e1 : u 1 = v1 := q1
  have e2 : u 2 = v2 := q2
  have e3 : u 3 = v3 := q3
  have e4 : u 4 = v4 := q4
  have e5 : u 5 = v5 := q5
  have e9 : u 9 = v9 := q9
  have e12 : u 12 = v12 := q12
  have e13 : u 13 = v13 := q13
  have e14 : u 14 = v14 := q14
  have e16 : u 16 = v16 := q16
  have e17 : u 17 = v17 := q17
  have e18 : u 18 = .pointer (some ⟨sb, 0, none⟩) := q18
  have e19 : u 19 = v19 := q19
  have e20 : u 20 = v20 := q20
  have e21 : u 21 = v21 := q21
  have e22 : u 22 = v22 := q22
  have e23 : u 23 = v23 := q23
  have e24 : u 24 = v24 := q24
  have e25 : u 25 = v25 := q25
  have e26 : u 26 = v26 := q26
  have e27 : u 27 = v27 := q27
  have e28 : u 28 = v28 := q28
  have e99 : u 99 = v99 := q99
  rw [e0, e1, e2, e3, e4, e5, e9, e12, e13, e14, e16, e17, e18, e19, e20, e21, e22, e23, e24, e25, e26, e27, e28, e99]
  clear q0 e0 q1 e1 q2 e2 q3 e3 q4 e4 q5 e5 q9 e9 q12 e12 q13 e13 q14 e14 q16 e16 q17 e17 q18 e18 q19 e19 q20 e20 q21 e21 q22 e22 q23 e23 q24 e24 q25 e25 q26 e26 q27 e27 q28 e28 q99 e99 hs1
  simp only [Try.f3, Option.getD_some, regOf] at hc
  injection hc with hc
  subst hc
  have HE := hide hE
  have HS := hide hS
  obtain ⟨⟨c0, c1, c2, c3⟩, _⟩ := box4 hS
  unfold set4 at HQ
  clear hE hS
  go_wp2_with (go_at_call 14; refine HE.out.mono ?_; rintro e w1 ⟨rfl, b1⟩; have hR2 := Below.at b1 HS.out; obtain ⟨⟨d0, d1, d2, d3⟩, f0, f1, f2, f3⟩ := box4 hR2; have B1 := hide b1; clear b1 hR2 c0 c1 c2 c3)
  exact HQ.out _ _ ⟨rfl, rfl, rfl, rfl, rfl, rfl, rfl, rfl, rfl, rfl, rfl, rfl, rfl, rfl, rfl, rfl, rfl, rfl, rfl, rfl, rfl, rfl, rfl, rfl, rfl, rfl⟩ B1.out
set_option maxHeartbeats 8000000 in
set_option maxRecDepth 100000 in
theorem py_r35 {K : Act → World → Prop} {c : Code} (hc : regOf (Try.f3.body.getD .skip) 35 = some c) (a : Act) {v : Vpy} {wq : World} {sb : Nat} {xn xt yn yt : ByteArray} {xc xx yc yx : Int}  (hF : Fpy a v) (h20v : v.v20 = .pointer (some ⟨sb, 0, none⟩)) (hS : wq.heap[sb]? = some (.cells #[.string xn, .string xt, .int .i64 xc, .int .i64 xx] 37 (0, 0))) (hE : Calls Try.prog 15 #[.agg #[.string xn, .string xt, .int .i64 xc, .int .i64 xx]] wq fun e w' => e = .returned (.agg #[.string yn, .string yt, .int .i64 yc, .int .i64 yx]) ∧ Below wq.heap.size wq w')
    (hQ : ∀ a' w1, Fpy a' v → Below wq.heap.size wq w1 → K a' (set4 w1 sb (.string yn) (.string yt) (.int .i64 yc) (.int .i64 yx))) :
    Code.wp Try.prog c (Exit.then K fun _ _ _ => False) a wq := by
  have HQ := hide hQ
  clear hQ
  obtain ⟨t', d'⟩ := a
  obtain ⟨v0, v1, v2, v3, v4, v5, v9, v12, v13, v14, v16, v17, v18, v19, v20, v21, v22, v23, v24, v25, v26, v27, v28, v99⟩ := v
  simp only at h20v HQ
  subst h20v
  obtain ⟨hs1, hd1, q0, q1, q2, q3, q4, q5, q9, q12, q13, q14, q16, q17, q18, q19, q20, q21, q22, q23, q24, q25, q26, q27, q28, q99⟩ := hF
  obtain ⟨u, hu⟩ := frame_py t' hs1
  simp only at hd1 q0 q1 q2 q3 q4 q5 q9 q12 q13 q14 q16 q17 q18 q19 q20 q21 q22 q23 q24 q25 q26 q27 q28 q99
  subst hu hd1
  have e0 : u 0 = v0 := q0
  have e1 : u 1 = v1 := q1
  have e2 : u 2 = v2 := q2
  have e3 : u 3 = v3 := q3
  have e4 : u 4 = v4 := q4
  have e5 : u 5 = v5 := q5
  have e9 : u 9 = v9 := q9
  have e12 : u 12 = v12 := q12
  have e13 : u 13 = v13 := q13
  have e14 : u 14 = v14 := q14
  have e16 : u 16 = v16 := q16
  have e17 : u 17 = v17 := q17
  have e18 : u 18 = v18 := q18
  have e19 : u 19 = v19 := q19
  have e20 : u 20 = .pointer (some ⟨sb, 0, none⟩) := q20
  have e21 : u 21 = v21 := q21
  have e22 : u 22 = v22 := q22
  have e23 : u 23 = v23 := q23
  have e24 : u 24 = v24 := q24
  have e25 : u 25 = v25 := q25
  have e26 : u 26 = v26 := q26
  have e27 : u 27 = v27 := q27
  have e28 : u 28 = v28 := q28
  have e99 : u 99 = v99 := q99
  rw [e0, e1, e2, e3, e4, e5, e9, e12, e13, e14, e16, e17, e18, e19, e20, e21, e22, e23, e24, e25, e26, e27, e28, e99]
  clear q0 e0 q1 e1 q2 e2 q3 e3 q4 e4 q5 e5 q9 e9 q12 e12 q13 e13 q14 e14 q16 e16 q17 e17 q18 e18 q19 e19 q20 e20 q21 e21 q22 e22 q23 e23 q24 e24 q25 e25 q26 e26 q27 e27 q28 e28 q99 e99 hs1
  simp only [Try.f3, Option.getD_some, regOf] at hc
  injection hc with hc
  subst hc
  have HE := hide hE
  have HS := hide hS
  obtain ⟨⟨c0, c1, c2, c3⟩, _⟩ := box4 hS
  unfold set4 at HQ
  clear hE hS
  go_wp2_with (go_at_call 15; refine HE.out.mono ?_; rintro e w1 ⟨rfl, b1⟩; have hR2 := Below.at b1 HS.out; obtain ⟨⟨d0, d1, d2, d3⟩, f0, f1, f2, f3⟩ := box4 hR2; have B1 := hide b1; clear b1 hR2 c0 c1 c2 c3)
  exact HQ.out _ _ ⟨rfl, rfl, rfl, rfl, rfl, rfl, rfl, rfl, rfl, rfl, rfl, rfl, rfl, rfl, rfl, rfl, rfl, rfl, rfl, rfl, rfl, rfl, rfl, rfl, rfl, rfl⟩ B1.out
end Go.Proofs.Ytominplelmbecaa.Y
