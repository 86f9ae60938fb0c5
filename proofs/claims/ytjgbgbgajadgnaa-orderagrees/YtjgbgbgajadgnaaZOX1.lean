/-
  OrderEnds' regions (mkoe2.py).
-/
import Derived.Test.YtjgbgbgajadgnaaZOV
import Derived.Test.YtjgbgbgajadgnaaZTK
import Derived.Test.YtjgbgbgajadgnaaZOU
import Derived.Laws.StructEq
namespace Go.Proofs.Ytjgbgbgajadgnaa
open Go.RowKit

attribute [local go_sem ↓] Go.wp_at_zero Go.wp_at_succ
set_option linter.unusedSimpArgs false
set_option linter.unusedVariables false
set_option maxRecDepth 100000 in
theorem frame_en (t : Array Value) (h : t.size = 198) : ∃ u : Nat → Value, t = List.toArray (u 0 :: u 1 :: u 2 :: u 3 :: u 4 :: u 5 :: u 6 :: u 7 :: u 8 :: u 9 :: u 10 :: u 11 :: u 12 :: u 13 :: u 14 :: u 15 :: u 16 :: u 17 :: u 18 :: u 19 :: u 20 :: u 21 :: u 22 :: u 23 :: u 24 :: u 25 :: u 26 :: u 27 :: u 28 :: u 29 :: u 30 :: u 31 :: u 32 :: u 33 :: u 34 :: u 35 :: u 36 :: u 37 :: u 38 :: u 39 :: u 40 :: u 41 :: u 42 :: u 43 :: u 44 :: u 45 :: u 46 :: u 47 :: u 48 :: u 49 :: u 50 :: u 51 :: u 52 :: u 53 :: u 54 :: u 55 :: u 56 :: u 57 :: u 58 :: u 59 :: u 60 :: u 61 :: u 62 :: u 63 :: u 64 :: u 65 :: u 66 :: u 67 :: u 68 :: u 69 :: u 70 :: u 71 :: u 72 :: u 73 :: u 74 :: u 75 :: u 76 :: u 77 :: u 78 :: u 79 :: u 80 :: u 81 :: u 82 :: u 83 :: u 84 :: u 85 :: u 86 :: u 87 :: u 88 :: u 89 :: u 90 :: u 91 :: u 92 :: u 93 :: u 94 :: u 95 :: u 96 :: u 97 :: u 98 :: u 99 :: u 100 :: u 101 :: u 102 :: u 103 :: u 104 :: u 105 :: u 106 :: u 107 :: u 108 :: u 109 :: u 110 :: u 111 :: u 112 :: u 113 :: u 114 :: u 115 :: u 116 :: u 117 :: u 118 :: u 119 :: u 120 :: u 121 :: u 122 :: u 123 :: u 124 :: u 125 :: u 126 :: u 127 :: u 128 :: u 129 :: u 130 :: u 131 :: u 132 :: u 133 :: u 134 :: u 135 :: u 136 :: u 137 :: u 138 :: u 139 :: u 140 :: u 141 :: u 142 :: u 143 :: u 144 :: u 145 :: u 146 :: u 147 :: u 148 :: u 149 :: u 150 :: u 151 :: u 152 :: u 153 :: u 154 :: u 155 :: u 156 :: u 157 :: u 158 :: u 159 :: u 160 :: u 161 :: u 162 :: u 163 :: u 164 :: u 165 :: u 166 :: u 167 :: u 168 :: u 169 :: u 170 :: u 171 :: u 172 :: u 173 :: u 174 :: u 175 :: u 176 :: u 177 :: u 178 :: u 179 :: u 180 :: u 181 :: u 182 :: u 183 :: u 184 :: u 185 :: u 186 :: u 187 :: u 188 :: u 189 :: u 190 :: u 191 :: u 192 :: u 193 :: u 194 :: u 195 :: u 196 :: u 197 :: []) := by
  refine ⟨fun i => t.getD i undef, ?_⟩
  have e : (List.toArray ((fun i => t.getD i undef) 0 :: (fun i => t.getD i undef) 1 :: (fun i => t.getD i undef) 2 :: (fun i => t.getD i undef) 3 :: (fun i => t.getD i undef) 4 :: (fun i => t.getD i undef) 5 :: (fun i => t.getD i undef) 6 :: (fun i => t.getD i undef) 7 :: (fun i => t.getD i undef) 8 :: (fun i => t.getD i undef) 9 :: (fun i => t.getD i undef) 10 :: (fun i => t.getD i undef) 11 :: (fun i => t.getD i undef) 12 :: (fun i => t.getD i undef) 13 :: (fun i => t.getD i undef) 14 :: (fun i => t.getD i undef) 15 :: (fun i => t.getD i undef) 16 :: (fun i => t.getD i undef) 17 :: (fun i => t.getD i undef) 18 :: (fun i => t.getD i undef) 19 :: (fun i => t.getD i undef) 20 :: (fun i => t.getD i undef) 21 :: (fun i => t.getD i undef) 22 :: (fun i => t.getD i undef) 23 :: (fun i => t.getD i undef) 24 :: (fun i => t.getD i undef) 25 :: (fun i => t.getD i undef) 26 :: (fun i => t.getD i undef) 27 :: (fun i => t.getD i undef) 28 :: (fun i => t.getD i undef) 29 :: (fun i => t.getD i undef) 30 :: (fun i => t.getD i undef) 31 :: (fun i => t.getD i undef) 32 :: (fun i => t.getD i undef) 33 :: (fun i => t.getD i undef) 34 :: (fun i => t.getD i undef) 35 :: (fun i => t.getD i undef) 36 :: (fun i => t.getD i undef) 37 :: (fun i => t.getD i undef) 38 :: (fun i => t.getD i undef) 39 :: (fun i => t.getD i undef) 40 :: (fun i => t.getD i undef) 41 :: (fun i => t.getD i undef) 42 :: (fun i => t.getD i undef) 43 :: (fun i => t.getD i undef) 44 :: (fun i => t.getD i undef) 45 :: (fun i => t.getD i undef) 46 :: (fun i => t.getD i undef) 47 :: (fun i => t.getD i undef) 48 :: (fun i => t.getD i undef) 49 :: (fun i => t.getD i undef) 50 :: (fun i => t.getD i undef) 51 :: (fun i => t.getD i undef) 52 :: (fun i => t.getD i undef) 53 :: (fun i => t.getD i undef) 54 :: (fun i => t.getD i undef) 55 :: (fun i => t.getD i undef) 56 :: (fun i => t.getD i undef) 57 :: (fun i => t.getD i undef) 58 :: (fun i => t.getD i undef) 59 :: (fun i => t.getD i undef) 60 :: (fun i => t.getD i undef) 61 :: (fun i => t.getD i undef) 62 :: (fun i => t.getD i undef) 63 :: (fun i => t.getD i undef) 64 :: (fun i => t.getD i undef) 65 :: (fun i => t.getD i undef) 66 :: (fun i => t.getD i undef) 67 :: (fun i => t.getD i undef) 68 :: (fun i => t.getD i undef) 69 :: (fun i => t.getD i undef) 70 :: (fun i => t.getD i undef) 71 :: (fun i => t.getD i undef) 72 :: (fun i => t.getD i undef) 73 :: (fun i => t.getD i undef) 74 :: (fun i => t.getD i undef) 75 :: (fun i => t.getD i undef) 76 :: (fun i => t.getD i undef) 77 :: (fun i => t.getD i undef) 78 :: (fun i => t.getD i undef) 79 :: (fun i => t.getD i undef) 80 :: (fun i => t.getD i undef) 81 :: (fun i => t.getD i undef) 82 :: (fun i => t.getD i undef) 83 :: (fun i => t.getD i undef) 84 :: (fun i => t.getD i undef) 85 :: (fun i => t.getD i undef) 86 :: (fun i => t.getD i undef) 87 :: (fun i => t.getD i undef) 88 :: (fun i => t.getD i undef) 89 :: (fun i => t.getD i undef) 90 :: (fun i => t.getD i undef) 91 :: (fun i => t.getD i undef) 92 :: (fun i => t.getD i undef) 93 :: (fun i => t.getD i undef) 94 :: (fun i => t.getD i undef) 95 :: (fun i => t.getD i undef) 96 :: (fun i => t.getD i undef) 97 :: (fun i => t.getD i undef) 98 :: (fun i => t.getD i undef) 99 :: (fun i => t.getD i undef) 100 :: (fun i => t.getD i undef) 101 :: (fun i => t.getD i undef) 102 :: (fun i => t.getD i undef) 103 :: (fun i => t.getD i undef) 104 :: (fun i => t.getD i undef) 105 :: (fun i => t.getD i undef) 106 :: (fun i => t.getD i undef) 107 :: (fun i => t.getD i undef) 108 :: (fun i => t.getD i undef) 109 :: (fun i => t.getD i undef) 110 :: (fun i => t.getD i undef) 111 :: (fun i => t.getD i undef) 112 :: (fun i => t.getD i undef) 113 :: (fun i => t.getD i undef) 114 :: (fun i => t.getD i undef) 115 :: (fun i => t.getD i undef) 116 :: (fun i => t.getD i undef) 117 :: (fun i => t.getD i undef) 118 :: (fun i => t.getD i undef) 119 :: (fun i => t.getD i undef) 120 :: (fun i => t.getD i undef) 121 :: (fun i => t.getD i undef) 122 :: (fun i => t.getD i undef) 123 :: (fun i => t.getD i undef) 124 :: (fun i => t.getD i undef) 125 :: (fun i => t.getD i undef) 126 :: (fun i => t.getD i undef) 127 :: (fun i => t.getD i undef) 128 :: (fun i => t.getD i undef) 129 :: (fun i => t.getD i undef) 130 :: (fun i => t.getD i undef) 131 :: (fun i => t.getD i undef) 132 :: (fun i => t.getD i undef) 133 :: (fun i => t.getD i undef) 134 :: (fun i => t.getD i undef) 135 :: (fun i => t.getD i undef) 136 :: (fun i => t.getD i undef) 137 :: (fun i => t.getD i undef) 138 :: (fun i => t.getD i undef) 139 :: (fun i => t.getD i undef) 140 :: (fun i => t.getD i undef) 141 :: (fun i => t.getD i undef) 142 :: (fun i => t.getD i undef) 143 :: (fun i => t.getD i undef) 144 :: (fun i => t.getD i undef) 145 :: (fun i => t.getD i undef) 146 :: (fun i => t.getD i undef) 147 :: (fun i => t.getD i undef) 148 :: (fun i => t.getD i undef) 149 :: (fun i => t.getD i undef) 150 :: (fun i => t.getD i undef) 151 :: (fun i => t.getD i undef) 152 :: (fun i => t.getD i undef) 153 :: (fun i => t.getD i undef) 154 :: (fun i => t.getD i undef) 155 :: (fun i => t.getD i undef) 156 :: (fun i => t.getD i undef) 157 :: (fun i => t.getD i undef) 158 :: (fun i => t.getD i undef) 159 :: (fun i => t.getD i undef) 160 :: (fun i => t.getD i undef) 161 :: (fun i => t.getD i undef) 162 :: (fun i => t.getD i undef) 163 :: (fun i => t.getD i undef) 164 :: (fun i => t.getD i undef) 165 :: (fun i => t.getD i undef) 166 :: (fun i => t.getD i undef) 167 :: (fun i => t.getD i undef) 168 :: (fun i => t.getD i undef) 169 :: (fun i => t.getD i undef) 170 :: (fun i => t.getD i undef) 171 :: (fun i => t.getD i undef) 172 :: (fun i => t.getD i undef) 173 :: (fun i => t.getD i undef) 174 :: (fun i => t.getD i undef) 175 :: (fun i => t.getD i undef) 176 :: (fun i => t.getD i undef) 177 :: (fun i => t.getD i undef) 178 :: (fun i => t.getD i undef) 179 :: (fun i => t.getD i undef) 180 :: (fun i => t.getD i undef) 181 :: (fun i => t.getD i undef) 182 :: (fun i => t.getD i undef) 183 :: (fun i => t.getD i undef) 184 :: (fun i => t.getD i undef) 185 :: (fun i => t.getD i undef) 186 :: (fun i => t.getD i undef) 187 :: (fun i => t.getD i undef) 188 :: (fun i => t.getD i undef) 189 :: (fun i => t.getD i undef) 190 :: (fun i => t.getD i undef) 191 :: (fun i => t.getD i undef) 192 :: (fun i => t.getD i undef) 193 :: (fun i => t.getD i undef) 194 :: (fun i => t.getD i undef) 195 :: (fun i => t.getD i undef) 196 :: (fun i => t.getD i undef) 197 :: []) : Array Value) = ((List.range 198).map fun i => t.getD i undef).toArray := rfl
  refine Eq.trans ?_ e.symm
  apply Array.ext
  · simp [h]
  · intro k h1 h2
    simp [Array.getD, h1]
/-- The slots that matter. -/
structure Ven where
  v0 : Value
  v1 : Value
  v4 : Value
  v5 : Value
  v6 : Value
  v7 : Value
  v8 : Value
  v9 : Value
  v10 : Value
  v11 : Value
  v12 : Value
  v13 : Value
  v14 : Value
  v15 : Value
  v16 : Value
  v17 : Value
  v18 : Value
  v19 : Value
  v20 : Value
  v21 : Value
  v22 : Value
  v23 : Value
  v24 : Value
structure Fen (a : Act) (v : Ven) : Prop where
  size : a.tmps.size = 198
  defers : a.defers = []
  s0 : a.tmps.getD 0 undef = v.v0
  s1 : a.tmps.getD 1 undef = v.v1
  s4 : a.tmps.getD 4 undef = v.v4
  s5 : a.tmps.getD 5 undef = v.v5
  s6 : a.tmps.getD 6 undef = v.v6
  s7 : a.tmps.getD 7 undef = v.v7
  s8 : a.tmps.getD 8 undef = v.v8
  s9 : a.tmps.getD 9 undef = v.v9
  s10 : a.tmps.getD 10 undef = v.v10
  s11 : a.tmps.getD 11 undef = v.v11
  s12 : a.tmps.getD 12 undef = v.v12
  s13 : a.tmps.getD 13 undef = v.v13
  s14 : a.tmps.getD 14 undef = v.v14
  s15 : a.tmps.getD 15 undef = v.v15
  s16 : a.tmps.getD 16 undef = v.v16
  s17 : a.tmps.getD 17 undef = v.v17
  s18 : a.tmps.getD 18 undef = v.v18
  s19 : a.tmps.getD 19 undef = v.v19
  s20 : a.tmps.getD 20 undef = v.v20
  s21 : a.tmps.getD 21 undef = v.v21
  s22 : a.tmps.getD 22 undef = v.v22
  s23 : a.tmps.getD 23 undef = v.v23
  s24 : a.tmps.getD 24 undef = v.v24
set_option maxHeartbeats 8000000 in
set_option maxRecDepth 100000 in
theorem en_r0 {K : Act → World → Prop} {c : Code} (hc : regOf (Try.f5.body.getD .skip) 0 = some c) (a : Act) {v : Ven} {wq : World}  (hF : Fen a v) (hQ : ∀ a', Fen a' { v with v4 := .bool false } → K a' wq) :
    Code.wp Try.prog c (Exit.then K fun _ _ _ => False) a wq := by
  have HQ := hide hQ
  clear hQ
  obtain ⟨t', d'⟩ := a
  obtain ⟨v0, v1, v4, v5, v6, v7, v8, v9, v10, v11, v12, v13, v14, v15, v16, v17, v18, v19, v20, v21, v22, v23, v24⟩ := v
  obtain ⟨hs1, hd1, q0, q1, q4, q5, q6, q7, q8, q9, q10, q11, q12, q13, q14, q15, q16, q17, q18, q19, q20, q21, q22, q23, q24⟩ := hF
  obtain ⟨u, hu⟩ := frame_en t' hs1
  simp only at hd1 q0 q1 q4 q5 q6 q7 q8 q9 q10 q11 q12 q13 q14 q15 q16 q17 q18 q19 q20 q21 q22 q23 q24
  subst hu hd1
  have e0 : u 0 = v0 := q0
  have e1 : u 1 = v1 := q1
  have e4 : u 4 = v4 := q4
  have e5 : u 5 = v5 := q5
  have e6 : u 6 = v6 := q6
  have e7 : u 7 = v7 := q7
  have e8 : u 8 = v8 := q8
  have e9 : u 9 = v9 := q9
  have e10 : u 10 = v10 := q10
  have e11 : u 11 = v11 := q11
  have e12 : u 12 = v12 := q12
  have e13 : u 13 = v13 := q13
  have e14 : u 14 = v14 := q14
  have e15 : u 15 = v15 := q15
  have e16 : u 16 = v16 := q16
  have e17 : u 17 = v17 := q17
  have e18 : u 18 = v18 := q18
  have e19 : u 19 = v19 := q19
  have e20 : u 20 = v20 := q20
  have e21 : u 21 = v21 := q21
  have e22 : u 22 = v22 := q22
  have e23 : u 23 = v23 := q23
  have e24 : u 24 = v24 := q24
  rw [e0, e1, e4, e5, e6, e7, e8, e9, e10, e11, e12, e13, e14, e15, e16, e17, e18, e19, e20, e21, e22, e23, e24]
  clear q0 e0 q1 e1 q4 e4 q5 e5 q6 e6 q7 e7 q8 e8 q9 e9 q10 e10 q11 e11 q12 e12 q13 e13 q14 e14 q15 e15 q16 e16 q17 e17 q18 e18 q19 e19 q20 e20 q21 e21 q22 e22 q23 e23 q24 e24 hs1
  simp only [Try.f5, Option.getD_some, regOf] at hc
  injection hc with hc
  subst hc
  go_wp2
  exact HQ.out _ ⟨rfl, rfl, rfl, rfl, rfl, rfl, rfl, rfl, rfl, rfl, rfl, rfl, rfl, rfl, rfl, rfl, rfl, rfl, rfl, rfl, rfl, rfl, rfl, rfl, rfl⟩
set_option maxHeartbeats 8000000 in
set_option maxRecDepth 100000 in
theorem en_r1 {K : Act → World → Prop} {c : Code} (hc : regOf (Try.f5.body.getD .skip) 1 = some c) (a : Act) {v : Ven} {wq : World} {R : World → Prop}  (hF : Fen a v) (hE : Calls Try.prog 7 #[] wq fun e w' => e = .returned (.bool true) ∧ R w')
    (hQ : ∀ a' w1, Fen a' { v with v5 := .bool true } → R w1 → K a' w1) :
    Code.wp Try.prog c (Exit.then K fun _ _ _ => False) a wq := by
  have HQ := hide hQ
  clear hQ
  obtain ⟨t', d'⟩ := a
  obtain ⟨v0, v1, v4, v5, v6, v7, v8, v9, v10, v11, v12, v13, v14, v15, v16, v17, v18, v19, v20, v21, v22, v23, v24⟩ := v
  obtain ⟨hs1, hd1, q0, q1, q4, q5, q6, q7, q8, q9, q10, q11, q12, q13, q14, q15, q16, q17, q18, q19, q20, q21, q22, q23, q24⟩ := hF
  obtain ⟨u, hu⟩ := frame_en t' hs1
  simp only at hd1 q0 q1 q4 q5 q6 q7 q8 q9 q10 q11 q12 q13 q14 q15 q16 q17 q18 q19 q20 q21 q22 q23 q24
  subst hu hd1
  have e0 : u 0 = v0 := q0
  have e1 : u 1 = v1 := q1
  have e4 : u 4 = v4 := q4
  have e5 : u 5 = v5 := q5
  have e6 : u 6 = v6 := q6
  have e7 : u 7 = v7 := q7
  have e8 : u 8 = v8 := q8
  have e9 : u 9 = v9 := q9
  have e10 : u 10 = v10 := q10
  have e11 : u 11 = v11 := q11
  have e12 : u 12 = v12 := q12
  have e13 : u 13 = v13 := q13
  have e14 : u 14 = v14 := q14
  have e15 : u 15 = v15 := q15
  have e16 : u 16 = v16 := q16
  have e17 : u 17 = v17 := q17
  have e18 : u 18 = v18 := q18
  have e19 : u 19 = v19 := q19
  have e20 : u 20 = v20 := q20
  have e21 : u 21 = v21 := q21
  have e22 : u 22 = v22 := q22
  have e23 : u 23 = v23 := q23
  have e24 : u 24 = v24 := q24
  rw [e0, e1, e4, e5, e6, e7, e8, e9, e10, e11, e12, e13, e14, e15, e16, e17, e18, e19, e20, e21, e22, e23, e24]
  clear q0 e0 q1 e1 q4 e4 q5 e5 q6 e6 q7 e7 q8 e8 q9 e9 q10 e10 q11 e11 q12 e12 q13 e13 q14 e14 q15 e15 q16 e16 q17 e17 q18 e18 q19 e19 q20 e20 q21 e21 q22 e22 q23 e23 q24 e24 hs1
  simp only [Try.f5, Option.getD_some, regOf] at hc
  injection hc with hc
  subst hc
  have HE := hide hE
  clear hE
  go_wp2_with (go_at_call 7; refine HE.out.mono ?_; rintro e w1 ⟨rfl, r1⟩; have R1 := hide r1; clear r1)
  exact HQ.out _ _ ⟨rfl, rfl, rfl, rfl, rfl, rfl, rfl, rfl, rfl, rfl, rfl, rfl, rfl, rfl, rfl, rfl, rfl, rfl, rfl, rfl, rfl, rfl, rfl, rfl, rfl⟩ R1.out
set_option maxHeartbeats 8000000 in
set_option maxRecDepth 100000 in
theorem en_r2 {K : Act → World → Prop} {c : Code} (hc : regOf (Try.f5.body.getD .skip) 2 = some c) (a : Act) {v : Ven} {wq : World} {R : World → Prop} {many : Int} {k : Nat} (hF : Fen a v) (h0v : v.v0 = .int .i64 many) (hk : k < 7) (hE : Calls Try.prog 12 #[.int .i64 many, .int .i64 7] wq fun e w' => e = .returned (.int .i64 (k : Int)) ∧ R w')
    (hQ : ∀ a' w1, Fen a' { v with v6 := .int .i64 ((k + 1 : Nat) : Int) } → R w1 → K a' w1) :
    Code.wp Try.prog c (Exit.then K fun _ _ _ => False) a wq := by
  have HQ := hide hQ
  clear hQ
  obtain ⟨t', d'⟩ := a
  obtain ⟨v0, v1, v4, v5, v6, v7, v8, v9, v10, v11, v12, v13, v14, v15, v16, v17, v18, v19, v20, v21, v22, v23, v24⟩ := v
  simp only at h0v HQ
  subst h0v
  obtain ⟨hs1, hd1, q0, q1, q4, q5, q6, q7, q8, q9, q10, q11, q12, q13, q14, q15, q16, q17, q18, q19, q20, q21, q22, q23, q24⟩ := hF
  obtain ⟨u, hu⟩ := frame_en t' hs1
  simp only at hd1 q0 q1 q4 q5 q6 q7 q8 q9 q10 q11 q12 q13 q14 q15 q16 q17 q18 q19 q20 q21 q22 q23 q24
  subst hu hd1
  have e0 : u 0 = .int .i64 many := q0
  have e1 : u 1 = v1 := q1
  have e4 : u 4 = v4 := q4
  have e5 : u 5 = v5 := q5
  have e6 : u 6 = v6 := q6
  have e7 : u 7 = v7 := q7
  have e8 : u 8 = v8 := q8
  have e9 : u 9 = v9 := q9
  have e10 : u 10 = v10 := q10
  have e11 : u 11 = v11 := q11
  have e12 : u 12 = v12 := q12
  have e13 : u 13 = v13 := q13
  have e14 : u 14 = v14 := q14
  have e15 : u 15 = v15 := q15
  have e16 : u 16 = v16 := q16
  have e17 : u 17 = v17 := q17
  have e18 : u 18 = v18 := q18
  have e19 : u 19 = v19 := q19
  have e20 : u 20 = v20 := q20
  have e21 : u 21 = v21 := q21
  have e22 : u 22 = v22 := q22
  have e23 : u 23 = v23 := q23
  have e24 : u 24 = v24 := q24
  rw [e0, e1, e4, e5, e6, e7, e8, e9, e10, e11, e12, e13, e14, e15, e16, e17, e18, e19, e20, e21, e22, e23, e24]
  clear q0 e0 q1 e1 q4 e4 q5 e5 q6 e6 q7 e7 q8 e8 q9 e9 q10 e10 q11 e11 q12 e12 q13 e13 q14 e14 q15 e15 q16 e16 q17 e17 q18 e18 q19 e19 q20 e20 q21 e21 q22 e22 q23 e23 q24 e24 hs1
  simp only [Try.f5, Option.getD_some, regOf] at hc
  injection hc with hc
  subst hc
  have HE := hide hE
  clear hE
  have hc : ((k + 1 : Nat) : Int) = 1 + (k : Int) := by omega
  rw [hc] at HQ
  go_wp2_with (go_at_call 12; refine HE.out.mono ?_; rintro e w1 ⟨rfl, r1⟩; have R1 := hide r1; clear r1)
  exact HQ.out _ _ ⟨rfl, rfl, rfl, rfl, rfl, rfl, rfl, rfl, rfl, rfl, rfl, rfl, rfl, rfl, rfl, rfl, rfl, rfl, rfl, rfl, rfl, rfl, rfl, rfl, rfl⟩ R1.out
set_option maxHeartbeats 8000000 in
set_option maxRecDepth 100000 in
theorem en_r3 {K : Act → World → Prop} {c : Code} (hc : regOf (Try.f5.body.getD .skip) 3 = some c) (a : Act) {v : Ven} {wq : World}  (hF : Fen a v) (hQ : ∀ a', Fen a' { v with v7 := .slice none 0 0 } → K a' wq) :
    Code.wp Try.prog c (Exit.then K fun _ _ _ => False) a wq := by
  have HQ := hide hQ
  clear hQ
  obtain ⟨t', d'⟩ := a
  obtain ⟨v0, v1, v4, v5, v6, v7, v8, v9, v10, v11, v12, v13, v14, v15, v16, v17, v18, v19, v20, v21, v22, v23, v24⟩ := v
  obtain ⟨hs1, hd1, q0, q1, q4, q5, q6, q7, q8, q9, q10, q11, q12, q13, q14, q15, q16, q17, q18, q19, q20, q21, q22, q23, q24⟩ := hF
  obtain ⟨u, hu⟩ := frame_en t' hs1
  simp only at hd1 q0 q1 q4 q5 q6 q7 q8 q9 q10 q11 q12 q13 q14 q15 q16 q17 q18 q19 q20 q21 q22 q23 q24
  subst hu hd1
  have e0 : u 0 = v0 := q0
  have e1 : u 1 = v1 := q1
  have e4 : u 4 = v4 := q4
  have e5 : u 5 = v5 := q5
  have e6 : u 6 = v6 := q6
  have e7 : u 7 = v7 := q7
  have e8 : u 8 = v8 := q8
  have e9 : u 9 = v9 := q9
  have e10 : u 10 = v10 := q10
  have e11 : u 11 = v11 := q11
  have e12 : u 12 = v12 := q12
  have e13 : u 13 = v13 := q13
  have e14 : u 14 = v14 := q14
  have e15 : u 15 = v15 := q15
  have e16 : u 16 = v16 := q16
  have e17 : u 17 = v17 := q17
  have e18 : u 18 = v18 := q18
  have e19 : u 19 = v19 := q19
  have e20 : u 20 = v20 := q20
  have e21 : u 21 = v21 := q21
  have e22 : u 22 = v22 := q22
  have e23 : u 23 = v23 := q23
  have e24 : u 24 = v24 := q24
  rw [e0, e1, e4, e5, e6, e7, e8, e9, e10, e11, e12, e13, e14, e15, e16, e17, e18, e19, e20, e21, e22, e23, e24]
  clear q0 e0 q1 e1 q4 e4 q5 e5 q6 e6 q7 e7 q8 e8 q9 e9 q10 e10 q11 e11 q12 e12 q13 e13 q14 e14 q15 e15 q16 e16 q17 e17 q18 e18 q19 e19 q20 e20 q21 e21 q22 e22 q23 e23 q24 e24 hs1
  simp only [Try.f5, Option.getD_some, regOf] at hc
  injection hc with hc
  subst hc
  go_wp2
  exact HQ.out _ ⟨rfl, rfl, rfl, rfl, rfl, rfl, rfl, rfl, rfl, rfl, rfl, rfl, rfl, rfl, rfl, rfl, rfl, rfl, rfl, rfl, rfl, rfl, rfl, rfl, rfl⟩
set_option maxHeartbeats 8000000 in
set_option maxRecDepth 100000 in
theorem en_r4 {K : Act → World → Prop} {c : Code} (hc : regOf (Try.f5.body.getD .skip) 4 = some c) (a : Act) {v : Ven} {wq : World}  (hF : Fen a v) (hQ : ∀ a', Fen a' { v with v8 := .int .i64 ((0 : Nat) : Int) } → K a' wq) :
    Code.wp Try.prog c (Exit.then K fun _ _ _ => False) a wq := by
  have HQ := hide hQ
  clear hQ
  obtain ⟨t', d'⟩ := a
  obtain ⟨v0, v1, v4, v5, v6, v7, v8, v9, v10, v11, v12, v13, v14, v15, v16, v17, v18, v19, v20, v21, v22, v23, v24⟩ := v
  obtain ⟨hs1, hd1, q0, q1, q4, q5, q6, q7, q8, q9, q10, q11, q12, q13, q14, q15, q16, q17, q18, q19, q20, q21, q22, q23, q24⟩ := hF
  obtain ⟨u, hu⟩ := frame_en t' hs1
  simp only at hd1 q0 q1 q4 q5 q6 q7 q8 q9 q10 q11 q12 q13 q14 q15 q16 q17 q18 q19 q20 q21 q22 q23 q24
  subst hu hd1
  have e0 : u 0 = v0 := q0
  have e1 : u 1 = v1 := q1
  have e4 : u 4 = v4 := q4
  have e5 : u 5 = v5 := q5
  have e6 : u 6 = v6 := q6
  have e7 : u 7 = v7 := q7
  have e8 : u 8 = v8 := q8
  have e9 : u 9 = v9 := q9
  have e10 : u 10 = v10 := q10
  have e11 : u 11 = v11 := q11
  have e12 : u 12 = v12 := q12
  have e13 : u 13 = v13 := q13
  have e14 : u 14 = v14 := q14
  have e15 : u 15 = v15 := q15
  have e16 : u 16 = v16 := q16
  have e17 : u 17 = v17 := q17
  have e18 : u 18 = v18 := q18
  have e19 : u 19 = v19 := q19
  have e20 : u 20 = v20 := q20
  have e21 : u 21 = v21 := q21
  have e22 : u 22 = v22 := q22
  have e23 : u 23 = v23 := q23
  have e24 : u 24 = v24 := q24
  rw [e0, e1, e4, e5, e6, e7, e8, e9, e10, e11, e12, e13, e14, e15, e16, e17, e18, e19, e20, e21, e22, e23, e24]
  clear q0 e0 q1 e1 q4 e4 q5 e5 q6 e6 q7 e7 q8 e8 q9 e9 q10 e10 q11 e11 q12 e12 q13 e13 q14 e14 q15 e15 q16 e16 q17 e17 q18 e18 q19 e19 q20 e20 q21 e21 q22 e22 q23 e23 q24 e24 hs1
  simp only [Try.f5, Option.getD_some, regOf] at hc
  injection hc with hc
  subst hc
  go_wp2
  exact HQ.out _ ⟨rfl, rfl, rfl, rfl, rfl, rfl, rfl, rfl, rfl, rfl, rfl, rfl, rfl, rfl, rfl, rfl, rfl, rfl, rfl, rfl, rfl, rfl, rfl, rfl, rfl⟩
set_option maxHeartbeats 8000000 in
set_option maxRecDepth 100000 in
theorem en_r5 {K : Act → World → Prop} {c : Code} (hc : regOf (Try.f5.body.getD .skip) 5 = some c) (a : Act) {v : Ven} {wq : World} {k n : Nat} (hF : Fen a v) (h8v : v.v8 = .int .i64 (k : Int)) (h6v : v.v6 = .int .i64 (n : Int)) (hQ : ∀ a', Fen a' v → a'.tmps.getD 31 undef = .bool (decide ((k : Int) < (n : Int))) → K a' wq) :
    Code.wp Try.prog c (Exit.then K fun _ _ _ => False) a wq := by
  have HQ := hide hQ
  clear hQ
  obtain ⟨t', d'⟩ := a
  obtain ⟨v0, v1, v4, v5, v6, v7, v8, v9, v10, v11, v12, v13, v14, v15, v16, v17, v18, v19, v20, v21, v22, v23, v24⟩ := v
  simp only at h8v h6v HQ
  subst h8v h6v
  obtain ⟨hs1, hd1, q0, q1, q4, q5, q6, q7, q8, q9, q10, q11, q12, q13, q14, q15, q16, q17, q18, q19, q20, q21, q22, q23, q24⟩ := hF
  obtain ⟨u, hu⟩ := frame_en t' hs1
  simp only at hd1 q0 q1 q4 q5 q6 q7 q8 q9 q10 q11 q12 q13 q14 q15 q16 q17 q18 q19 q20 q21 q22 q23 q24
  subst hu hd1
  have e0 : u 0 = v0 := q0
  have e1 : u 1 = v1 := q1
  have e4 : u 4 = v4 := q4
  have e5 : u 5 = v5 := q5
  have e6 : u 6 = .int .i64 (n : Int) := q6
  have e7 : u 7 = v7 := q7
  have e8 : u 8 = .int .i64 (k : Int) := q8
  have e9 : u 9 = v9 := q9
  have e10 : u 10 = v10 := q10
  have e11 : u 11 = v11 := q11
  have e12 : u 12 = v12 := q12
  have e13 : u 13 = v13 := q13
  have e14 : u 14 = v14 := q14
  have e15 : u 15 = v15 := q15
  have e16 : u 16 = v16 := q16
  have e17 : u 17 = v17 := q17
  have e18 : u 18 = v18 := q18
  have e19 : u 19 = v19 := q19
  have e20 : u 20 = v20 := q20
  have e21 : u 21 = v21 := q21
  have e22 : u 22 = v22 := q22
  have e23 : u 23 = v23 := q23
  have e24 : u 24 = v24 := q24
  rw [e0, e1, e4, e5, e6, e7, e8, e9, e10, e11, e12, e13, e14, e15, e16, e17, e18, e19, e20, e21, e22, e23, e24]
  clear q0 e0 q1 e1 q4 e4 q5 e5 q6 e6 q7 e7 q8 e8 q9 e9 q10 e10 q11 e11 q12 e12 q13 e13 q14 e14 q15 e15 q16 e16 q17 e17 q18 e18 q19 e19 q20 e20 q21 e21 q22 e22 q23 e23 q24 e24 hs1
  simp only [Try.f5, Option.getD_some, regOf] at hc
  injection hc with hc
  subst hc
  go_wp2
  exact HQ.out _ ⟨rfl, rfl, rfl, rfl, rfl, rfl, rfl, rfl, rfl, rfl, rfl, rfl, rfl, rfl, rfl, rfl, rfl, rfl, rfl, rfl, rfl, rfl, rfl, rfl, rfl⟩ (by first | rfl | (simp; done))
set_option maxHeartbeats 8000000 in
set_option maxRecDepth 100000 in
theorem en_r7 {K : Act → World → Prop} {c : Code} (hc : regOf (Try.f5.body.getD .skip) 7 = some c) (a : Act) {v : Ven} {wq : World} {oo ta : Option Addr} {n oc tc : Nat} {w3 : World} {k : Nat} (hF : Fen a v) (h7v : v.v7 = .slice oo n oc) (h8v : v.v8 = .int .i64 (k : Int)) (hr : (Builtin.append_ #[22, 22] 22 #[.slice oo n oc, .slice (some ⟨wq.heap.size, 0, none⟩) 1 1]).run Try.prog (wq.alloc (.cells #[.int .i64 (k : Int)] 3)) = .ok (.slice ta (n + 1) tc) w3)
    (hQ : ∀ a', Fen a' { v with v7 := .slice ta (n + 1) tc } → K a' w3) :
    Code.wp Try.prog c (Exit.then K fun _ _ _ => False) a wq := by
  have HQ := hide hQ
  clear hQ
  obtain ⟨t', d'⟩ := a
  obtain ⟨v0, v1, v4, v5, v6, v7, v8, v9, v10, v11, v12, v13, v14, v15, v16, v17, v18, v19, v20, v21, v22, v23, v24⟩ := v
  simp only at h7v h8v HQ
  subst h7v h8v
  obtain ⟨hs1, hd1, q0, q1, q4, q5, q6, q7, q8, q9, q10, q11, q12, q13, q14, q15, q16, q17, q18, q19, q20, q21, q22, q23, q24⟩ := hF
  obtain ⟨u, hu⟩ := frame_en t' hs1
  simp only at hd1 q0 q1 q4 q5 q6 q7 q8 q9 q10 q11 q12 q13 q14 q15 q16 q17 q18 q19 q20 q21 q22 q23 q24
  subst hu hd1
  have e0 : u 0 = v0 := q0
  have e1 : u 1 = v1 := q1
  have e4 : u 4 = v4 := q4
  have e5 : u 5 = v5 := q5
  have e6 : u 6 = v6 := q6
  have e7 : u 7 = .slice oo n oc := q7
  have e8 : u 8 = .int .i64 (k : Int) := q8
  have e9 : u 9 = v9 := q9
  have e10 : u 10 = v10 := q10
  have e11 : u 11 = v11 := q11
  have e12 : u 12 = v12 := q12
  have e13 : u 13 = v13 := q13
  have e14 : u 14 = v14 := q14
  have e15 : u 15 = v15 := q15
  have e16 : u 16 = v16 := q16
  have e17 : u 17 = v17 := q17
  have e18 : u 18 = v18 := q18
  have e19 : u 19 = v19 := q19
  have e20 : u 20 = v20 := q20
  have e21 : u 21 = v21 := q21
  have e22 : u 22 = v22 := q22
  have e23 : u 23 = v23 := q23
  have e24 : u 24 = v24 := q24
  rw [e0, e1, e4, e5, e6, e7, e8, e9, e10, e11, e12, e13, e14, e15, e16, e17, e18, e19, e20, e21, e22, e23, e24]
  clear q0 e0 q1 e1 q4 e4 q5 e5 q6 e6 q7 e7 q8 e8 q9 e9 q10 e10 q11 e11 q12 e12 q13 e13 q14 e14 q15 e15 q16 e16 q17 e17 q18 e18 q19 e19 q20 e20 q21 e21 q22 e22 q23 e23 q24 e24 hs1
  simp only [Try.f5, Option.getD_some, regOf] at hc
  injection hc with hc
  subst hc
  have HA := hide hr
  clear hr
  go_wp2_with (at_builtin; refine wpList_append_run rfl _ _ 22 rfl _ _ _ rfl rfl HA.out ?_)
  exact HQ.out _ ⟨rfl, rfl, rfl, rfl, rfl, rfl, rfl, rfl, rfl, rfl, rfl, rfl, rfl, rfl, rfl, rfl, rfl, rfl, rfl, rfl, rfl, rfl, rfl, rfl, rfl⟩
set_option maxHeartbeats 8000000 in
set_option maxRecDepth 100000 in
theorem en_r6 {K : Act → World → Prop} {c : Code} (hc : regOf (Try.f5.body.getD .skip) 6 = some c) (a : Act) {v : Ven} {wq : World} {k : Nat} (hF : Fen a v) (h8v : v.v8 = .int .i64 (k : Int)) (hk : k ≤ 1000000) (hQ : ∀ a', Fen a' { v with v8 := .int .i64 ((k + 1 : Nat) : Int) } → K a' wq) :
    Code.wp Try.prog c (Exit.then K fun _ _ _ => False) a wq := by
  have HQ := hide hQ
  clear hQ
  obtain ⟨t', d'⟩ := a
  obtain ⟨v0, v1, v4, v5, v6, v7, v8, v9, v10, v11, v12, v13, v14, v15, v16, v17, v18, v19, v20, v21, v22, v23, v24⟩ := v
  simp only at h8v HQ
  subst h8v
  obtain ⟨hs1, hd1, q0, q1, q4, q5, q6, q7, q8, q9, q10, q11, q12, q13, q14, q15, q16, q17, q18, q19, q20, q21, q22, q23, q24⟩ := hF
  obtain ⟨u, hu⟩ := frame_en t' hs1
  simp only at hd1 q0 q1 q4 q5 q6 q7 q8 q9 q10 q11 q12 q13 q14 q15 q16 q17 q18 q19 q20 q21 q22 q23 q24
  subst hu hd1
  have e0 : u 0 = v0 := q0
  have e1 : u 1 = v1 := q1
  have e4 : u 4 = v4 := q4
  have e5 : u 5 = v5 := q5
  have e6 : u 6 = v6 := q6
  have e7 : u 7 = v7 := q7
  have e8 : u 8 = .int .i64 (k : Int) := q8
  have e9 : u 9 = v9 := q9
  have e10 : u 10 = v10 := q10
  have e11 : u 11 = v11 := q11
  have e12 : u 12 = v12 := q12
  have e13 : u 13 = v13 := q13
  have e14 : u 14 = v14 := q14
  have e15 : u 15 = v15 := q15
  have e16 : u 16 = v16 := q16
  have e17 : u 17 = v17 := q17
  have e18 : u 18 = v18 := q18
  have e19 : u 19 = v19 := q19
  have e20 : u 20 = v20 := q20
  have e21 : u 21 = v21 := q21
  have e22 : u 22 = v22 := q22
  have e23 : u 23 = v23 := q23
  have e24 : u 24 = v24 := q24
  rw [e0, e1, e4, e5, e6, e7, e8, e9, e10, e11, e12, e13, e14, e15, e16, e17, e18, e19, e20, e21, e22, e23, e24]
  clear q0 e0 q1 e1 q4 e4 q5 e5 q6 e6 q7 e7 q8 e8 q9 e9 q10 e10 q11 e11 q12 e12 q13 e13 q14 e14 q15 e15 q16 e16 q17 e17 q18 e18 q19 e19 q20 e20 q21 e21 q22 e22 q23 e23 q24 e24 hs1
  simp only [Try.f5, Option.getD_some, regOf] at hc
  injection hc with hc
  subst hc
  have hc : ((k + 1 : Nat) : Int) = (k : Int) + 1 := by omega
  rw [hc] at HQ
  go_wp2
  exact HQ.out _ ⟨rfl, rfl, rfl, rfl, rfl, rfl, rfl, rfl, rfl, rfl, rfl, rfl, rfl, rfl, rfl, rfl, rfl, rfl, rfl, rfl, rfl, rfl, rfl, rfl, rfl⟩
set_option maxHeartbeats 8000000 in
set_option maxRecDepth 100000 in
theorem en_r8 {K : Act → World → Prop} {c : Code} (hc : regOf (Try.f5.body.getD .skip) 8 = some c) (a : Act) {v : Ven} {wq : World}  (hF : Fen a v) (hQ : ∀ a', Fen a' { v with v9 := .slice none 0 0 } → K a' wq) :
    Code.wp Try.prog c (Exit.then K fun _ _ _ => False) a wq := by
  have HQ := hide hQ
  clear hQ
  obtain ⟨t', d'⟩ := a
  obtain ⟨v0, v1, v4, v5, v6, v7, v8, v9, v10, v11, v12, v13, v14, v15, v16, v17, v18, v19, v20, v21, v22, v23, v24⟩ := v
  obtain ⟨hs1, hd1, q0, q1, q4, q5, q6, q7, q8, q9, q10, q11, q12, q13, q14, q15, q16, q17, q18, q19, q20, q21, q22, q23, q24⟩ := hF
  obtain ⟨u, hu⟩ := frame_en t' hs1
  simp only at hd1 q0 q1 q4 q5 q6 q7 q8 q9 q10 q11 q12 q13 q14 q15 q16 q17 q18 q19 q20 q21 q22 q23 q24
  subst hu hd1
  have e0 : u 0 = v0 := q0
  have e1 : u 1 = v1 := q1
  have e4 : u 4 = v4 := q4
  have e5 : u 5 = v5 := q5
  have e6 : u 6 = v6 := q6
  have e7 : u 7 = v7 := q7
  have e8 : u 8 = v8 := q8
  have e9 : u 9 = v9 := q9
  have e10 : u 10 = v10 := q10
  have e11 : u 11 = v11 := q11
  have e12 : u 12 = v12 := q12
  have e13 : u 13 = v13 := q13
  have e14 : u 14 = v14 := q14
  have e15 : u 15 = v15 := q15
  have e16 : u 16 = v16 := q16
  have e17 : u 17 = v17 := q17
  have e18 : u 18 = v18 := q18
  have e19 : u 19 = v19 := q19
  have e20 : u 20 = v20 := q20
  have e21 : u 21 = v21 := q21
  have e22 : u 22 = v22 := q22
  have e23 : u 23 = v23 := q23
  have e24 : u 24 = v24 := q24
  rw [e0, e1, e4, e5, e6, e7, e8, e9, e10, e11, e12, e13, e14, e15, e16, e17, e18, e19, e20, e21, e22, e23, e24]
  clear q0 e0 q1 e1 q4 e4 q5 e5 q6 e6 q7 e7 q8 e8 q9 e9 q10 e10 q11 e11 q12 e12 q13 e13 q14 e14 q15 e15 q16 e16 q17 e17 q18 e18 q19 e19 q20 e20 q21 e21 q22 e22 q23 e23 q24 e24 hs1
  simp only [Try.f5, Option.getD_some, regOf] at hc
  injection hc with hc
  subst hc
  go_wp2
  exact HQ.out _ ⟨rfl, rfl, rfl, rfl, rfl, rfl, rfl, rfl, rfl, rfl, rfl, rfl, rfl, rfl, rfl, rfl, rfl, rfl, rfl, rfl, rfl, rfl, rfl, rfl, rfl⟩
set_option maxHeartbeats 8000000 in
set_option maxRecDepth 100000 in
theorem en_r9 {K : Act → World → Prop} {c : Code} (hc : regOf (Try.f5.body.getD .skip) 9 = some c) (a : Act) {v : Ven} {wq : World}  (hF : Fen a v) (hQ : ∀ a', Fen a' { v with v10 := .int .i64 ((0 : Nat) : Int) } → K a' wq) :
    Code.wp Try.prog c (Exit.then K fun _ _ _ => False) a wq := by
  have HQ := hide hQ
  clear hQ
  obtain ⟨t', d'⟩ := a
  obtain ⟨v0, v1, v4, v5, v6, v7, v8, v9, v10, v11, v12, v13, v14, v15, v16, v17, v18, v19, v20, v21, v22, v23, v24⟩ := v
  obtain ⟨hs1, hd1, q0, q1, q4, q5, q6, q7, q8, q9, q10, q11, q12, q13, q14, q15, q16, q17, q18, q19, q20, q21, q22, q23, q24⟩ := hF
  obtain ⟨u, hu⟩ := frame_en t' hs1
  simp only at hd1 q0 q1 q4 q5 q6 q7 q8 q9 q10 q11 q12 q13 q14 q15 q16 q17 q18 q19 q20 q21 q22 q23 q24
  subst hu hd1
  have e0 : u 0 = v0 := q0
  have e1 : u 1 = v1 := q1
  have e4 : u 4 = v4 := q4
  have e5 : u 5 = v5 := q5
  have e6 : u 6 = v6 := q6
  have e7 : u 7 = v7 := q7
  have e8 : u 8 = v8 := q8
  have e9 : u 9 = v9 := q9
  have e10 : u 10 = v10 := q10
  have e11 : u 11 = v11 := q11
  have e12 : u 12 = v12 := q12
  have e13 : u 13 = v13 := q13
  have e14 : u 14 = v14 := q14
  have e15 : u 15 = v15 := q15
  have e16 : u 16 = v16 := q16
  have e17 : u 17 = v17 := q17
  have e18 : u 18 = v18 := q18
  have e19 : u 19 = v19 := q19
  have e20 : u 20 = v20 := q20
  have e21 : u 21 = v21 := q21
  have e22 : u 22 = v22 := q22
  have e23 : u 23 = v23 := q23
  have e24 : u 24 = v24 := q24
  rw [e0, e1, e4, e5, e6, e7, e8, e9, e10, e11, e12, e13, e14, e15, e16, e17, e18, e19, e20, e21, e22, e23, e24]
  clear q0 e0 q1 e1 q4 e4 q5 e5 q6 e6 q7 e7 q8 e8 q9 e9 q10 e10 q11 e11 q12 e12 q13 e13 q14 e14 q15 e15 q16 e16 q17 e17 q18 e18 q19 e19 q20 e20 q21 e21 q22 e22 q23 e23 q24 e24 hs1
  simp only [Try.f5, Option.getD_some, regOf] at hc
  injection hc with hc
  subst hc
  go_wp2
  exact HQ.out _ ⟨rfl, rfl, rfl, rfl, rfl, rfl, rfl, rfl, rfl, rfl, rfl, rfl, rfl, rfl, rfl, rfl, rfl, rfl, rfl, rfl, rfl, rfl, rfl, rfl, rfl⟩
set_option maxHeartbeats 8000000 in
set_option maxRecDepth 100000 in
theorem en_r10 {K : Act → World → Prop} {c : Code} (hc : regOf (Try.f5.body.getD .skip) 10 = some c) (a : Act) {v : Ven} {wq : World} {k n : Nat} (hF : Fen a v) (h10v : v.v10 = .int .i64 (k : Int)) (h6v : v.v6 = .int .i64 (n : Int)) (hQ : ∀ a', Fen a' v → a'.tmps.getD 40 undef = .bool (decide ((k : Int) < (n : Int))) → K a' wq) :
    Code.wp Try.prog c (Exit.then K fun _ _ _ => False) a wq := by
  have HQ := hide hQ
  clear hQ
  obtain ⟨t', d'⟩ := a
  obtain ⟨v0, v1, v4, v5, v6, v7, v8, v9, v10, v11, v12, v13, v14, v15, v16, v17, v18, v19, v20, v21, v22, v23, v24⟩ := v
  simp only at h10v h6v HQ
  subst h10v h6v
  obtain ⟨hs1, hd1, q0, q1, q4, q5, q6, q7, q8, q9, q10, q11, q12, q13, q14, q15, q16, q17, q18, q19, q20, q21, q22, q23, q24⟩ := hF
  obtain ⟨u, hu⟩ := frame_en t' hs1
  simp only at hd1 q0 q1 q4 q5 q6 q7 q8 q9 q10 q11 q12 q13 q14 q15 q16 q17 q18 q19 q20 q21 q22 q23 q24
  subst hu hd1
  have e0 : u 0 = v0 := q0
  have e1 : u 1 = v1 := q1
  have e4 : u 4 = v4 := q4
  have e5 : u 5 = v5 := q5
  have e6 : u 6 = .int .i64 (n : Int) := q6
  have e7 : u 7 = v7 := q7
  have e8 : u 8 = v8 := q8
  have e9 : u 9 = v9 := q9
  have e10 : u 10 = .int .i64 (k : Int) := q10
  have e11 : u 11 = v11 := q11
  have e12 : u 12 = v12 := q12
  have e13 : u 13 = v13 := q13
  have e14 : u 14 = v14 := q14
  have e15 : u 15 = v15 := q15
  have e16 : u 16 = v16 := q16
  have e17 : u 17 = v17 := q17
  have e18 : u 18 = v18 := q18
  have e19 : u 19 = v19 := q19
  have e20 : u 20 = v20 := q20
  have e21 : u 21 = v21 := q21
  have e22 : u 22 = v22 := q22
  have e23 : u 23 = v23 := q23
  have e24 : u 24 = v24 := q24
  rw [e0, e1, e4, e5, e6, e7, e8, e9, e10, e11, e12, e13, e14, e15, e16, e17, e18, e19, e20, e21, e22, e23, e24]
  clear q0 e0 q1 e1 q4 e4 q5 e5 q6 e6 q7 e7 q8 e8 q9 e9 q10 e10 q11 e11 q12 e12 q13 e13 q14 e14 q15 e15 q16 e16 q17 e17 q18 e18 q19 e19 q20 e20 q21 e21 q22 e22 q23 e23 q24 e24 hs1
  simp only [Try.f5, Option.getD_some, regOf] at hc
  injection hc with hc
  subst hc
  go_wp2
  exact HQ.out _ ⟨rfl, rfl, rfl, rfl, rfl, rfl, rfl, rfl, rfl, rfl, rfl, rfl, rfl, rfl, rfl, rfl, rfl, rfl, rfl, rfl, rfl, rfl, rfl, rfl, rfl⟩ (by first | rfl | (simp; done))
set_option maxHeartbeats 8000000 in
set_option maxRecDepth 100000 in
theorem en_r12 {K : Act → World → Prop} {c : Code} (hc : regOf (Try.f5.body.getD .skip) 12 = some c) (a : Act) {v : Ven} {wq : World} {R : Option Addr → Int → World → Prop} {k n cp : Nat} {ao : Option Addr} (hF : Fen a v) (h10v : v.v10 = .int .i64 (k : Int)) (h7v : v.v7 = .slice ao n cp) (hE : Calls Try.prog 8 #[.int .i64 (k : Int), .slice ao n cp, .slice none 0 0] wq fun e w' => ∃ (po : Option Addr) (ec : Int), e = .returned (.tuple #[.pointer po, .int .i64 ec]) ∧ R po ec w')
    (hQ : ∀ a' w1 po ec, Fen a' { v with v11 := .pointer po, v12 := .int .i64 ec } → R po ec w1 → K a' w1) :
    Code.wp Try.prog c (Exit.then K fun _ _ _ => False) a wq := by
  have HQ := hide hQ
  clear hQ
  obtain ⟨t', d'⟩ := a
  obtain ⟨v0, v1, v4, v5, v6, v7, v8, v9, v10, v11, v12, v13, v14, v15, v16, v17, v18, v19, v20, v21, v22, v23, v24⟩ := v
  simp only at h10v h7v HQ
  subst h10v h7v
  obtain ⟨hs1, hd1, q0, q1, q4, q5, q6, q7, q8, q9, q10, q11, q12, q13, q14, q15, q16, q17, q18, q19, q20, q21, q22, q23, q24⟩ := hF
  obtain ⟨u, hu⟩ := frame_en t' hs1
  simp only at hd1 q0 q1 q4 q5 q6 q7 q8 q9 q10 q11 q12 q13 q14 q15 q16 q17 q18 q19 q20 q21 q22 q23 q24
  subst hu hd1
  have e0 : u 0 = v0 := q0
  have e1 : u 1 = v1 := q1
  have e4 : u 4 = v4 := q4
  have e5 : u 5 = v5 := q5
  have e6 : u 6 = v6 := q6
  have e7 : u 7 = .slice ao n cp := q7
  have e8 : u 8 = v8 := q8
  have e9 : u 9 = v9 := q9
  have e10 : u 10 = .int .i64 (k : Int) := q10
  have e11 : u 11 = v11 := q11
  have e12 : u 12 = v12 := q12
  have e13 : u 13 = v13 := q13
  have e14 : u 14 = v14 := q14
  have e15 : u 15 = v15 := q15
  have e16 : u 16 = v16 := q16
  have e17 : u 17 = v17 := q17
  have e18 : u 18 = v18 := q18
  have e19 : u 19 = v19 := q19
  have e20 : u 20 = v20 := q20
  have e21 : u 21 = v21 := q21
  have e22 : u 22 = v22 := q22
  have e23 : u 23 = v23 := q23
  have e24 : u 24 = v24 := q24
  rw [e0, e1, e4, e5, e6, e7, e8, e9, e10, e11, e12, e13, e14, e15, e16, e17, e18, e19, e20, e21, e22, e23, e24]
  clear q0 e0 q1 e1 q4 e4 q5 e5 q6 e6 q7 e7 q8 e8 q9 e9 q10 e10 q11 e11 q12 e12 q13 e13 q14 e14 q15 e15 q16 e16 q17 e17 q18 e18 q19 e19 q20 e20 q21 e21 q22 e22 q23 e23 q24 e24 hs1
  simp only [Try.f5, Option.getD_some, regOf] at hc
  injection hc with hc
  subst hc
  have HE := hide hE
  clear hE
  go_wp2_with (go_at_call 8; refine HE.out.mono ?_; rintro e w1 ⟨po, ec, rfl, r1⟩; have R1 := hide r1; clear r1)
  exact HQ.out _ _ _ _ ⟨rfl, rfl, rfl, rfl, rfl, rfl, rfl, rfl, rfl, rfl, rfl, rfl, rfl, rfl, rfl, rfl, rfl, rfl, rfl, rfl, rfl, rfl, rfl, rfl, rfl⟩ R1.out
set_option maxHeartbeats 8000000 in
set_option maxRecDepth 100000 in
theorem en_r13 {K : Act → World → Prop} {c : Code} (hc : regOf (Try.f5.body.getD .skip) 13 = some c) (a : Act) {v : Ven} {wq : World} {ad : Addr} (hF : Fen a v) (h12v : v.v12 = .int .i64 0) (h11v : v.v11 = .pointer (some ad)) (hQ : ∀ a', Fen a' v → a'.tmps.getD 54 undef = .bool false → K a' wq) :
    Code.wp Try.prog c (Exit.then K fun _ _ _ => False) a wq := by
  have HQ := hide hQ
  clear hQ
  obtain ⟨t', d'⟩ := a
  obtain ⟨v0, v1, v4, v5, v6, v7, v8, v9, v10, v11, v12, v13, v14, v15, v16, v17, v18, v19, v20, v21, v22, v23, v24⟩ := v
  simp only at h12v h11v HQ
  subst h12v h11v
  obtain ⟨hs1, hd1, q0, q1, q4, q5, q6, q7, q8, q9, q10, q11, q12, q13, q14, q15, q16, q17, q18, q19, q20, q21, q22, q23, q24⟩ := hF
  obtain ⟨u, hu⟩ := frame_en t' hs1
  simp only at hd1 q0 q1 q4 q5 q6 q7 q8 q9 q10 q11 q12 q13 q14 q15 q16 q17 q18 q19 q20 q21 q22 q23 q24
  subst hu hd1
  have e0 : u 0 = v0 := q0
  have e1 : u 1 = v1 := q1
  have e4 : u 4 = v4 := q4
  have e5 : u 5 = v5 := q5
  have e6 : u 6 = v6 := q6
  have e7 : u 7 = v7 := q7
  have e8 : u 8 = v8 := q8
  have e9 : u 9 = v9 := q9
  have e10 : u 10 = v10 := q10
  have e11 : u 11 = .pointer (some ad) := q11
  have e12 : u 12 = .int .i64 0 := q12
  have e13 : u 13 = v13 := q13
  have e14 : u 14 = v14 := q14
  have e15 : u 15 = v15 := q15
  have e16 : u 16 = v16 := q16
  have e17 : u 17 = v17 := q17
  have e18 : u 18 = v18 := q18
  have e19 : u 19 = v19 := q19
  have e20 : u 20 = v20 := q20
  have e21 : u 21 = v21 := q21
  have e22 : u 22 = v22 := q22
  have e23 : u 23 = v23 := q23
  have e24 : u 24 = v24 := q24
  rw [e0, e1, e4, e5, e6, e7, e8, e9, e10, e11, e12, e13, e14, e15, e16, e17, e18, e19, e20, e21, e22, e23, e24]
  clear q0 e0 q1 e1 q4 e4 q5 e5 q6 e6 q7 e7 q8 e8 q9 e9 q10 e10 q11 e11 q12 e12 q13 e13 q14 e14 q15 e15 q16 e16 q17 e17 q18 e18 q19 e19 q20 e20 q21 e21 q22 e22 q23 e23 q24 e24 hs1
  simp only [Try.f5, Option.getD_some, regOf] at hc
  injection hc with hc
  subst hc
  go_wp2
  exact HQ.out _ ⟨rfl, rfl, rfl, rfl, rfl, rfl, rfl, rfl, rfl, rfl, rfl, rfl, rfl, rfl, rfl, rfl, rfl, rfl, rfl, rfl, rfl, rfl, rfl, rfl, rfl⟩ (by first | rfl | (simp; done))
set_option maxHeartbeats 8000000 in
set_option maxRecDepth 100000 in
theorem en_r15 {K : Act → World → Prop} {c : Code} (hc : regOf (Try.f5.body.getD .skip) 15 = some c) (a : Act) {v : Ven} {wq : World} {oo ta : Option Addr} {n oc tc : Nat} {w3 : World} {ad : Addr} (hF : Fen a v) (h9v : v.v9 = .slice oo n oc) (h11v : v.v11 = .pointer (some ad)) (hr : (Builtin.append_ #[51, 51] 51 #[.slice oo n oc, .slice (some ⟨wq.heap.size, 0, none⟩) 1 1]).run Try.prog (wq.alloc (.cells #[.pointer (some ad)] 26)) = .ok (.slice ta (n + 1) tc) w3)
    (hQ : ∀ a', Fen a' { v with v9 := .slice ta (n + 1) tc } → K a' w3) :
    Code.wp Try.prog c (Exit.then K fun _ _ _ => False) a wq := by
  have HQ := hide hQ
  clear hQ
  obtain ⟨t', d'⟩ := a
  obtain ⟨v0, v1, v4, v5, v6, v7, v8, v9, v10, v11, v12, v13, v14, v15, v16, v17, v18, v19, v20, v21, v22, v23, v24⟩ := v
  simp only at h9v h11v HQ
  subst h9v h11v
  obtain ⟨hs1, hd1, q0, q1, q4, q5, q6, q7, q8, q9, q10, q11, q12, q13, q14, q15, q16, q17, q18, q19, q20, q21, q22, q23, q24⟩ := hF
  obtain ⟨u, hu⟩ := frame_en t' hs1
  simp only at hd1 q0 q1 q4 q5 q6 q7 q8 q9 q10 q11 q12 q13 q14 q15 q16 q17 q18 q19 q20 q21 q22 q23 q24
  subst hu hd1
  have e0 : u 0 = v0 := q0
  have e1 : u 1 = v1 := q1
  have e4 : u 4 = v4 := q4
  have e5 : u 5 = v5 := q5
  have e6 : u 6 = v6 := q6
  have e7 : u 7 = v7 := q7
  have e8 : u 8 = v8 := q8
  have e9 : u 9 = .slice oo n oc := q9
  have e10 : u 10 = v10 := q10
  have e11 : u 11 = .pointer (some ad) := q11
  have e12 : u 12 = v12 := q12
  have e13 : u 13 = v13 := q13
  have e14 : u 14 = v14 := q14
  have e15 : u 15 = v15 := q15
  have e16 : u 16 = v16 := q16
  have e17 : u 17 = v17 := q17
  have e18 : u 18 = v18 := q18
  have e19 : u 19 = v19 := q19
  have e20 : u 20 = v20 := q20
  have e21 : u 21 = v21 := q21
  have e22 : u 22 = v22 := q22
  have e23 : u 23 = v23 := q23
  have e24 : u 24 = v24 := q24
  rw [e0, e1, e4, e5, e6, e7, e8, e9, e10, e11, e12, e13, e14, e15, e16, e17, e18, e19, e20, e21, e22, e23, e24]
  clear q0 e0 q1 e1 q4 e4 q5 e5 q6 e6 q7 e7 q8 e8 q9 e9 q10 e10 q11 e11 q12 e12 q13 e13 q14 e14 q15 e15 q16 e16 q17 e17 q18 e18 q19 e19 q20 e20 q21 e21 q22 e22 q23 e23 q24 e24 hs1
  simp only [Try.f5, Option.getD_some, regOf] at hc
  injection hc with hc
  subst hc
  have HA := hide hr
  clear hr
  go_wp2_with (at_builtin; refine wpList_append_run rfl _ _ 51 rfl _ _ _ rfl rfl HA.out ?_)
  exact HQ.out _ ⟨rfl, rfl, rfl, rfl, rfl, rfl, rfl, rfl, rfl, rfl, rfl, rfl, rfl, rfl, rfl, rfl, rfl, rfl, rfl, rfl, rfl, rfl, rfl, rfl, rfl⟩
set_option maxHeartbeats 8000000 in
set_option maxRecDepth 100000 in
theorem en_r11 {K : Act → World → Prop} {c : Code} (hc : regOf (Try.f5.body.getD .skip) 11 = some c) (a : Act) {v : Ven} {wq : World} {k : Nat} (hF : Fen a v) (h10v : v.v10 = .int .i64 (k : Int)) (hk : k ≤ 1000000) (hQ : ∀ a', Fen a' { v with v10 := .int .i64 ((k + 1 : Nat) : Int) } → K a' wq) :
    Code.wp Try.prog c (Exit.then K fun _ _ _ => False) a wq := by
  have HQ := hide hQ
  clear hQ
  obtain ⟨t', d'⟩ := a
  obtain ⟨v0, v1, v4, v5, v6, v7, v8, v9, v10, v11, v12, v13, v14, v15, v16, v17, v18, v19, v20, v21, v22, v23, v24⟩ := v
  simp only at h10v HQ
  subst h10v
  obtain ⟨hs1, hd1, q0, q1, q4, q5, q6, q7, q8, q9, q10, q11, q12, q13, q14, q15, q16, q17, q18, q19, q20, q21, q22, q23, q24⟩ := hF
  obtain ⟨u, hu⟩ := frame_en t' hs1
  simp only at hd1 q0 q1 q4 q5 q6 q7 q8 q9 q10 q11 q12 q13 q14 q15 q16 q17 q18 q19 q20 q21 q22 q23 q24
  subst hu hd1
  have e0 : u 0 = v0 := q0
  have e1 : u 1 = v1 := q1
  have e4 : u 4 = v4 := q4
  have e5 : u 5 = v5 := q5
  have e6 : u 6 = v6 := q6
  have e7 : u 7 = v7 := q7
  have e8 : u 8 = v8 := q8
  have e9 : u 9 = v9 := q9
  have e10 : u 10 = .int .i64 (k : Int) := q10
  have e11 : u 11 = v11 := q11
  have e12 : u 12 = v12 := q12
  have e13 : u 13 = v13 := q13
  have e14 : u 14 = v14 := q14
  have e15 : u 15 = v15 := q15
  have e16 : u 16 = v16 := q16
  have e17 : u 17 = v17 := q17
  have e18 : u 18 = v18 := q18
  have e19 : u 19 = v19 := q19
  have e20 : u 20 = v20 := q20
  have e21 : u 21 = v21 := q21
  have e22 : u 22 = v22 := q22
  have e23 : u 23 = v23 := q23
  have e24 : u 24 = v24 := q24
  rw [e0, e1, e4, e5, e6, e7, e8, e9, e10, e11, e12, e13, e14, e15, e16, e17, e18, e19, e20, e21, e22, e23, e24]
  clear q0 e0 q1 e1 q4 e4 q5 e5 q6 e6 q7 e7 q8 e8 q9 e9 q10 e10 q11 e11 q12 e12 q13 e13 q14 e14 q15 e15 q16 e16 q17 e17 q18 e18 q19 e19 q20 e20 q21 e21 q22 e22 q23 e23 q24 e24 hs1
  simp only [Try.f5, Option.getD_some, regOf] at hc
  injection hc with hc
  subst hc
  have hc : ((k + 1 : Nat) : Int) = (k : Int) + 1 := by omega
  rw [hc] at HQ
  go_wp2
  exact HQ.out _ ⟨rfl, rfl, rfl, rfl, rfl, rfl, rfl, rfl, rfl, rfl, rfl, rfl, rfl, rfl, rfl, rfl, rfl, rfl, rfl, rfl, rfl, rfl, rfl, rfl, rfl⟩
set_option maxHeartbeats 8000000 in
set_option maxRecDepth 100000 in
theorem en_r16 {K : Act → World → Prop} {c : Code} (hc : regOf (Try.f5.body.getD .skip) 16 = some c) (a : Act) {v : Ven} {wq : World}  (hF : Fen a v) (hQ : ∀ a', Fen a' { v with v13 := .int .i64 ((0 : Nat) : Int) } → K a' wq) :
    Code.wp Try.prog c (Exit.then K fun _ _ _ => False) a wq := by
  have HQ := hide hQ
  clear hQ
  obtain ⟨t', d'⟩ := a
  obtain ⟨v0, v1, v4, v5, v6, v7, v8, v9, v10, v11, v12, v13, v14, v15, v16, v17, v18, v19, v20, v21, v22, v23, v24⟩ := v
  obtain ⟨hs1, hd1, q0, q1, q4, q5, q6, q7, q8, q9, q10, q11, q12, q13, q14, q15, q16, q17, q18, q19, q20, q21, q22, q23, q24⟩ := hF
  obtain ⟨u, hu⟩ := frame_en t' hs1
  simp only at hd1 q0 q1 q4 q5 q6 q7 q8 q9 q10 q11 q12 q13 q14 q15 q16 q17 q18 q19 q20 q21 q22 q23 q24
  subst hu hd1
  have e0 : u 0 = v0 := q0
  have e1 : u 1 = v1 := q1
  have e4 : u 4 = v4 := q4
  have e5 : u 5 = v5 := q5
  have e6 : u 6 = v6 := q6
  have e7 : u 7 = v7 := q7
  have e8 : u 8 = v8 := q8
  have e9 : u 9 = v9 := q9
  have e10 : u 10 = v10 := q10
  have e11 : u 11 = v11 := q11
  have e12 : u 12 = v12 := q12
  have e13 : u 13 = v13 := q13
  have e14 : u 14 = v14 := q14
  have e15 : u 15 = v15 := q15
  have e16 : u 16 = v16 := q16
  have e17 : u 17 = v17 := q17
  have e18 : u 18 = v18 := q18
  have e19 : u 19 = v19 := q19
  have e20 : u 20 = v20 := q20
  have e21 : u 21 = v21 := q21
  have e22 : u 22 = v22 := q22
  have e23 : u 23 = v23 := q23
  have e24 : u 24 = v24 := q24
  rw [e0, e1, e4, e5, e6, e7, e8, e9, e10, e11, e12, e13, e14, e15, e16, e17, e18, e19, e20, e21, e22, e23, e24]
  clear q0 e0 q1 e1 q4 e4 q5 e5 q6 e6 q7 e7 q8 e8 q9 e9 q10 e10 q11 e11 q12 e12 q13 e13 q14 e14 q15 e15 q16 e16 q17 e17 q18 e18 q19 e19 q20 e20 q21 e21 q22 e22 q23 e23 q24 e24 hs1
  simp only [Try.f5, Option.getD_some, regOf] at hc
  injection hc with hc
  subst hc
  go_wp2
  exact HQ.out _ ⟨rfl, rfl, rfl, rfl, rfl, rfl, rfl, rfl, rfl, rfl, rfl, rfl, rfl, rfl, rfl, rfl, rfl, rfl, rfl, rfl, rfl, rfl, rfl, rfl, rfl⟩
set_option maxHeartbeats 8000000 in
set_option maxRecDepth 100000 in
theorem en_r17 {K : Act → World → Prop} {c : Code} (hc : regOf (Try.f5.body.getD .skip) 17 = some c) (a : Act) {v : Ven} {wq : World}  (hF : Fen a v) (hQ : ∀ a', Fen a' { v with v14 := .int .i64 ((0 : Nat) : Int) } → K a' wq) :
    Code.wp Try.prog c (Exit.then K fun _ _ _ => False) a wq := by
  have HQ := hide hQ
  clear hQ
  obtain ⟨t', d'⟩ := a
  obtain ⟨v0, v1, v4, v5, v6, v7, v8, v9, v10, v11, v12, v13, v14, v15, v16, v17, v18, v19, v20, v21, v22, v23, v24⟩ := v
  obtain ⟨hs1, hd1, q0, q1, q4, q5, q6, q7, q8, q9, q10, q11, q12, q13, q14, q15, q16, q17, q18, q19, q20, q21, q22, q23, q24⟩ := hF
  obtain ⟨u, hu⟩ := frame_en t' hs1
  simp only at hd1 q0 q1 q4 q5 q6 q7 q8 q9 q10 q11 q12 q13 q14 q15 q16 q17 q18 q19 q20 q21 q22 q23 q24
  subst hu hd1
  have e0 : u 0 = v0 := q0
  have e1 : u 1 = v1 := q1
  have e4 : u 4 = v4 := q4
  have e5 : u 5 = v5 := q5
  have e6 : u 6 = v6 := q6
  have e7 : u 7 = v7 := q7
  have e8 : u 8 = v8 := q8
  have e9 : u 9 = v9 := q9
  have e10 : u 10 = v10 := q10
  have e11 : u 11 = v11 := q11
  have e12 : u 12 = v12 := q12
  have e13 : u 13 = v13 := q13
  have e14 : u 14 = v14 := q14
  have e15 : u 15 = v15 := q15
  have e16 : u 16 = v16 := q16
  have e17 : u 17 = v17 := q17
  have e18 : u 18 = v18 := q18
  have e19 : u 19 = v19 := q19
  have e20 : u 20 = v20 := q20
  have e21 : u 21 = v21 := q21
  have e22 : u 22 = v22 := q22
  have e23 : u 23 = v23 := q23
  have e24 : u 24 = v24 := q24
  rw [e0, e1, e4, e5, e6, e7, e8, e9, e10, e11, e12, e13, e14, e15, e16, e17, e18, e19, e20, e21, e22, e23, e24]
  clear q0 e0 q1 e1 q4 e4 q5 e5 q6 e6 q7 e7 q8 e8 q9 e9 q10 e10 q11 e11 q12 e12 q13 e13 q14 e14 q15 e15 q16 e16 q17 e17 q18 e18 q19 e19 q20 e20 q21 e21 q22 e22 q23 e23 q24 e24 hs1
  simp only [Try.f5, Option.getD_some, regOf] at hc
  injection hc with hc
  subst hc
  go_wp2
  exact HQ.out _ ⟨rfl, rfl, rfl, rfl, rfl, rfl, rfl, rfl, rfl, rfl, rfl, rfl, rfl, rfl, rfl, rfl, rfl, rfl, rfl, rfl, rfl, rfl, rfl, rfl, rfl⟩
set_option maxHeartbeats 8000000 in
set_option maxRecDepth 100000 in
theorem en_r18 {K : Act → World → Prop} {c : Code} (hc : regOf (Try.f5.body.getD .skip) 18 = some c) (a : Act) {v : Ven} {wq : World}  (hF : Fen a v) (hQ : ∀ a', Fen a' { v with v15 := .int .i64 ((0 : Nat) : Int) } → K a' wq) :
    Code.wp Try.prog c (Exit.then K fun _ _ _ => False) a wq := by
  have HQ := hide hQ
  clear hQ
  obtain ⟨t', d'⟩ := a
  obtain ⟨v0, v1, v4, v5, v6, v7, v8, v9, v10, v11, v12, v13, v14, v15, v16, v17, v18, v19, v20, v21, v22, v23, v24⟩ := v
  obtain ⟨hs1, hd1, q0, q1, q4, q5, q6, q7, q8, q9, q10, q11, q12, q13, q14, q15, q16, q17, q18, q19, q20, q21, q22, q23, q24⟩ := hF
  obtain ⟨u, hu⟩ := frame_en t' hs1
  simp only at hd1 q0 q1 q4 q5 q6 q7 q8 q9 q10 q11 q12 q13 q14 q15 q16 q17 q18 q19 q20 q21 q22 q23 q24
  subst hu hd1
  have e0 : u 0 = v0 := q0
  have e1 : u 1 = v1 := q1
  have e4 : u 4 = v4 := q4
  have e5 : u 5 = v5 := q5
  have e6 : u 6 = v6 := q6
  have e7 : u 7 = v7 := q7
  have e8 : u 8 = v8 := q8
  have e9 : u 9 = v9 := q9
  have e10 : u 10 = v10 := q10
  have e11 : u 11 = v11 := q11
  have e12 : u 12 = v12 := q12
  have e13 : u 13 = v13 := q13
  have e14 : u 14 = v14 := q14
  have e15 : u 15 = v15 := q15
  have e16 : u 16 = v16 := q16
  have e17 : u 17 = v17 := q17
  have e18 : u 18 = v18 := q18
  have e19 : u 19 = v19 := q19
  have e20 : u 20 = v20 := q20
  have e21 : u 21 = v21 := q21
  have e22 : u 22 = v22 := q22
  have e23 : u 23 = v23 := q23
  have e24 : u 24 = v24 := q24
  rw [e0, e1, e4, e5, e6, e7, e8, e9, e10, e11, e12, e13, e14, e15, e16, e17, e18, e19, e20, e21, e22, e23, e24]
  clear q0 e0 q1 e1 q4 e4 q5 e5 q6 e6 q7 e7 q8 e8 q9 e9 q10 e10 q11 e11 q12 e12 q13 e13 q14 e14 q15 e15 q16 e16 q17 e17 q18 e18 q19 e19 q20 e20 q21 e21 q22 e22 q23 e23 q24 e24 hs1
  simp only [Try.f5, Option.getD_some, regOf] at hc
  injection hc with hc
  subst hc
  go_wp2
  exact HQ.out _ ⟨rfl, rfl, rfl, rfl, rfl, rfl, rfl, rfl, rfl, rfl, rfl, rfl, rfl, rfl, rfl, rfl, rfl, rfl, rfl, rfl, rfl, rfl, rfl, rfl, rfl⟩
set_option maxHeartbeats 8000000 in
set_option maxRecDepth 100000 in
theorem en_r19n {K : Act → World → Prop} {c : Code} (hc : regOf (Try.f5.body.getD .skip) 19 = some c) (a : Act) {v : Ven} {wq : World} {ao : Option Addr} {n cp k : Nat} (hF : Fen a v) (h1v : v.v1 = .slice ao n cp) (h15v : v.v15 = .int .i64 (k : Int)) (hk : ¬ (k : Int) < (n : Int)) (hQ : ∀ a', Fen a' v → a'.tmps.getD 66 undef = .bool false → K a' wq) :
    Code.wp Try.prog c (Exit.then K fun _ _ _ => False) a wq := by
  have HQ := hide hQ
  clear hQ
  obtain ⟨t', d'⟩ := a
  obtain ⟨v0, v1, v4, v5, v6, v7, v8, v9, v10, v11, v12, v13, v14, v15, v16, v17, v18, v19, v20, v21, v22, v23, v24⟩ := v
  simp only at h1v h15v HQ
  subst h1v h15v
  obtain ⟨hs1, hd1, q0, q1, q4, q5, q6, q7, q8, q9, q10, q11, q12, q13, q14, q15, q16, q17, q18, q19, q20, q21, q22, q23, q24⟩ := hF
  obtain ⟨u, hu⟩ := frame_en t' hs1
  simp only at hd1 q0 q1 q4 q5 q6 q7 q8 q9 q10 q11 q12 q13 q14 q15 q16 q17 q18 q19 q20 q21 q22 q23 q24
  subst hu hd1
  have e0 : u 0 = v0 := q0
  have e1 : u 1 = .slice ao n cp := q1
  have e4 : u 4 = v4 := q4
  have e5 : u 5 = v5 := q5
  have e6 : u 6 = v6 := q6
  have e7 : u 7 = v7 := q7
  have e8 : u 8 = v8 := q8
  have e9 : u 9 = v9 := q9
  have e10 : u 10 = v10 := q10
  have e11 : u 11 = v11 := q11
  have e12 : u 12 = v12 := q12
  have e13 : u 13 = v13 := q13
  have e14 : u 14 = v14 := q14
  have e15 : u 15 = .int .i64 (k : Int) := q15
  have e16 : u 16 = v16 := q16
  have e17 : u 17 = v17 := q17
  have e18 : u 18 = v18 := q18
  have e19 : u 19 = v19 := q19
  have e20 : u 20 = v20 := q20
  have e21 : u 21 = v21 := q21
  have e22 : u 22 = v22 := q22
  have e23 : u 23 = v23 := q23
  have e24 : u 24 = v24 := q24
  rw [e0, e1, e4, e5, e6, e7, e8, e9, e10, e11, e12, e13, e14, e15, e16, e17, e18, e19, e20, e21, e22, e23, e24]
  clear q0 e0 q1 e1 q4 e4 q5 e5 q6 e6 q7 e7 q8 e8 q9 e9 q10 e10 q11 e11 q12 e12 q13 e13 q14 e14 q15 e15 q16 e16 q17 e17 q18 e18 q19 e19 q20 e20 q21 e21 q22 e22 q23 e23 q24 e24 hs1
  simp only [Try.f5, Option.getD_some, regOf] at hc
  injection hc with hc
  subst hc
  have hd : decide ((k : Int) < (n : Int)) = false := decide_eq_false hk
  go_wp2
  exact HQ.out _ ⟨rfl, rfl, rfl, rfl, rfl, rfl, rfl, rfl, rfl, rfl, rfl, rfl, rfl, rfl, rfl, rfl, rfl, rfl, rfl, rfl, rfl, rfl, rfl, rfl, rfl⟩ (by first | rfl | (simp; done))
set_option maxHeartbeats 8000000 in
set_option maxRecDepth 100000 in
theorem en_r19y {K : Act → World → Prop} {c : Code} (hc : regOf (Try.f5.body.getD .skip) 19 = some c) (a : Act) {v : Ven} {wq : World} {ao : Option Addr} {n cp k : Nat} (hF : Fen a v) (h1v : v.v1 = .slice ao n cp) (h15v : v.v15 = .int .i64 (k : Int)) (hk : (k : Int) < (n : Int)) (hQ : ∀ a', Fen a' v → a'.tmps.getD 66 undef = .bool (decide ((k : Int) < 60)) → K a' wq) :
    Code.wp Try.prog c (Exit.then K fun _ _ _ => False) a wq := by
  have HQ := hide hQ
  clear hQ
  obtain ⟨t', d'⟩ := a
  obtain ⟨v0, v1, v4, v5, v6, v7, v8, v9, v10, v11, v12, v13, v14, v15, v16, v17, v18, v19, v20, v21, v22, v23, v24⟩ := v
  simp only at h1v h15v HQ
  subst h1v h15v
  obtain ⟨hs1, hd1, q0, q1, q4, q5, q6, q7, q8, q9, q10, q11, q12, q13, q14, q15, q16, q17, q18, q19, q20, q21, q22, q23, q24⟩ := hF
  obtain ⟨u, hu⟩ := frame_en t' hs1
  simp only at hd1 q0 q1 q4 q5 q6 q7 q8 q9 q10 q11 q12 q13 q14 q15 q16 q17 q18 q19 q20 q21 q22 q23 q24
  subst hu hd1
  have e0 : u 0 = v0 := q0
  have e1 : u 1 = .slice ao n cp := q1
  have e4 : u 4 = v4 := q4
  have e5 : u 5 = v5 := q5
  have e6 : u 6 = v6 := q6
  have e7 : u 7 = v7 := q7
  have e8 : u 8 = v8 := q8
  have e9 : u 9 = v9 := q9
  have e10 : u 10 = v10 := q10
  have e11 : u 11 = v11 := q11
  have e12 : u 12 = v12 := q12
  have e13 : u 13 = v13 := q13
  have e14 : u 14 = v14 := q14
  have e15 : u 15 = .int .i64 (k : Int) := q15
  have e16 : u 16 = v16 := q16
  have e17 : u 17 = v17 := q17
  have e18 : u 18 = v18 := q18
  have e19 : u 19 = v19 := q19
  have e20 : u 20 = v20 := q20
  have e21 : u 21 = v21 := q21
  have e22 : u 22 = v22 := q22
  have e23 : u 23 = v23 := q23
  have e24 : u 24 = v24 := q24
  rw [e0, e1, e4, e5, e6, e7, e8, e9, e10, e11, e12, e13, e14, e15, e16, e17, e18, e19, e20, e21, e22, e23, e24]
  clear q0 e0 q1 e1 q4 e4 q5 e5 q6 e6 q7 e7 q8 e8 q9 e9 q10 e10 q11 e11 q12 e12 q13 e13 q14 e14 q15 e15 q16 e16 q17 e17 q18 e18 q19 e19 q20 e20 q21 e21 q22 e22 q23 e23 q24 e24 hs1
  simp only [Try.f5, Option.getD_some, regOf] at hc
  injection hc with hc
  subst hc
  have hd : decide ((k : Int) < (n : Int)) = true := decide_eq_true hk
  go_wp2
  exact HQ.out _ ⟨rfl, rfl, rfl, rfl, rfl, rfl, rfl, rfl, rfl, rfl, rfl, rfl, rfl, rfl, rfl, rfl, rfl, rfl, rfl, rfl, rfl, rfl, rfl, rfl, rfl⟩ (by first | rfl | (simp; done))
set_option maxHeartbeats 8000000 in
set_option maxRecDepth 100000 in
theorem en_r21 {K : Act → World → Prop} {c : Code} (hc : regOf (Try.f5.body.getD .skip) 21 = some c) (a : Act) {v : Ven} {wq : World} {R : World → Prop} {g m oc : Nat} {a0 : Addr} {tb tf n cp k : Nat} {s : ByteArray} {x y : Int} (hF : Fen a v) (h9v : v.v9 = .slice (some ⟨g, 0, none⟩) m oc) (h1v : v.v1 = .slice (some ⟨tb, tf, none⟩) n cp) (h15v : v.v15 = .int .i64 (k : Int)) (hm : 0 < m) (hkn : k < n) (c0 : wq.cell? ⟨g, 0, none⟩ = some (.pointer (some a0))) (c1 : wq.cell? ⟨tb, tf + k, none⟩ = some (.string s)) (hE : Calls Try.prog 13 #[.pointer (some a0), .string s] wq.drew fun e w' => e = .returned (.tuple #[.int .i64 x, .int .i64 y]) ∧ R w')
    (hQ : ∀ a' w1, Fen a' { v with v16 := .int .i64 x, v17 := .int .i64 y } → R w1 → K a' w1) :
    Code.wp Try.prog c (Exit.then K fun _ _ _ => False) a wq := by
  have HQ := hide hQ
  clear hQ
  obtain ⟨t', d'⟩ := a
  obtain ⟨v0, v1, v4, v5, v6, v7, v8, v9, v10, v11, v12, v13, v14, v15, v16, v17, v18, v19, v20, v21, v22, v23, v24⟩ := v
  simp only at h9v h1v h15v HQ
  subst h9v h1v h15v
  obtain ⟨hs1, hd1, q0, q1, q4, q5, q6, q7, q8, q9, q10, q11, q12, q13, q14, q15, q16, q17, q18, q19, q20, q21, q22, q23, q24⟩ := hF
  obtain ⟨u, hu⟩ := frame_en t' hs1
  simp only at hd1 q0 q1 q4 q5 q6 q7 q8 q9 q10 q11 q12 q13 q14 q15 q16 q17 q18 q19 q20 q21 q22 q23 q24
  subst hu hd1
  have e0 : u 0 = v0 := q0
  have e1 : u 1 = .slice (some ⟨tb, tf, none⟩) n cp := q1
  have e4 : u 4 = v4 := q4
  have e5 : u 5 = v5 := q5
  have e6 : u 6 = v6 := q6
  have e7 : u 7 = v7 := q7
  have e8 : u 8 = v8 := q8
  have e9 : u 9 = .slice (some ⟨g, 0, none⟩) m oc := q9
  have e10 : u 10 = v10 := q10
  have e11 : u 11 = v11 := q11
  have e12 : u 12 = v12 := q12
  have e13 : u 13 = v13 := q13
  have e14 : u 14 = v14 := q14
  have e15 : u 15 = .int .i64 (k : Int) := q15
  have e16 : u 16 = v16 := q16
  have e17 : u 17 = v17 := q17
  have e18 : u 18 = v18 := q18
  have e19 : u 19 = v19 := q19
  have e20 : u 20 = v20 := q20
  have e21 : u 21 = v21 := q21
  have e22 : u 22 = v22 := q22
  have e23 : u 23 = v23 := q23
  have e24 : u 24 = v24 := q24
  rw [e0, e1, e4, e5, e6, e7, e8, e9, e10, e11, e12, e13, e14, e15, e16, e17, e18, e19, e20, e21, e22, e23, e24]
  clear q0 e0 q1 e1 q4 e4 q5 e5 q6 e6 q7 e7 q8 e8 q9 e9 q10 e10 q11 e11 q12 e12 q13 e13 q14 e14 q15 e15 q16 e16 q17 e17 q18 e18 q19 e19 q20 e20 q21 e21 q22 e22 q23 e23 q24 e24 hs1
  simp only [Try.f5, Option.getD_some, regOf] at hc
  injection hc with hc
  subst hc
  have HE := hide hE
  clear hE
  have i0 : (0 : Int) ≤ 0 := Int.le_refl _
  have i1 : (0 : Int) < (m : Int) := by omega
  have j0 : (0 : Int) ≤ (k : Int) := by omega
  have j1 : (k : Int) < (n : Int) := by omega
  refine wp_region_any rfl ?_
  refine wpAny_staged (ns := 198) (uses := (fun i => match i with | 0 => [70] | 1 => [71] | 2 => [72] | 3 => [73] | 4 => [74] | 5 => [75] | 6 => [76] | 7 => [77] | 8 => [69] | 9 => [78] | 10 => [79] | 11 => [16] | 12 => [17] | _ => [])) (by kernel_rfl) (by kernel_rfl) (fun l a w => ((fun (x : Bool) (w : World) => (x = false → w = wq.drew) ∧ (x = true → R w))) (l 7) w) ⟨fun _ => rfl, fun e => by cases e⟩ (fun i => match i with | 0 => fun σ => σ 70 = .slice (some ⟨g, 0, none⟩) m oc | 1 => fun σ => σ 71 = .pointer (some ⟨g, 0, none⟩) | 2 => fun σ => σ 72 = .pointer (some a0) | 3 => fun σ => σ 73 = .slice (some ⟨tb, tf, none⟩) n cp | 4 => fun σ => σ 74 = .int .i64 (k : Int) | 5 => fun σ => σ 75 = .pointer (some ⟨tb, tf + k, none⟩) | 6 => fun σ => σ 76 = .string s | 7 => fun σ => σ 77 = .tuple #[.int .i64 x, .int .i64 y] | 8 => fun σ => σ 69 = .tuple #[.int .i64 x, .int .i64 y] | 9 => fun σ => σ 78 = .int .i64 x | 10 => fun σ => σ 79 = .int .i64 y | 11 => fun σ => σ 16 = .int .i64 x | 12 => fun σ => σ 17 = .int .i64 y | _ => fun _ => True) ?phc ?pstep ?pdone
  case phc =>
    intro i s s' hx h
    rcases i with _ | i; · exact (hx _ (List.mem_singleton.2 rfl)).symm.trans h
    rcases i with _ | i; · exact (hx _ (List.mem_singleton.2 rfl)).symm.trans h
    rcases i with _ | i; · exact (hx _ (List.mem_singleton.2 rfl)).symm.trans h
    rcases i with _ | i; · exact (hx _ (List.mem_singleton.2 rfl)).symm.trans h
    rcases i with _ | i; · exact (hx _ (List.mem_singleton.2 rfl)).symm.trans h
    rcases i with _ | i; · exact (hx _ (List.mem_singleton.2 rfl)).symm.trans h
    rcases i with _ | i; · exact (hx _ (List.mem_singleton.2 rfl)).symm.trans h
    rcases i with _ | i; · exact (hx _ (List.mem_singleton.2 rfl)).symm.trans h
    rcases i with _ | i; · exact (hx _ (List.mem_singleton.2 rfl)).symm.trans h
    rcases i with _ | i; · exact (hx _ (List.mem_singleton.2 rfl)).symm.trans h
    rcases i with _ | i; · exact (hx _ (List.mem_singleton.2 rfl)).symm.trans h
    rcases i with _ | i; · exact (hx _ (List.mem_singleton.2 rfl)).symm.trans h
    rcases i with _ | i; · exact (hx _ (List.mem_singleton.2 rfl)).symm.trans h
    exact h
  case pstep =>
    intro i o ho a' w' l hl hr hq hsa hS hd
    match i, ho, hl, hr, hq with
    | 0, ho, hl, hr, hq =>
      obtain rfl := Option.some.inj ho
      try dsimp only at hd
      have g9 : a'.tmps.getD 9 undef = .slice (some ⟨g, 0, none⟩) m oc := hsa.rest 9 (by rfl)
      have hT : ((fun (x : Bool) (w : World) => (x = false → w = wq.drew) ∧ (x = true → R w))) false w' := by have h := hS; rw [hq 7 (by kernel_rfl)] at h; exact h
      refine wpOp_of rfl rfl ?_
      refine op_run (v := .slice (some ⟨g, 0, none⟩) m oc) (w' := w') ?_ ⟨_, rfl, ?_, (by show ((fun (x : Bool) (w : World) => (x = false → w = wq.drew) ∧ (x = true → R w))) _ _; rw [updL_other l (show 7 ≠ 0 by decide)]; rw [hq 7 (by kernel_rfl)]; exact hT)⟩
      · simp only [execOp, Act.eval, g9]; first | (go_simp; done) | rfl
      · try dsimp only
        exact (slots_put (ns := 198) (hsa.size.trans rfl) (by decide))
    | 1, ho, hl, hr, hq =>
      obtain rfl := Option.some.inj ho
      try dsimp only at hd
      have d0 : a'.tmps.getD 70 undef = .slice (some ⟨g, 0, none⟩) m oc := hd 0 (by rfl)
      have hT : ((fun (x : Bool) (w : World) => (x = false → w = wq.drew) ∧ (x = true → R w))) false w' := by have h := hS; rw [hq 7 (by kernel_rfl)] at h; exact h
      refine wpOp_of rfl rfl ?_
      refine op_run (v := .pointer (some ⟨g, 0, none⟩)) (w' := w') ?_ ⟨_, rfl, ?_, (by show ((fun (x : Bool) (w : World) => (x = false → w = wq.drew) ∧ (x = true → R w))) _ _; rw [updL_other l (show 7 ≠ 1 by decide)]; rw [hq 7 (by kernel_rfl)]; exact hT)⟩
      · simp only [execOp, Act.eval, d0]; first | (go_simp; done) | rfl
      · try dsimp only
        exact (slots_put (ns := 198) (hsa.size.trans rfl) (by decide))
    | 2, ho, hl, hr, hq =>
      obtain rfl := Option.some.inj ho
      try dsimp only at hd
      have d1 : a'.tmps.getD 71 undef = .pointer (some ⟨g, 0, none⟩) := hd 1 (by rfl)
      have hT : ((fun (x : Bool) (w : World) => (x = false → w = wq.drew) ∧ (x = true → R w))) false w' := by have h := hS; rw [hq 7 (by kernel_rfl)] at h; exact h
      refine wpOp_of rfl rfl ?_
      have z : w'.cell? ⟨g, 0, none⟩ = some (.pointer (some a0)) := by rw [hT.1 rfl]; exact c0
      refine op_run (v := .pointer (some a0)) (w' := w') ?_ ⟨_, rfl, ?_, (by show ((fun (x : Bool) (w : World) => (x = false → w = wq.drew) ∧ (x = true → R w))) _ _; rw [updL_other l (show 7 ≠ 2 by decide)]; rw [hq 7 (by kernel_rfl)]; exact hT)⟩
      · simp only [execOp, Act.eval, d1, z]; first | (go_simp; done) | rfl
      · try dsimp only
        exact (slots_put (ns := 198) (hsa.size.trans rfl) (by decide))
    | 3, ho, hl, hr, hq =>
      obtain rfl := Option.some.inj ho
      try dsimp only at hd
      have g1 : a'.tmps.getD 1 undef = .slice (some ⟨tb, tf, none⟩) n cp := hsa.rest 1 (by rfl)
      have hT : ((fun (x : Bool) (w : World) => (x = false → w = wq.drew) ∧ (x = true → R w))) false w' := by have h := hS; rw [hq 7 (by kernel_rfl)] at h; exact h
      refine wpOp_of rfl rfl ?_
      refine op_run (v := .slice (some ⟨tb, tf, none⟩) n cp) (w' := w') ?_ ⟨_, rfl, ?_, (by show ((fun (x : Bool) (w : World) => (x = false → w = wq.drew) ∧ (x = true → R w))) _ _; rw [updL_other l (show 7 ≠ 3 by decide)]; rw [hq 7 (by kernel_rfl)]; exact hT)⟩
      · simp only [execOp, Act.eval, g1]; first | (go_simp; done) | rfl
      · try dsimp only
        exact (slots_put (ns := 198) (hsa.size.trans rfl) (by decide))
    | 4, ho, hl, hr, hq =>
      obtain rfl := Option.some.inj ho
      try dsimp only at hd
      have g15 : a'.tmps.getD 15 undef = .int .i64 (k : Int) := hsa.rest 15 (by rfl)
      have hT : ((fun (x : Bool) (w : World) => (x = false → w = wq.drew) ∧ (x = true → R w))) false w' := by have h := hS; rw [hq 7 (by kernel_rfl)] at h; exact h
      refine wpOp_of rfl rfl ?_
      refine op_run (v := .int .i64 (k : Int)) (w' := w') ?_ ⟨_, rfl, ?_, (by show ((fun (x : Bool) (w : World) => (x = false → w = wq.drew) ∧ (x = true → R w))) _ _; rw [updL_other l (show 7 ≠ 4 by decide)]; rw [hq 7 (by kernel_rfl)]; exact hT)⟩
      · simp only [execOp, Act.eval, g15]; first | (go_simp; done) | rfl
      · try dsimp only
        exact (slots_put (ns := 198) (hsa.size.trans rfl) (by decide))
    | 5, ho, hl, hr, hq =>
      obtain rfl := Option.some.inj ho
      try dsimp only at hd
      have d3 : a'.tmps.getD 73 undef = .slice (some ⟨tb, tf, none⟩) n cp := hd 3 (by rfl)
      have d4 : a'.tmps.getD 74 undef = .int .i64 (k : Int) := hd 4 (by rfl)
      have hT : ((fun (x : Bool) (w : World) => (x = false → w = wq.drew) ∧ (x = true → R w))) false w' := by have h := hS; rw [hq 7 (by kernel_rfl)] at h; exact h
      refine wpOp_of rfl rfl ?_
      refine op_run (v := .pointer (some ⟨tb, tf + k, none⟩)) (w' := w') ?_ ⟨_, rfl, ?_, (by show ((fun (x : Bool) (w : World) => (x = false → w = wq.drew) ∧ (x = true → R w))) _ _; rw [updL_other l (show 7 ≠ 5 by decide)]; rw [hq 7 (by kernel_rfl)]; exact hT)⟩
      · simp only [execOp, Act.eval, d3, d4]; first | (go_simp; done) | rfl
      · try dsimp only
        exact (slots_put (ns := 198) (hsa.size.trans rfl) (by decide))
    | 6, ho, hl, hr, hq =>
      obtain rfl := Option.some.inj ho
      try dsimp only at hd
      have d5 : a'.tmps.getD 75 undef = .pointer (some ⟨tb, tf + k, none⟩) := hd 5 (by rfl)
      have hT : ((fun (x : Bool) (w : World) => (x = false → w = wq.drew) ∧ (x = true → R w))) false w' := by have h := hS; rw [hq 7 (by kernel_rfl)] at h; exact h
      refine wpOp_of rfl rfl ?_
      have z : w'.cell? ⟨tb, tf + k, none⟩ = some (.string s) := by rw [hT.1 rfl]; exact c1
      refine op_run (v := .string s) (w' := w') ?_ ⟨_, rfl, ?_, (by show ((fun (x : Bool) (w : World) => (x = false → w = wq.drew) ∧ (x = true → R w))) _ _; rw [updL_other l (show 7 ≠ 6 by decide)]; rw [hq 7 (by kernel_rfl)]; exact hT)⟩
      · simp only [execOp, Act.eval, d5, z]; first | (go_simp; done) | rfl
      · try dsimp only
        exact (slots_put (ns := 198) (hsa.size.trans rfl) (by decide))
    | 7, ho, hl, hr, hq =>
      obtain rfl := Option.some.inj ho
      try dsimp only at hd
      have d2 : a'.tmps.getD 72 undef = .pointer (some a0) := hd 2 (by rfl)
      have d6 : a'.tmps.getD 76 undef = .string s := hd 6 (by rfl)
      have hT : ((fun (x : Bool) (w : World) => (x = false → w = wq.drew) ∧ (x = true → R w))) false w' := by have h := hS; rw [hl] at h; exact h
      refine wpOp_of rfl rfl ?_
      obtain rfl := hT.1 rfl
      refine op_call 13 _ _ rfl (enters_of Try.func13 (by kernel_rfl) rfl) [.pointer (some a0), .string s] (by simp only [List.map, Act.eval, d2, d6]) HE.out ?_
      rintro e w'' ⟨rfl, r1⟩
      refine ⟨_, rfl, _, rfl, (slots_put (ns := 198) (hsa.size.trans rfl) (by decide)), (by show ((fun (x : Bool) (w : World) => (x = false → w = wq.drew) ∧ (x = true → R w))) _ _; rw [updL_same]; exact ⟨(fun e => by cases e), fun _ => r1⟩)⟩
    | 8, ho, hl, hr, hq =>
      obtain rfl := Option.some.inj ho
      try dsimp only at hd
      have d7 : a'.tmps.getD 77 undef = .tuple #[.int .i64 x, .int .i64 y] := hd 7 (by rfl)
      have hT : ((fun (x : Bool) (w : World) => (x = false → w = wq.drew) ∧ (x = true → R w))) true w' := by have h := hS; rw [hr 7 (by kernel_rfl)] at h; exact h
      refine wpOp_of rfl rfl ?_
      refine op_run (v := .tuple #[.int .i64 x, .int .i64 y]) (w' := w') ?_ ⟨_, rfl, ?_, (by show ((fun (x : Bool) (w : World) => (x = false → w = wq.drew) ∧ (x = true → R w))) _ _; rw [updL_other l (show 7 ≠ 8 by decide)]; rw [hr 7 (by kernel_rfl)]; exact hT)⟩
      · simp only [execOp, Act.eval, d7]; first | (go_simp; done) | rfl
      · try dsimp only
        exact (slots_put (ns := 198) (hsa.size.trans rfl) (by decide))
    | 9, ho, hl, hr, hq =>
      obtain rfl := Option.some.inj ho
      try dsimp only at hd
      have d8 : a'.tmps.getD 69 undef = .tuple #[.int .i64 x, .int .i64 y] := hd 8 (by rfl)
      have hT : ((fun (x : Bool) (w : World) => (x = false → w = wq.drew) ∧ (x = true → R w))) true w' := by have h := hS; rw [hr 7 (by kernel_rfl)] at h; exact h
      refine wpOp_of rfl rfl ?_
      refine op_run (v := .int .i64 x) (w' := w') ?_ ⟨_, rfl, ?_, (by show ((fun (x : Bool) (w : World) => (x = false → w = wq.drew) ∧ (x = true → R w))) _ _; rw [updL_other l (show 7 ≠ 9 by decide)]; rw [hr 7 (by kernel_rfl)]; exact hT)⟩
      · simp only [execOp, Act.eval, d8]; first | (go_simp; done) | rfl
      · try dsimp only
        exact (slots_put (ns := 198) (hsa.size.trans rfl) (by decide))
    | 10, ho, hl, hr, hq =>
      obtain rfl := Option.some.inj ho
      try dsimp only at hd
      have d8 : a'.tmps.getD 69 undef = .tuple #[.int .i64 x, .int .i64 y] := hd 8 (by rfl)
      have hT : ((fun (x : Bool) (w : World) => (x = false → w = wq.drew) ∧ (x = true → R w))) true w' := by have h := hS; rw [hr 7 (by kernel_rfl)] at h; exact h
      refine wpOp_of rfl rfl ?_
      refine op_run (v := .int .i64 y) (w' := w') ?_ ⟨_, rfl, ?_, (by show ((fun (x : Bool) (w : World) => (x = false → w = wq.drew) ∧ (x = true → R w))) _ _; rw [updL_other l (show 7 ≠ 10 by decide)]; rw [hr 7 (by kernel_rfl)]; exact hT)⟩
      · simp only [execOp, Act.eval, d8]; first | (go_simp; done) | rfl
      · try dsimp only
        exact (slots_put (ns := 198) (hsa.size.trans rfl) (by decide))
    | 11, ho, hl, hr, hq =>
      obtain rfl := Option.some.inj ho
      try dsimp only at hd
      have d9 : a'.tmps.getD 78 undef = .int .i64 x := hd 9 (by rfl)
      have hT : ((fun (x : Bool) (w : World) => (x = false → w = wq.drew) ∧ (x = true → R w))) true w' := by have h := hS; rw [hr 7 (by kernel_rfl)] at h; exact h
      refine wpOp_of rfl rfl ?_
      refine op_run (v := .int .i64 x) (w' := w') ?_ ⟨_, rfl, ?_, (by show ((fun (x : Bool) (w : World) => (x = false → w = wq.drew) ∧ (x = true → R w))) _ _; rw [updL_other l (show 7 ≠ 11 by decide)]; rw [hr 7 (by kernel_rfl)]; exact hT)⟩
      · simp only [execOp, Act.eval, d9]; first | (go_simp; done) | rfl
      · try dsimp only
        exact (slots_put (ns := 198) (hsa.size.trans rfl) (by decide))
    | 12, ho, hl, hr, hq =>
      obtain rfl := Option.some.inj ho
      try dsimp only at hd
      have d10 : a'.tmps.getD 79 undef = .int .i64 y := hd 10 (by rfl)
      have hT : ((fun (x : Bool) (w : World) => (x = false → w = wq.drew) ∧ (x = true → R w))) true w' := by have h := hS; rw [hr 7 (by kernel_rfl)] at h; exact h
      refine wpOp_of rfl rfl ?_
      refine op_run (v := .int .i64 y) (w' := w') ?_ ⟨_, rfl, ?_, (by show ((fun (x : Bool) (w : World) => (x = false → w = wq.drew) ∧ (x = true → R w))) _ _; rw [updL_other l (show 7 ≠ 12 by decide)]; rw [hr 7 (by kernel_rfl)]; exact hT)⟩
      · simp only [execOp, Act.eval, d10]; first | (go_simp; done) | rfl
      · try dsimp only
        exact (slots_put (ns := 198) (hsa.size.trans rfl) (by decide))
    | (n + 13), ho, _, _, _ => exact absurd ho (by simp)
  case pdone =>
    intro a' w' l hl hsa hS hd
    have hT : ((fun (x : Bool) (w : World) => (x = false → w = wq.drew) ∧ (x = true → R w))) true w' := by have h := hS; rw [hl 7 (by decide)] at h; exact h
    have d0 : a'.tmps.getD 70 undef = .slice (some ⟨g, 0, none⟩) m oc := hd 0 (by decide)
    have d1 : a'.tmps.getD 71 undef = .pointer (some ⟨g, 0, none⟩) := hd 1 (by decide)
    have d2 : a'.tmps.getD 72 undef = .pointer (some a0) := hd 2 (by decide)
    have d3 : a'.tmps.getD 73 undef = .slice (some ⟨tb, tf, none⟩) n cp := hd 3 (by decide)
    have d4 : a'.tmps.getD 74 undef = .int .i64 (k : Int) := hd 4 (by decide)
    have d5 : a'.tmps.getD 75 undef = .pointer (some ⟨tb, tf + k, none⟩) := hd 5 (by decide)
    have d6 : a'.tmps.getD 76 undef = .string s := hd 6 (by decide)
    have d7 : a'.tmps.getD 77 undef = .tuple #[.int .i64 x, .int .i64 y] := hd 7 (by decide)
    have d8 : a'.tmps.getD 69 undef = .tuple #[.int .i64 x, .int .i64 y] := hd 8 (by decide)
    have d9 : a'.tmps.getD 78 undef = .int .i64 x := hd 9 (by decide)
    have d10 : a'.tmps.getD 79 undef = .int .i64 y := hd 10 (by decide)
    have d11 : a'.tmps.getD 16 undef = .int .i64 x := hd 11 (by decide)
    have d12 : a'.tmps.getD 17 undef = .int .i64 y := hd 12 (by decide)
    exact HQ.out a' w' ⟨hsa.size.trans rfl, hsa.defers.trans rfl, hsa.rest 0 (by rfl), hsa.rest 1 (by rfl), hsa.rest 4 (by rfl), hsa.rest 5 (by rfl), hsa.rest 6 (by rfl), hsa.rest 7 (by rfl), hsa.rest 8 (by rfl), hsa.rest 9 (by rfl), hsa.rest 10 (by rfl), hsa.rest 11 (by rfl), hsa.rest 12 (by rfl), hsa.rest 13 (by rfl), hsa.rest 14 (by rfl), hsa.rest 15 (by rfl), d11, d12, hsa.rest 18 (by rfl), hsa.rest 19 (by rfl), hsa.rest 20 (by rfl), hsa.rest 21 (by rfl), hsa.rest 22 (by rfl), hsa.rest 23 (by rfl), hsa.rest 24 (by rfl)⟩ (hT.2 rfl)
set_option maxHeartbeats 8000000 in
set_option maxRecDepth 100000 in
theorem en_r22 {K : Act → World → Prop} {c : Code} (hc : regOf (Try.f5.body.getD .skip) 22 = some c) (a : Act) {v : Ven} {wq : World} {tb tf n cp k : Nat} {s : ByteArray} {b : Int} (hF : Fen a v) (h13v : v.v13 = .int .i64 b) (h1v : v.v1 = .slice (some ⟨tb, tf, none⟩) n cp) (h15v : v.v15 = .int .i64 (k : Int)) (hkn : k < n) (c1 : wq.cell? ⟨tb, tf + k, none⟩ = some (.string s)) (hb0 : 0 ≤ b) (hb1 : b ≤ 45000) (hs : s.size ≤ 140737488355328) (hQ : ∀ a', Fen a' { v with v18 := .bool (decide (b + (s.size : Int) + 4 ≤ 45000)) } → K a' wq) :
    Code.wp Try.prog c (Exit.then K fun _ _ _ => False) a wq := by
  have HQ := hide hQ
  clear hQ
  obtain ⟨t', d'⟩ := a
  obtain ⟨v0, v1, v4, v5, v6, v7, v8, v9, v10, v11, v12, v13, v14, v15, v16, v17, v18, v19, v20, v21, v22, v23, v24⟩ := v
  simp only at h13v h1v h15v HQ
  subst h13v h1v h15v
  obtain ⟨hs1, hd1, q0, q1, q4, q5, q6, q7, q8, q9, q10, q11, q12, q13, q14, q15, q16, q17, q18, q19, q20, q21, q22, q23, q24⟩ := hF
  obtain ⟨u, hu⟩ := frame_en t' hs1
  simp only at hd1 q0 q1 q4 q5 q6 q7 q8 q9 q10 q11 q12 q13 q14 q15 q16 q17 q18 q19 q20 q21 q22 q23 q24
  subst hu hd1
  have e0 : u 0 = v0 := q0
  have e1 : u 1 = .slice (some ⟨tb, tf, none⟩) n cp := q1
  have e4 : u 4 = v4 := q4
  have e5 : u 5 = v5 := q5
  have e6 : u 6 = v6 := q6
  have e7 : u 7 = v7 := q7
  have e8 : u 8 = v8 := q8
  have e9 : u 9 = v9 := q9
  have e10 : u 10 = v10 := q10
  have e11 : u 11 = v11 := q11
  have e12 : u 12 = v12 := q12
  have e13 : u 13 = .int .i64 b := q13
  have e14 : u 14 = v14 := q14
  have e15 : u 15 = .int .i64 (k : Int) := q15
  have e16 : u 16 = v16 := q16
  have e17 : u 17 = v17 := q17
  have e18 : u 18 = v18 := q18
  have e19 : u 19 = v19 := q19
  have e20 : u 20 = v20 := q20
  have e21 : u 21 = v21 := q21
  have e22 : u 22 = v22 := q22
  have e23 : u 23 = v23 := q23
  have e24 : u 24 = v24 := q24
  rw [e0, e1, e4, e5, e6, e7, e8, e9, e10, e11, e12, e13, e14, e15, e16, e17, e18, e19, e20, e21, e22, e23, e24]
  clear q0 e0 q1 e1 q4 e4 q5 e5 q6 e6 q7 e7 q8 e8 q9 e9 q10 e10 q11 e11 q12 e12 q13 e13 q14 e14 q15 e15 q16 e16 q17 e17 q18 e18 q19 e19 q20 e20 q21 e21 q22 e22 q23 e23 q24 e24 hs1
  simp only [Try.f5, Option.getD_some, regOf] at hc
  injection hc with hc
  subst hc
  have j0 : (0 : Int) ≤ (k : Int) := by omega
  have j1 : (k : Int) < (n : Int) := by omega
  go_wp2
  exact HQ.out _ ⟨rfl, rfl, rfl, rfl, rfl, rfl, rfl, rfl, rfl, rfl, rfl, rfl, rfl, rfl, rfl, rfl, rfl, rfl, rfl, rfl, rfl, rfl, rfl, rfl, rfl⟩
set_option maxHeartbeats 8000000 in
set_option maxRecDepth 100000 in
theorem en_r23y {K : Act → World → Prop} {c : Code} (hc : regOf (Try.f5.body.getD .skip) 23 = some c) (a : Act) {v : Ven} {wq : World} {x : Int} (hF : Fen a v) (h17v : v.v17 = .int .i64 0) (h18v : v.v18 = .bool true) (h16v : v.v16 = .int .i64 x) (h14v : v.v14 = .int .i64 x) (hQ : ∀ a', Fen a' v → a'.tmps.getD 100 undef = .bool false → K a' wq) :
    Code.wp Try.prog c (Exit.then K fun _ _ _ => False) a wq := by
  have HQ := hide hQ
  clear hQ
  obtain ⟨t', d'⟩ := a
  obtain ⟨v0, v1, v4, v5, v6, v7, v8, v9, v10, v11, v12, v13, v14, v15, v16, v17, v18, v19, v20, v21, v22, v23, v24⟩ := v
  simp only at h17v h18v h16v h14v HQ
  subst h17v h18v h16v h14v
  obtain ⟨hs1, hd1, q0, q1, q4, q5, q6, q7, q8, q9, q10, q11, q12, q13, q14, q15, q16, q17, q18, q19, q20, q21, q22, q23, q24⟩ := hF
  obtain ⟨u, hu⟩ := frame_en t' hs1
  simp only at hd1 q0 q1 q4 q5 q6 q7 q8 q9 q10 q11 q12 q13 q14 q15 q16 q17 q18 q19 q20 q21 q22 q23 q24
  subst hu hd1
  have e0 : u 0 = v0 := q0
  have e1 : u 1 = v1 := q1
  have e4 : u 4 = v4 := q4
  have e5 : u 5 = v5 := q5
  have e6 : u 6 = v6 := q6
  have e7 : u 7 = v7 := q7
  have e8 : u 8 = v8 := q8
  have e9 : u 9 = v9 := q9
  have e10 : u 10 = v10 := q10
  have e11 : u 11 = v11 := q11
  have e12 : u 12 = v12 := q12
  have e13 : u 13 = v13 := q13
  have e14 : u 14 = .int .i64 x := q14
  have e15 : u 15 = v15 := q15
  have e16 : u 16 = .int .i64 x := q16
  have e17 : u 17 = .int .i64 0 := q17
  have e18 : u 18 = .bool true := q18
  have e19 : u 19 = v19 := q19
  have e20 : u 20 = v20 := q20
  have e21 : u 21 = v21 := q21
  have e22 : u 22 = v22 := q22
  have e23 : u 23 = v23 := q23
  have e24 : u 24 = v24 := q24
  rw [e0, e1, e4, e5, e6, e7, e8, e9, e10, e11, e12, e13, e14, e15, e16, e17, e18, e19, e20, e21, e22, e23, e24]
  clear q0 e0 q1 e1 q4 e4 q5 e5 q6 e6 q7 e7 q8 e8 q9 e9 q10 e10 q11 e11 q12 e12 q13 e13 q14 e14 q15 e15 q16 e16 q17 e17 q18 e18 q19 e19 q20 e20 q21 e21 q22 e22 q23 e23 q24 e24 hs1
  simp only [Try.f5, Option.getD_some, regOf] at hc
  injection hc with hc
  subst hc
  go_wp2
  exact HQ.out _ ⟨rfl, rfl, rfl, rfl, rfl, rfl, rfl, rfl, rfl, rfl, rfl, rfl, rfl, rfl, rfl, rfl, rfl, rfl, rfl, rfl, rfl, rfl, rfl, rfl, rfl⟩ (by first | rfl | (simp; done))
set_option maxHeartbeats 8000000 in
set_option maxRecDepth 100000 in
theorem en_r23n {K : Act → World → Prop} {c : Code} (hc : regOf (Try.f5.body.getD .skip) 23 = some c) (a : Act) {v : Ven} {wq : World}  (hF : Fen a v) (h17v : v.v17 = .int .i64 8) (h18v : v.v18 = .bool false) (hQ : ∀ a', Fen a' v → a'.tmps.getD 100 undef = .bool false → K a' wq) :
    Code.wp Try.prog c (Exit.then K fun _ _ _ => False) a wq := by
  have HQ := hide hQ
  clear hQ
  obtain ⟨t', d'⟩ := a
  obtain ⟨v0, v1, v4, v5, v6, v7, v8, v9, v10, v11, v12, v13, v14, v15, v16, v17, v18, v19, v20, v21, v22, v23, v24⟩ := v
  simp only at h17v h18v HQ
  subst h17v h18v
  obtain ⟨hs1, hd1, q0, q1, q4, q5, q6, q7, q8, q9, q10, q11, q12, q13, q14, q15, q16, q17, q18, q19, q20, q21, q22, q23, q24⟩ := hF
  obtain ⟨u, hu⟩ := frame_en t' hs1
  simp only at hd1 q0 q1 q4 q5 q6 q7 q8 q9 q10 q11 q12 q13 q14 q15 q16 q17 q18 q19 q20 q21 q22 q23 q24
  subst hu hd1
  have e0 : u 0 = v0 := q0
  have e1 : u 1 = v1 := q1
  have e4 : u 4 = v4 := q4
  have e5 : u 5 = v5 := q5
  have e6 : u 6 = v6 := q6
  have e7 : u 7 = v7 := q7
  have e8 : u 8 = v8 := q8
  have e9 : u 9 = v9 := q9
  have e10 : u 10 = v10 := q10
  have e11 : u 11 = v11 := q11
  have e12 : u 12 = v12 := q12
  have e13 : u 13 = v13 := q13
  have e14 : u 14 = v14 := q14
  have e15 : u 15 = v15 := q15
  have e16 : u 16 = v16 := q16
  have e17 : u 17 = .int .i64 8 := q17
  have e18 : u 18 = .bool false := q18
  have e19 : u 19 = v19 := q19
  have e20 : u 20 = v20 := q20
  have e21 : u 21 = v21 := q21
  have e22 : u 22 = v22 := q22
  have e23 : u 23 = v23 := q23
  have e24 : u 24 = v24 := q24
  rw [e0, e1, e4, e5, e6, e7, e8, e9, e10, e11, e12, e13, e14, e15, e16, e17, e18, e19, e20, e21, e22, e23, e24]
  clear q0 e0 q1 e1 q4 e4 q5 e5 q6 e6 q7 e7 q8 e8 q9 e9 q10 e10 q11 e11 q12 e12 q13 e13 q14 e14 q15 e15 q16 e16 q17 e17 q18 e18 q19 e19 q20 e20 q21 e21 q22 e22 q23 e23 q24 e24 hs1
  simp only [Try.f5, Option.getD_some, regOf] at hc
  injection hc with hc
  subst hc
  go_wp2
  exact HQ.out _ ⟨rfl, rfl, rfl, rfl, rfl, rfl, rfl, rfl, rfl, rfl, rfl, rfl, rfl, rfl, rfl, rfl, rfl, rfl, rfl, rfl, rfl, rfl, rfl, rfl, rfl⟩ (by first | rfl | (simp; done))
set_option maxHeartbeats 8000000 in
set_option maxRecDepth 100000 in
theorem en_r25 {K : Act → World → Prop} {c : Code} (hc : regOf (Try.f5.body.getD .skip) 25 = some c) (a : Act) {v : Ven} {wq : World} {r : Bool} (hF : Fen a v) (h18v : v.v18 = .bool r) (hQ : ∀ a', Fen a' v → a'.tmps.getD 101 undef = .bool r → K a' wq) :
    Code.wp Try.prog c (Exit.then K fun _ _ _ => False) a wq := by
  have HQ := hide hQ
  clear hQ
  obtain ⟨t', d'⟩ := a
  obtain ⟨v0, v1, v4, v5, v6, v7, v8, v9, v10, v11, v12, v13, v14, v15, v16, v17, v18, v19, v20, v21, v22, v23, v24⟩ := v
  simp only at h18v HQ
  subst h18v
  obtain ⟨hs1, hd1, q0, q1, q4, q5, q6, q7, q8, q9, q10, q11, q12, q13, q14, q15, q16, q17, q18, q19, q20, q21, q22, q23, q24⟩ := hF
  obtain ⟨u, hu⟩ := frame_en t' hs1
  simp only at hd1 q0 q1 q4 q5 q6 q7 q8 q9 q10 q11 q12 q13 q14 q15 q16 q17 q18 q19 q20 q21 q22 q23 q24
  subst hu hd1
  have e0 : u 0 = v0 := q0
  have e1 : u 1 = v1 := q1
  have e4 : u 4 = v4 := q4
  have e5 : u 5 = v5 := q5
  have e6 : u 6 = v6 := q6
  have e7 : u 7 = v7 := q7
  have e8 : u 8 = v8 := q8
  have e9 : u 9 = v9 := q9
  have e10 : u 10 = v10 := q10
  have e11 : u 11 = v11 := q11
  have e12 : u 12 = v12 := q12
  have e13 : u 13 = v13 := q13
  have e14 : u 14 = v14 := q14
  have e15 : u 15 = v15 := q15
  have e16 : u 16 = v16 := q16
  have e17 : u 17 = v17 := q17
  have e18 : u 18 = .bool r := q18
  have e19 : u 19 = v19 := q19
  have e20 : u 20 = v20 := q20
  have e21 : u 21 = v21 := q21
  have e22 : u 22 = v22 := q22
  have e23 : u 23 = v23 := q23
  have e24 : u 24 = v24 := q24
  rw [e0, e1, e4, e5, e6, e7, e8, e9, e10, e11, e12, e13, e14, e15, e16, e17, e18, e19, e20, e21, e22, e23, e24]
  clear q0 e0 q1 e1 q4 e4 q5 e5 q6 e6 q7 e7 q8 e8 q9 e9 q10 e10 q11 e11 q12 e12 q13 e13 q14 e14 q15 e15 q16 e16 q17 e17 q18 e18 q19 e19 q20 e20 q21 e21 q22 e22 q23 e23 q24 e24 hs1
  simp only [Try.f5, Option.getD_some, regOf] at hc
  injection hc with hc
  subst hc
  go_wp2
  exact HQ.out _ ⟨rfl, rfl, rfl, rfl, rfl, rfl, rfl, rfl, rfl, rfl, rfl, rfl, rfl, rfl, rfl, rfl, rfl, rfl, rfl, rfl, rfl, rfl, rfl, rfl, rfl⟩ (by first | rfl | (simp; done))
set_option maxHeartbeats 8000000 in
set_option maxRecDepth 100000 in
theorem en_r26 {K : Act → World → Prop} {c : Code} (hc : regOf (Try.f5.body.getD .skip) 26 = some c) (a : Act) {v : Ven} {wq : World} {tb tf n cp k : Nat} {s : ByteArray} {b : Int} (hF : Fen a v) (h13v : v.v13 = .int .i64 b) (h1v : v.v1 = .slice (some ⟨tb, tf, none⟩) n cp) (h15v : v.v15 = .int .i64 (k : Int)) (hkn : k < n) (c1 : wq.cell? ⟨tb, tf + k, none⟩ = some (.string s)) (hb0 : 0 ≤ b) (hb1 : b ≤ 45000) (hs : s.size ≤ 140737488355328) (hQ : ∀ a', Fen a' { v with v13 := .int .i64 (b + (s.size : Int) + 4) } → K a' wq) :
    Code.wp Try.prog c (Exit.then K fun _ _ _ => False) a wq := by
  have HQ := hide hQ
  clear hQ
  obtain ⟨t', d'⟩ := a
  obtain ⟨v0, v1, v4, v5, v6, v7, v8, v9, v10, v11, v12, v13, v14, v15, v16, v17, v18, v19, v20, v21, v22, v23, v24⟩ := v
  simp only at h13v h1v h15v HQ
  subst h13v h1v h15v
  obtain ⟨hs1, hd1, q0, q1, q4, q5, q6, q7, q8, q9, q10, q11, q12, q13, q14, q15, q16, q17, q18, q19, q20, q21, q22, q23, q24⟩ := hF
  obtain ⟨u, hu⟩ := frame_en t' hs1
  simp only at hd1 q0 q1 q4 q5 q6 q7 q8 q9 q10 q11 q12 q13 q14 q15 q16 q17 q18 q19 q20 q21 q22 q23 q24
  subst hu hd1
  have e0 : u 0 = v0 := q0
  have e1 : u 1 = .slice (some ⟨tb, tf, none⟩) n cp := q1
  have e4 : u 4 = v4 := q4
  have e5 : u 5 = v5 := q5
  have e6 : u 6 = v6 := q6
  have e7 : u 7 = v7 := q7
  have e8 : u 8 = v8 := q8
  have e9 : u 9 = v9 := q9
  have e10 : u 10 = v10 := q10
  have e11 : u 11 = v11 := q11
  have e12 : u 12 = v12 := q12
  have e13 : u 13 = .int .i64 b := q13
  have e14 : u 14 = v14 := q14
  have e15 : u 15 = .int .i64 (k : Int) := q15
  have e16 : u 16 = v16 := q16
  have e17 : u 17 = v17 := q17
  have e18 : u 18 = v18 := q18
  have e19 : u 19 = v19 := q19
  have e20 : u 20 = v20 := q20
  have e21 : u 21 = v21 := q21
  have e22 : u 22 = v22 := q22
  have e23 : u 23 = v23 := q23
  have e24 : u 24 = v24 := q24
  rw [e0, e1, e4, e5, e6, e7, e8, e9, e10, e11, e12, e13, e14, e15, e16, e17, e18, e19, e20, e21, e22, e23, e24]
  clear q0 e0 q1 e1 q4 e4 q5 e5 q6 e6 q7 e7 q8 e8 q9 e9 q10 e10 q11 e11 q12 e12 q13 e13 q14 e14 q15 e15 q16 e16 q17 e17 q18 e18 q19 e19 q20 e20 q21 e21 q22 e22 q23 e23 q24 e24 hs1
  simp only [Try.f5, Option.getD_some, regOf] at hc
  injection hc with hc
  subst hc
  have j0 : (0 : Int) ≤ (k : Int) := by omega
  have j1 : (k : Int) < (n : Int) := by omega
  go_wp2
  exact HQ.out _ ⟨rfl, rfl, rfl, rfl, rfl, rfl, rfl, rfl, rfl, rfl, rfl, rfl, rfl, rfl, rfl, rfl, rfl, rfl, rfl, rfl, rfl, rfl, rfl, rfl, rfl⟩
set_option maxHeartbeats 8000000 in
set_option maxRecDepth 100000 in
theorem en_r27 {K : Act → World → Prop} {c : Code} (hc : regOf (Try.f5.body.getD .skip) 27 = some c) (a : Act) {v : Ven} {wq : World} {k : Nat} (hF : Fen a v) (h14v : v.v14 = .int .i64 (k : Int)) (hk : k ≤ 1000000) (hQ : ∀ a', Fen a' { v with v14 := .int .i64 ((k + 1 : Nat) : Int) } → K a' wq) :
    Code.wp Try.prog c (Exit.then K fun _ _ _ => False) a wq := by
  have HQ := hide hQ
  clear hQ
  obtain ⟨t', d'⟩ := a
  obtain ⟨v0, v1, v4, v5, v6, v7, v8, v9, v10, v11, v12, v13, v14, v15, v16, v17, v18, v19, v20, v21, v22, v23, v24⟩ := v
  simp only at h14v HQ
  subst h14v
  obtain ⟨hs1, hd1, q0, q1, q4, q5, q6, q7, q8, q9, q10, q11, q12, q13, q14, q15, q16, q17, q18, q19, q20, q21, q22, q23, q24⟩ := hF
  obtain ⟨u, hu⟩ := frame_en t' hs1
  simp only at hd1 q0 q1 q4 q5 q6 q7 q8 q9 q10 q11 q12 q13 q14 q15 q16 q17 q18 q19 q20 q21 q22 q23 q24
  subst hu hd1
  have e0 : u 0 = v0 := q0
  have e1 : u 1 = v1 := q1
  have e4 : u 4 = v4 := q4
  have e5 : u 5 = v5 := q5
  have e6 : u 6 = v6 := q6
  have e7 : u 7 = v7 := q7
  have e8 : u 8 = v8 := q8
  have e9 : u 9 = v9 := q9
  have e10 : u 10 = v10 := q10
  have e11 : u 11 = v11 := q11
  have e12 : u 12 = v12 := q12
  have e13 : u 13 = v13 := q13
  have e14 : u 14 = .int .i64 (k : Int) := q14
  have e15 : u 15 = v15 := q15
  have e16 : u 16 = v16 := q16
  have e17 : u 17 = v17 := q17
  have e18 : u 18 = v18 := q18
  have e19 : u 19 = v19 := q19
  have e20 : u 20 = v20 := q20
  have e21 : u 21 = v21 := q21
  have e22 : u 22 = v22 := q22
  have e23 : u 23 = v23 := q23
  have e24 : u 24 = v24 := q24
  rw [e0, e1, e4, e5, e6, e7, e8, e9, e10, e11, e12, e13, e14, e15, e16, e17, e18, e19, e20, e21, e22, e23, e24]
  clear q0 e0 q1 e1 q4 e4 q5 e5 q6 e6 q7 e7 q8 e8 q9 e9 q10 e10 q11 e11 q12 e12 q13 e13 q14 e14 q15 e15 q16 e16 q17 e17 q18 e18 q19 e19 q20 e20 q21 e21 q22 e22 q23 e23 q24 e24 hs1
  simp only [Try.f5, Option.getD_some, regOf] at hc
  injection hc with hc
  subst hc
  have hc : ((k + 1 : Nat) : Int) = (k : Int) + 1 := by omega
  rw [hc] at HQ
  go_wp2
  exact HQ.out _ ⟨rfl, rfl, rfl, rfl, rfl, rfl, rfl, rfl, rfl, rfl, rfl, rfl, rfl, rfl, rfl, rfl, rfl, rfl, rfl, rfl, rfl, rfl, rfl, rfl, rfl⟩
set_option maxHeartbeats 8000000 in
set_option maxRecDepth 100000 in
theorem en_r20 {K : Act → World → Prop} {c : Code} (hc : regOf (Try.f5.body.getD .skip) 20 = some c) (a : Act) {v : Ven} {wq : World} {k : Nat} (hF : Fen a v) (h15v : v.v15 = .int .i64 (k : Int)) (hk : k ≤ 1000000) (hQ : ∀ a', Fen a' { v with v15 := .int .i64 ((k + 1 : Nat) : Int) } → K a' wq) :
    Code.wp Try.prog c (Exit.then K fun _ _ _ => False) a wq := by
  have HQ := hide hQ
  clear hQ
  obtain ⟨t', d'⟩ := a
  obtain ⟨v0, v1, v4, v5, v6, v7, v8, v9, v10, v11, v12, v13, v14, v15, v16, v17, v18, v19, v20, v21, v22, v23, v24⟩ := v
  simp only at h15v HQ
  subst h15v
  obtain ⟨hs1, hd1, q0, q1, q4, q5, q6, q7, q8, q9, q10, q11, q12, q13, q14, q15, q16, q17, q18, q19, q20, q21, q22, q23, q24⟩ := hF
  obtain ⟨u, hu⟩ := frame_en t' hs1
  simp only at hd1 q0 q1 q4 q5 q6 q7 q8 q9 q10 q11 q12 q13 q14 q15 q16 q17 q18 q19 q20 q21 q22 q23 q24
  subst hu hd1
  have e0 : u 0 = v0 := q0
  have e1 : u 1 = v1 := q1
  have e4 : u 4 = v4 := q4
  have e5 : u 5 = v5 := q5
  have e6 : u 6 = v6 := q6
  have e7 : u 7 = v7 := q7
  have e8 : u 8 = v8 := q8
  have e9 : u 9 = v9 := q9
  have e10 : u 10 = v10 := q10
  have e11 : u 11 = v11 := q11
  have e12 : u 12 = v12 := q12
  have e13 : u 13 = v13 := q13
  have e14 : u 14 = v14 := q14
  have e15 : u 15 = .int .i64 (k : Int) := q15
  have e16 : u 16 = v16 := q16
  have e17 : u 17 = v17 := q17
  have e18 : u 18 = v18 := q18
  have e19 : u 19 = v19 := q19
  have e20 : u 20 = v20 := q20
  have e21 : u 21 = v21 := q21
  have e22 : u 22 = v22 := q22
  have e23 : u 23 = v23 := q23
  have e24 : u 24 = v24 := q24
  rw [e0, e1, e4, e5, e6, e7, e8, e9, e10, e11, e12, e13, e14, e15, e16, e17, e18, e19, e20, e21, e22, e23, e24]
  clear q0 e0 q1 e1 q4 e4 q5 e5 q6 e6 q7 e7 q8 e8 q9 e9 q10 e10 q11 e11 q12 e12 q13 e13 q14 e14 q15 e15 q16 e16 q17 e17 q18 e18 q19 e19 q20 e20 q21 e21 q22 e22 q23 e23 q24 e24 hs1
  simp only [Try.f5, Option.getD_some, regOf] at hc
  injection hc with hc
  subst hc
  have hc : ((k + 1 : Nat) : Int) = (k : Int) + 1 := by omega
  rw [hc] at HQ
  go_wp2
  exact HQ.out _ ⟨rfl, rfl, rfl, rfl, rfl, rfl, rfl, rfl, rfl, rfl, rfl, rfl, rfl, rfl, rfl, rfl, rfl, rfl, rfl, rfl, rfl, rfl, rfl, rfl, rfl⟩
set_option maxHeartbeats 8000000 in
set_option maxRecDepth 100000 in
theorem en_r28 {K : Act → World → Prop} {c : Code} (hc : regOf (Try.f5.body.getD .skip) 28 = some c) (a : Act) {v : Ven} {wq : World}  (hF : Fen a v) (hQ : ∀ a', Fen a' { v with v19 := .int .i64 ((1 : Nat) : Int) } → K a' wq) :
    Code.wp Try.prog c (Exit.then K fun _ _ _ => False) a wq := by
  have HQ := hide hQ
  clear hQ
  obtain ⟨t', d'⟩ := a
  obtain ⟨v0, v1, v4, v5, v6, v7, v8, v9, v10, v11, v12, v13, v14, v15, v16, v17, v18, v19, v20, v21, v22, v23, v24⟩ := v
  obtain ⟨hs1, hd1, q0, q1, q4, q5, q6, q7, q8, q9, q10, q11, q12, q13, q14, q15, q16, q17, q18, q19, q20, q21, q22, q23, q24⟩ := hF
  obtain ⟨u, hu⟩ := frame_en t' hs1
  simp only at hd1 q0 q1 q4 q5 q6 q7 q8 q9 q10 q11 q12 q13 q14 q15 q16 q17 q18 q19 q20 q21 q22 q23 q24
  subst hu hd1
  have e0 : u 0 = v0 := q0
  have e1 : u 1 = v1 := q1
  have e4 : u 4 = v4 := q4
  have e5 : u 5 = v5 := q5
  have e6 : u 6 = v6 := q6
  have e7 : u 7 = v7 := q7
  have e8 : u 8 = v8 := q8
  have e9 : u 9 = v9 := q9
  have e10 : u 10 = v10 := q10
  have e11 : u 11 = v11 := q11
  have e12 : u 12 = v12 := q12
  have e13 : u 13 = v13 := q13
  have e14 : u 14 = v14 := q14
  have e15 : u 15 = v15 := q15
  have e16 : u 16 = v16 := q16
  have e17 : u 17 = v17 := q17
  have e18 : u 18 = v18 := q18
  have e19 : u 19 = v19 := q19
  have e20 : u 20 = v20 := q20
  have e21 : u 21 = v21 := q21
  have e22 : u 22 = v22 := q22
  have e23 : u 23 = v23 := q23
  have e24 : u 24 = v24 := q24
  rw [e0, e1, e4, e5, e6, e7, e8, e9, e10, e11, e12, e13, e14, e15, e16, e17, e18, e19, e20, e21, e22, e23, e24]
  clear q0 e0 q1 e1 q4 e4 q5 e5 q6 e6 q7 e7 q8 e8 q9 e9 q10 e10 q11 e11 q12 e12 q13 e13 q14 e14 q15 e15 q16 e16 q17 e17 q18 e18 q19 e19 q20 e20 q21 e21 q22 e22 q23 e23 q24 e24 hs1
  simp only [Try.f5, Option.getD_some, regOf] at hc
  injection hc with hc
  subst hc
  go_wp2
  exact HQ.out _ ⟨rfl, rfl, rfl, rfl, rfl, rfl, rfl, rfl, rfl, rfl, rfl, rfl, rfl, rfl, rfl, rfl, rfl, rfl, rfl, rfl, rfl, rfl, rfl, rfl, rfl⟩
set_option maxHeartbeats 8000000 in
set_option maxRecDepth 100000 in
theorem en_r29 {K : Act → World → Prop} {c : Code} (hc : regOf (Try.f5.body.getD .skip) 29 = some c) (a : Act) {v : Ven} {wq : World} {k n : Nat} (hF : Fen a v) (h19v : v.v19 = .int .i64 (k : Int)) (h6v : v.v6 = .int .i64 (n : Int)) (hQ : ∀ a', Fen a' v → a'.tmps.getD 114 undef = .bool (decide ((k : Int) < (n : Int))) → K a' wq) :
    Code.wp Try.prog c (Exit.then K fun _ _ _ => False) a wq := by
  have HQ := hide hQ
  clear hQ
  obtain ⟨t', d'⟩ := a
  obtain ⟨v0, v1, v4, v5, v6, v7, v8, v9, v10, v11, v12, v13, v14, v15, v16, v17, v18, v19, v20, v21, v22, v23, v24⟩ := v
  simp only at h19v h6v HQ
  subst h19v h6v
  obtain ⟨hs1, hd1, q0, q1, q4, q5, q6, q7, q8, q9, q10, q11, q12, q13, q14, q15, q16, q17, q18, q19, q20, q21, q22, q23, q24⟩ := hF
  obtain ⟨u, hu⟩ := frame_en t' hs1
  simp only at hd1 q0 q1 q4 q5 q6 q7 q8 q9 q10 q11 q12 q13 q14 q15 q16 q17 q18 q19 q20 q21 q22 q23 q24
  subst hu hd1
  have e0 : u 0 = v0 := q0
  have e1 : u 1 = v1 := q1
  have e4 : u 4 = v4 := q4
  have e5 : u 5 = v5 := q5
  have e6 : u 6 = .int .i64 (n : Int) := q6
  have e7 : u 7 = v7 := q7
  have e8 : u 8 = v8 := q8
  have e9 : u 9 = v9 := q9
  have e10 : u 10 = v10 := q10
  have e11 : u 11 = v11 := q11
  have e12 : u 12 = v12 := q12
  have e13 : u 13 = v13 := q13
  have e14 : u 14 = v14 := q14
  have e15 : u 15 = v15 := q15
  have e16 : u 16 = v16 := q16
  have e17 : u 17 = v17 := q17
  have e18 : u 18 = v18 := q18
  have e19 : u 19 = .int .i64 (k : Int) := q19
  have e20 : u 20 = v20 := q20
  have e21 : u 21 = v21 := q21
  have e22 : u 22 = v22 := q22
  have e23 : u 23 = v23 := q23
  have e24 : u 24 = v24 := q24
  rw [e0, e1, e4, e5, e6, e7, e8, e9, e10, e11, e12, e13, e14, e15, e16, e17, e18, e19, e20, e21, e22, e23, e24]
  clear q0 e0 q1 e1 q4 e4 q5 e5 q6 e6 q7 e7 q8 e8 q9 e9 q10 e10 q11 e11 q12 e12 q13 e13 q14 e14 q15 e15 q16 e16 q17 e17 q18 e18 q19 e19 q20 e20 q21 e21 q22 e22 q23 e23 q24 e24 hs1
  simp only [Try.f5, Option.getD_some, regOf] at hc
  injection hc with hc
  subst hc
  go_wp2
  exact HQ.out _ ⟨rfl, rfl, rfl, rfl, rfl, rfl, rfl, rfl, rfl, rfl, rfl, rfl, rfl, rfl, rfl, rfl, rfl, rfl, rfl, rfl, rfl, rfl, rfl, rfl, rfl⟩ (by first | rfl | (simp; done))
set_option maxHeartbeats 8000000 in
set_option maxRecDepth 100000 in
theorem en_r31 {K : Act → World → Prop} {c : Code} (hc : regOf (Try.f5.body.getD .skip) 31 = some c) (a : Act) {v : Ven} {wq : World} {R : Option Addr → Nat → World → Prop} {g m oc : Nat} {a0 : Addr} {w n : Nat} {x : Int} (hF : Fen a v) (h9v : v.v9 = .slice (some ⟨g, 0, none⟩) m oc) (h19v : v.v19 = .int .i64 (w : Int)) (hm : 0 < m) (c0 : wq.cell? ⟨g, 0, none⟩ = some (.pointer (some a0))) (hE : Calls Try.prog 21 #[.pointer (some a0), .int .i64 (w : Int), .int .i64 100] wq fun e w' => ∃ (ao : Option Addr) (cp : Nat), e = .returned (.tuple #[.int .i64 x, .slice ao n cp]) ∧ R ao cp w')
    (hQ : ∀ a' w1 ao cp, Fen a' { v with v20 := .int .i64 x, v21 := .slice ao n cp } → R ao cp w1 → K a' w1) :
    Code.wp Try.prog c (Exit.then K fun _ _ _ => False) a wq := by
  have HQ := hide hQ
  clear hQ
  obtain ⟨t', d'⟩ := a
  obtain ⟨v0, v1, v4, v5, v6, v7, v8, v9, v10, v11, v12, v13, v14, v15, v16, v17, v18, v19, v20, v21, v22, v23, v24⟩ := v
  simp only at h9v h19v HQ
  subst h9v h19v
  obtain ⟨hs1, hd1, q0, q1, q4, q5, q6, q7, q8, q9, q10, q11, q12, q13, q14, q15, q16, q17, q18, q19, q20, q21, q22, q23, q24⟩ := hF
  obtain ⟨u, hu⟩ := frame_en t' hs1
  simp only at hd1 q0 q1 q4 q5 q6 q7 q8 q9 q10 q11 q12 q13 q14 q15 q16 q17 q18 q19 q20 q21 q22 q23 q24
  subst hu hd1
  have e0 : u 0 = v0 := q0
  have e1 : u 1 = v1 := q1
  have e4 : u 4 = v4 := q4
  have e5 : u 5 = v5 := q5
  have e6 : u 6 = v6 := q6
  have e7 : u 7 = v7 := q7
  have e8 : u 8 = v8 := q8
  have e9 : u 9 = .slice (some ⟨g, 0, none⟩) m oc := q9
  have e10 : u 10 = v10 := q10
  have e11 : u 11 = v11 := q11
  have e12 : u 12 = v12 := q12
  have e13 : u 13 = v13 := q13
  have e14 : u 14 = v14 := q14
  have e15 : u 15 = v15 := q15
  have e16 : u 16 = v16 := q16
  have e17 : u 17 = v17 := q17
  have e18 : u 18 = v18 := q18
  have e19 : u 19 = .int .i64 (w : Int) := q19
  have e20 : u 20 = v20 := q20
  have e21 : u 21 = v21 := q21
  have e22 : u 22 = v22 := q22
  have e23 : u 23 = v23 := q23
  have e24 : u 24 = v24 := q24
  rw [e0, e1, e4, e5, e6, e7, e8, e9, e10, e11, e12, e13, e14, e15, e16, e17, e18, e19, e20, e21, e22, e23, e24]
  clear q0 e0 q1 e1 q4 e4 q5 e5 q6 e6 q7 e7 q8 e8 q9 e9 q10 e10 q11 e11 q12 e12 q13 e13 q14 e14 q15 e15 q16 e16 q17 e17 q18 e18 q19 e19 q20 e20 q21 e21 q22 e22 q23 e23 q24 e24 hs1
  simp only [Try.f5, Option.getD_some, regOf] at hc
  injection hc with hc
  subst hc
  have HE := hide hE
  clear hE
  have i0 : (0 : Int) ≤ 0 := Int.le_refl _
  have i1 : (0 : Int) < (m : Int) := by omega
  go_wp2_with (go_at_call 21; refine HE.out.mono ?_; rintro e w1 ⟨ao, cp, rfl, r1⟩; have R1 := hide r1; clear r1)
  exact HQ.out _ _ _ _ ⟨rfl, rfl, rfl, rfl, rfl, rfl, rfl, rfl, rfl, rfl, rfl, rfl, rfl, rfl, rfl, rfl, rfl, rfl, rfl, rfl, rfl, rfl, rfl, rfl, rfl⟩ R1.out
set_option maxHeartbeats 8000000 in
set_option maxRecDepth 100000 in
theorem en_r32 {K : Act → World → Prop} {c : Code} (hc : regOf (Try.f5.body.getD .skip) 32 = some c) (a : Act) {v : Ven} {wq : World}  (hF : Fen a v) (hQ : ∀ a', Fen a' { v with v22 := .int .i64 ((0 : Nat) : Int) } → K a' wq) :
    Code.wp Try.prog c (Exit.then K fun _ _ _ => False) a wq := by
  have HQ := hide hQ
  clear hQ
  obtain ⟨t', d'⟩ := a
  obtain ⟨v0, v1, v4, v5, v6, v7, v8, v9, v10, v11, v12, v13, v14, v15, v16, v17, v18, v19, v20, v21, v22, v23, v24⟩ := v
  obtain ⟨hs1, hd1, q0, q1, q4, q5, q6, q7, q8, q9, q10, q11, q12, q13, q14, q15, q16, q17, q18, q19, q20, q21, q22, q23, q24⟩ := hF
  obtain ⟨u, hu⟩ := frame_en t' hs1
  simp only at hd1 q0 q1 q4 q5 q6 q7 q8 q9 q10 q11 q12 q13 q14 q15 q16 q17 q18 q19 q20 q21 q22 q23 q24
  subst hu hd1
  have e0 : u 0 = v0 := q0
  have e1 : u 1 = v1 := q1
  have e4 : u 4 = v4 := q4
  have e5 : u 5 = v5 := q5
  have e6 : u 6 = v6 := q6
  have e7 : u 7 = v7 := q7
  have e8 : u 8 = v8 := q8
  have e9 : u 9 = v9 := q9
  have e10 : u 10 = v10 := q10
  have e11 : u 11 = v11 := q11
  have e12 : u 12 = v12 := q12
  have e13 : u 13 = v13 := q13
  have e14 : u 14 = v14 := q14
  have e15 : u 15 = v15 := q15
  have e16 : u 16 = v16 := q16
  have e17 : u 17 = v17 := q17
  have e18 : u 18 = v18 := q18
  have e19 : u 19 = v19 := q19
  have e20 : u 20 = v20 := q20
  have e21 : u 21 = v21 := q21
  have e22 : u 22 = v22 := q22
  have e23 : u 23 = v23 := q23
  have e24 : u 24 = v24 := q24
  rw [e0, e1, e4, e5, e6, e7, e8, e9, e10, e11, e12, e13, e14, e15, e16, e17, e18, e19, e20, e21, e22, e23, e24]
  clear q0 e0 q1 e1 q4 e4 q5 e5 q6 e6 q7 e7 q8 e8 q9 e9 q10 e10 q11 e11 q12 e12 q13 e13 q14 e14 q15 e15 q16 e16 q17 e17 q18 e18 q19 e19 q20 e20 q21 e21 q22 e22 q23 e23 q24 e24 hs1
  simp only [Try.f5, Option.getD_some, regOf] at hc
  injection hc with hc
  subst hc
  go_wp2
  exact HQ.out _ ⟨rfl, rfl, rfl, rfl, rfl, rfl, rfl, rfl, rfl, rfl, rfl, rfl, rfl, rfl, rfl, rfl, rfl, rfl, rfl, rfl, rfl, rfl, rfl, rfl, rfl⟩
set_option maxHeartbeats 8000000 in
set_option maxRecDepth 100000 in
theorem en_r33 {K : Act → World → Prop} {c : Code} (hc : regOf (Try.f5.body.getD .skip) 33 = some c) (a : Act) {v : Ven} {wq : World} {ao : Option Addr} {n cp k : Nat} (hF : Fen a v) (h21v : v.v21 = .slice ao n cp) (h22v : v.v22 = .int .i64 (k : Int)) (hQ : ∀ a', Fen a' v → a'.tmps.getD 128 undef = .bool (decide ((k : Int) < (n : Int))) → K a' wq) :
    Code.wp Try.prog c (Exit.then K fun _ _ _ => False) a wq := by
  have HQ := hide hQ
  clear hQ
  obtain ⟨t', d'⟩ := a
  obtain ⟨v0, v1, v4, v5, v6, v7, v8, v9, v10, v11, v12, v13, v14, v15, v16, v17, v18, v19, v20, v21, v22, v23, v24⟩ := v
  simp only at h21v h22v HQ
  subst h21v h22v
  obtain ⟨hs1, hd1, q0, q1, q4, q5, q6, q7, q8, q9, q10, q11, q12, q13, q14, q15, q16, q17, q18, q19, q20, q21, q22, q23, q24⟩ := hF
  obtain ⟨u, hu⟩ := frame_en t' hs1
  simp only at hd1 q0 q1 q4 q5 q6 q7 q8 q9 q10 q11 q12 q13 q14 q15 q16 q17 q18 q19 q20 q21 q22 q23 q24
  subst hu hd1
  have e0 : u 0 = v0 := q0
  have e1 : u 1 = v1 := q1
  have e4 : u 4 = v4 := q4
  have e5 : u 5 = v5 := q5
  have e6 : u 6 = v6 := q6
  have e7 : u 7 = v7 := q7
  have e8 : u 8 = v8 := q8
  have e9 : u 9 = v9 := q9
  have e10 : u 10 = v10 := q10
  have e11 : u 11 = v11 := q11
  have e12 : u 12 = v12 := q12
  have e13 : u 13 = v13 := q13
  have e14 : u 14 = v14 := q14
  have e15 : u 15 = v15 := q15
  have e16 : u 16 = v16 := q16
  have e17 : u 17 = v17 := q17
  have e18 : u 18 = v18 := q18
  have e19 : u 19 = v19 := q19
  have e20 : u 20 = v20 := q20
  have e21 : u 21 = .slice ao n cp := q21
  have e22 : u 22 = .int .i64 (k : Int) := q22
  have e23 : u 23 = v23 := q23
  have e24 : u 24 = v24 := q24
  rw [e0, e1, e4, e5, e6, e7, e8, e9, e10, e11, e12, e13, e14, e15, e16, e17, e18, e19, e20, e21, e22, e23, e24]
  clear q0 e0 q1 e1 q4 e4 q5 e5 q6 e6 q7 e7 q8 e8 q9 e9 q10 e10 q11 e11 q12 e12 q13 e13 q14 e14 q15 e15 q16 e16 q17 e17 q18 e18 q19 e19 q20 e20 q21 e21 q22 e22 q23 e23 q24 e24 hs1
  simp only [Try.f5, Option.getD_some, regOf] at hc
  injection hc with hc
  subst hc
  go_wp2
  exact HQ.out _ ⟨rfl, rfl, rfl, rfl, rfl, rfl, rfl, rfl, rfl, rfl, rfl, rfl, rfl, rfl, rfl, rfl, rfl, rfl, rfl, rfl, rfl, rfl, rfl, rfl, rfl⟩ (by first | rfl | (simp; done))
set_option maxHeartbeats 8000000 in
set_option maxRecDepth 100000 in
theorem en_r35 {K : Act → World → Prop} {c : Code} (hc : regOf (Try.f5.body.getD .skip) 35 = some c) (a : Act) {v : Ven} {wq : World} {R : World → Prop} {g m oc w at0 tb tf n cp k : Nat} {a1 : Addr} {s : ByteArray} {r : Bool} (hF : Fen a v) (h9v : v.v9 = .slice (some ⟨g, 0, none⟩) m oc) (h19v : v.v19 = .int .i64 (w : Int)) (h20v : v.v20 = .int .i64 (at0 : Int)) (h21v : v.v21 = .slice (some ⟨tb, tf, none⟩) n cp) (h22v : v.v22 = .int .i64 (k : Int)) (hw : w < m) (c0 : wq.cell? ⟨g, w, none⟩ = some (.pointer (some a1))) (hkn : k < n) (hat : at0 ≤ 1000000) (hkk : k ≤ 1000000) (c1 : wq.cell? ⟨tb, tf + k, none⟩ = some (.string s)) (hE : Calls Try.prog 15 #[.pointer (some a1), .int .i64 ((at0 + k : Nat) : Int), .string s] wq.drew fun e w' => e = .returned (.bool r) ∧ R w')
    (hQ : ∀ a' w1, Fen a' v → R w1 → K a' w1) :
    Code.wp Try.prog c (Exit.then K fun _ _ _ => False) a wq := by
  have HQ := hide hQ
  clear hQ
  obtain ⟨t', d'⟩ := a
  obtain ⟨v0, v1, v4, v5, v6, v7, v8, v9, v10, v11, v12, v13, v14, v15, v16, v17, v18, v19, v20, v21, v22, v23, v24⟩ := v
  simp only at h9v h19v h20v h21v h22v HQ
  subst h9v h19v h20v h21v h22v
  obtain ⟨hs1, hd1, q0, q1, q4, q5, q6, q7, q8, q9, q10, q11, q12, q13, q14, q15, q16, q17, q18, q19, q20, q21, q22, q23, q24⟩ := hF
  obtain ⟨u, hu⟩ := frame_en t' hs1
  simp only at hd1 q0 q1 q4 q5 q6 q7 q8 q9 q10 q11 q12 q13 q14 q15 q16 q17 q18 q19 q20 q21 q22 q23 q24
  subst hu hd1
  have e0 : u 0 = v0 := q0
  have e1 : u 1 = v1 := q1
  have e4 : u 4 = v4 := q4
  have e5 : u 5 = v5 := q5
  have e6 : u 6 = v6 := q6
  have e7 : u 7 = v7 := q7
  have e8 : u 8 = v8 := q8
  have e9 : u 9 = .slice (some ⟨g, 0, none⟩) m oc := q9
  have e10 : u 10 = v10 := q10
  have e11 : u 11 = v11 := q11
  have e12 : u 12 = v12 := q12
  have e13 : u 13 = v13 := q13
  have e14 : u 14 = v14 := q14
  have e15 : u 15 = v15 := q15
  have e16 : u 16 = v16 := q16
  have e17 : u 17 = v17 := q17
  have e18 : u 18 = v18 := q18
  have e19 : u 19 = .int .i64 (w : Int) := q19
  have e20 : u 20 = .int .i64 (at0 : Int) := q20
  have e21 : u 21 = .slice (some ⟨tb, tf, none⟩) n cp := q21
  have e22 : u 22 = .int .i64 (k : Int) := q22
  have e23 : u 23 = v23 := q23
  have e24 : u 24 = v24 := q24
  rw [e0, e1, e4, e5, e6, e7, e8, e9, e10, e11, e12, e13, e14, e15, e16, e17, e18, e19, e20, e21, e22, e23, e24]
  clear q0 e0 q1 e1 q4 e4 q5 e5 q6 e6 q7 e7 q8 e8 q9 e9 q10 e10 q11 e11 q12 e12 q13 e13 q14 e14 q15 e15 q16 e16 q17 e17 q18 e18 q19 e19 q20 e20 q21 e21 q22 e22 q23 e23 q24 e24 hs1
  simp only [Try.f5, Option.getD_some, regOf] at hc
  injection hc with hc
  subst hc
  have HE := hide hE
  clear hE
  have i0 : (0 : Int) ≤ (w : Int) := by omega
  have i1 : (w : Int) < (m : Int) := by omega
  have j0 : (0 : Int) ≤ (k : Int) := by omega
  have j1 : (k : Int) < (n : Int) := by omega
  have hsum : ((at0 + k : Nat) : Int) = (at0 : Int) + (k : Int) := by omega
  rw [hsum] at HE
  have hw64 : wrap64 ((at0 : Int) + (k : Int)) = (at0 : Int) + (k : Int) := by unfold wrap64; omega
  refine wp_region_any rfl ?_
  refine wpAny_staged (ns := 198) (uses := (fun i => match i with | 0 => [131] | 1 => [132] | 2 => [133] | 3 => [134] | 4 => [135] | 5 => [136] | 6 => [137] | 7 => [138] | 8 => [139] | 9 => [140] | 10 => [141] | 11 => [142] | _ => [])) (by kernel_rfl) (by kernel_rfl) (fun l a w => ((fun (x : Bool) (w : World) => (x = false → w = wq.drew) ∧ (x = true → R w))) (l 11) w) ⟨fun _ => rfl, fun e => by cases e⟩ (fun i => match i with | 0 => fun σ => σ 131 = .slice (some ⟨g, 0, none⟩) m oc | 1 => fun σ => σ 132 = .int .i64 (w : Int) | 2 => fun σ => σ 133 = .pointer (some ⟨g, w, none⟩) | 3 => fun σ => σ 134 = .pointer (some a1) | 4 => fun σ => σ 135 = .int .i64 (at0 : Int) | 5 => fun σ => σ 136 = .int .i64 (k : Int) | 6 => fun σ => σ 137 = .int .i64 ((at0 : Int) + (k : Int)) | 7 => fun σ => σ 138 = .slice (some ⟨tb, tf, none⟩) n cp | 8 => fun σ => σ 139 = .int .i64 (k : Int) | 9 => fun σ => σ 140 = .pointer (some ⟨tb, tf + k, none⟩) | 10 => fun σ => σ 141 = .string s | 11 => fun σ => σ 142 = .bool r | _ => fun _ => True) ?phc ?pstep ?pdone
  case phc =>
    intro i s s' hx h
    rcases i with _ | i; · exact (hx _ (List.mem_singleton.2 rfl)).symm.trans h
    rcases i with _ | i; · exact (hx _ (List.mem_singleton.2 rfl)).symm.trans h
    rcases i with _ | i; · exact (hx _ (List.mem_singleton.2 rfl)).symm.trans h
    rcases i with _ | i; · exact (hx _ (List.mem_singleton.2 rfl)).symm.trans h
    rcases i with _ | i; · exact (hx _ (List.mem_singleton.2 rfl)).symm.trans h
    rcases i with _ | i; · exact (hx _ (List.mem_singleton.2 rfl)).symm.trans h
    rcases i with _ | i; · exact (hx _ (List.mem_singleton.2 rfl)).symm.trans h
    rcases i with _ | i; · exact (hx _ (List.mem_singleton.2 rfl)).symm.trans h
    rcases i with _ | i; · exact (hx _ (List.mem_singleton.2 rfl)).symm.trans h
    rcases i with _ | i; · exact (hx _ (List.mem_singleton.2 rfl)).symm.trans h
    rcases i with _ | i; · exact (hx _ (List.mem_singleton.2 rfl)).symm.trans h
    rcases i with _ | i; · exact (hx _ (List.mem_singleton.2 rfl)).symm.trans h
    exact h
  case pstep =>
    intro i o ho a' w' l hl hr hq hsa hS hd
    match i, ho, hl, hr, hq with
    | 0, ho, hl, hr, hq =>
      obtain rfl := Option.some.inj ho
      try dsimp only at hd
      have g9 : a'.tmps.getD 9 undef = .slice (some ⟨g, 0, none⟩) m oc := hsa.rest 9 (by rfl)
      have hT : ((fun (x : Bool) (w : World) => (x = false → w = wq.drew) ∧ (x = true → R w))) false w' := by have h := hS; rw [hq 11 (by kernel_rfl)] at h; exact h
      refine wpOp_of rfl rfl ?_
      refine op_run (v := .slice (some ⟨g, 0, none⟩) m oc) (w' := w') ?_ ⟨_, rfl, ?_, (by show ((fun (x : Bool) (w : World) => (x = false → w = wq.drew) ∧ (x = true → R w))) _ _; rw [updL_other l (show 11 ≠ 0 by decide)]; rw [hq 11 (by kernel_rfl)]; exact hT)⟩
      · simp only [execOp, Act.eval, g9]; first | (go_simp; done) | rfl
      · try dsimp only
        exact (slots_put (ns := 198) (hsa.size.trans rfl) (by decide))
    | 1, ho, hl, hr, hq =>
      obtain rfl := Option.some.inj ho
      try dsimp only at hd
      have g19 : a'.tmps.getD 19 undef = .int .i64 (w : Int) := hsa.rest 19 (by rfl)
      have hT : ((fun (x : Bool) (w : World) => (x = false → w = wq.drew) ∧ (x = true → R w))) false w' := by have h := hS; rw [hq 11 (by kernel_rfl)] at h; exact h
      refine wpOp_of rfl rfl ?_
      refine op_run (v := .int .i64 (w : Int)) (w' := w') ?_ ⟨_, rfl, ?_, (by show ((fun (x : Bool) (w : World) => (x = false → w = wq.drew) ∧ (x = true → R w))) _ _; rw [updL_other l (show 11 ≠ 1 by decide)]; rw [hq 11 (by kernel_rfl)]; exact hT)⟩
      · simp only [execOp, Act.eval, g19]; first | (go_simp; done) | rfl
      · try dsimp only
        exact (slots_put (ns := 198) (hsa.size.trans rfl) (by decide))
    | 2, ho, hl, hr, hq =>
      obtain rfl := Option.some.inj ho
      try dsimp only at hd
      have d0 : a'.tmps.getD 131 undef = .slice (some ⟨g, 0, none⟩) m oc := hd 0 (by rfl)
      have d1 : a'.tmps.getD 132 undef = .int .i64 (w : Int) := hd 1 (by rfl)
      have hT : ((fun (x : Bool) (w : World) => (x = false → w = wq.drew) ∧ (x = true → R w))) false w' := by have h := hS; rw [hq 11 (by kernel_rfl)] at h; exact h
      refine wpOp_of rfl rfl ?_
      refine op_run (v := .pointer (some ⟨g, w, none⟩)) (w' := w') ?_ ⟨_, rfl, ?_, (by show ((fun (x : Bool) (w : World) => (x = false → w = wq.drew) ∧ (x = true → R w))) _ _; rw [updL_other l (show 11 ≠ 2 by decide)]; rw [hq 11 (by kernel_rfl)]; exact hT)⟩
      · simp only [execOp, Act.eval, d0, d1]; first | (go_simp; done) | rfl
      · try dsimp only
        exact (slots_put (ns := 198) (hsa.size.trans rfl) (by decide))
    | 3, ho, hl, hr, hq =>
      obtain rfl := Option.some.inj ho
      try dsimp only at hd
      have d2 : a'.tmps.getD 133 undef = .pointer (some ⟨g, w, none⟩) := hd 2 (by rfl)
      have hT : ((fun (x : Bool) (w : World) => (x = false → w = wq.drew) ∧ (x = true → R w))) false w' := by have h := hS; rw [hq 11 (by kernel_rfl)] at h; exact h
      refine wpOp_of rfl rfl ?_
      have z : w'.cell? ⟨g, w, none⟩ = some (.pointer (some a1)) := by rw [hT.1 rfl]; exact c0
      refine op_run (v := .pointer (some a1)) (w' := w') ?_ ⟨_, rfl, ?_, (by show ((fun (x : Bool) (w : World) => (x = false → w = wq.drew) ∧ (x = true → R w))) _ _; rw [updL_other l (show 11 ≠ 3 by decide)]; rw [hq 11 (by kernel_rfl)]; exact hT)⟩
      · simp only [execOp, Act.eval, d2, z]; first | (go_simp; done) | rfl
      · try dsimp only
        exact (slots_put (ns := 198) (hsa.size.trans rfl) (by decide))
    | 4, ho, hl, hr, hq =>
      obtain rfl := Option.some.inj ho
      try dsimp only at hd
      have g20 : a'.tmps.getD 20 undef = .int .i64 (at0 : Int) := hsa.rest 20 (by rfl)
      have hT : ((fun (x : Bool) (w : World) => (x = false → w = wq.drew) ∧ (x = true → R w))) false w' := by have h := hS; rw [hq 11 (by kernel_rfl)] at h; exact h
      refine wpOp_of rfl rfl ?_
      refine op_run (v := .int .i64 (at0 : Int)) (w' := w') ?_ ⟨_, rfl, ?_, (by show ((fun (x : Bool) (w : World) => (x = false → w = wq.drew) ∧ (x = true → R w))) _ _; rw [updL_other l (show 11 ≠ 4 by decide)]; rw [hq 11 (by kernel_rfl)]; exact hT)⟩
      · simp only [execOp, Act.eval, g20]; first | (go_simp; done) | rfl
      · try dsimp only
        exact (slots_put (ns := 198) (hsa.size.trans rfl) (by decide))
    | 5, ho, hl, hr, hq =>
      obtain rfl := Option.some.inj ho
      try dsimp only at hd
      have g22 : a'.tmps.getD 22 undef = .int .i64 (k : Int) := hsa.rest 22 (by rfl)
      have hT : ((fun (x : Bool) (w : World) => (x = false → w = wq.drew) ∧ (x = true → R w))) false w' := by have h := hS; rw [hq 11 (by kernel_rfl)] at h; exact h
      refine wpOp_of rfl rfl ?_
      refine op_run (v := .int .i64 (k : Int)) (w' := w') ?_ ⟨_, rfl, ?_, (by show ((fun (x : Bool) (w : World) => (x = false → w = wq.drew) ∧ (x = true → R w))) _ _; rw [updL_other l (show 11 ≠ 5 by decide)]; rw [hq 11 (by kernel_rfl)]; exact hT)⟩
      · simp only [execOp, Act.eval, g22]; first | (go_simp; done) | rfl
      · try dsimp only
        exact (slots_put (ns := 198) (hsa.size.trans rfl) (by decide))
    | 6, ho, hl, hr, hq =>
      obtain rfl := Option.some.inj ho
      try dsimp only at hd
      have d4 : a'.tmps.getD 135 undef = .int .i64 (at0 : Int) := hd 4 (by rfl)
      have d5 : a'.tmps.getD 136 undef = .int .i64 (k : Int) := hd 5 (by rfl)
      have hT : ((fun (x : Bool) (w : World) => (x = false → w = wq.drew) ∧ (x = true → R w))) false w' := by have h := hS; rw [hq 11 (by kernel_rfl)] at h; exact h
      refine wpOp_of rfl rfl ?_
      refine op_run (v := .int .i64 ((at0 : Int) + (k : Int))) (w' := w') ?_ ⟨_, rfl, ?_, (by show ((fun (x : Bool) (w : World) => (x = false → w = wq.drew) ∧ (x = true → R w))) _ _; rw [updL_other l (show 11 ≠ 6 by decide)]; rw [hq 11 (by kernel_rfl)]; exact hT)⟩
      · simp only [execOp, Act.eval, d4, d5]; (go_simp; rw [IntKind.wrap_i64]; omega)
      · try dsimp only
        exact (slots_put (ns := 198) (hsa.size.trans rfl) (by decide))
    | 7, ho, hl, hr, hq =>
      obtain rfl := Option.some.inj ho
      try dsimp only at hd
      have g21 : a'.tmps.getD 21 undef = .slice (some ⟨tb, tf, none⟩) n cp := hsa.rest 21 (by rfl)
      have hT : ((fun (x : Bool) (w : World) => (x = false → w = wq.drew) ∧ (x = true → R w))) false w' := by have h := hS; rw [hq 11 (by kernel_rfl)] at h; exact h
      refine wpOp_of rfl rfl ?_
      refine op_run (v := .slice (some ⟨tb, tf, none⟩) n cp) (w' := w') ?_ ⟨_, rfl, ?_, (by show ((fun (x : Bool) (w : World) => (x = false → w = wq.drew) ∧ (x = true → R w))) _ _; rw [updL_other l (show 11 ≠ 7 by decide)]; rw [hq 11 (by kernel_rfl)]; exact hT)⟩
      · simp only [execOp, Act.eval, g21]; first | (go_simp; done) | rfl
      · try dsimp only
        exact (slots_put (ns := 198) (hsa.size.trans rfl) (by decide))
    | 8, ho, hl, hr, hq =>
      obtain rfl := Option.some.inj ho
      try dsimp only at hd
      have g22 : a'.tmps.getD 22 undef = .int .i64 (k : Int) := hsa.rest 22 (by rfl)
      have hT : ((fun (x : Bool) (w : World) => (x = false → w = wq.drew) ∧ (x = true → R w))) false w' := by have h := hS; rw [hq 11 (by kernel_rfl)] at h; exact h
      refine wpOp_of rfl rfl ?_
      refine op_run (v := .int .i64 (k : Int)) (w' := w') ?_ ⟨_, rfl, ?_, (by show ((fun (x : Bool) (w : World) => (x = false → w = wq.drew) ∧ (x = true → R w))) _ _; rw [updL_other l (show 11 ≠ 8 by decide)]; rw [hq 11 (by kernel_rfl)]; exact hT)⟩
      · simp only [execOp, Act.eval, g22]; first | (go_simp; done) | rfl
      · try dsimp only
        exact (slots_put (ns := 198) (hsa.size.trans rfl) (by decide))
    | 9, ho, hl, hr, hq =>
      obtain rfl := Option.some.inj ho
      try dsimp only at hd
      have d7 : a'.tmps.getD 138 undef = .slice (some ⟨tb, tf, none⟩) n cp := hd 7 (by rfl)
      have d8 : a'.tmps.getD 139 undef = .int .i64 (k : Int) := hd 8 (by rfl)
      have hT : ((fun (x : Bool) (w : World) => (x = false → w = wq.drew) ∧ (x = true → R w))) false w' := by have h := hS; rw [hq 11 (by kernel_rfl)] at h; exact h
      refine wpOp_of rfl rfl ?_
      refine op_run (v := .pointer (some ⟨tb, tf + k, none⟩)) (w' := w') ?_ ⟨_, rfl, ?_, (by show ((fun (x : Bool) (w : World) => (x = false → w = wq.drew) ∧ (x = true → R w))) _ _; rw [updL_other l (show 11 ≠ 9 by decide)]; rw [hq 11 (by kernel_rfl)]; exact hT)⟩
      · simp only [execOp, Act.eval, d7, d8]; first | (go_simp; done) | rfl
      · try dsimp only
        exact (slots_put (ns := 198) (hsa.size.trans rfl) (by decide))
    | 10, ho, hl, hr, hq =>
      obtain rfl := Option.some.inj ho
      try dsimp only at hd
      have d9 : a'.tmps.getD 140 undef = .pointer (some ⟨tb, tf + k, none⟩) := hd 9 (by rfl)
      have hT : ((fun (x : Bool) (w : World) => (x = false → w = wq.drew) ∧ (x = true → R w))) false w' := by have h := hS; rw [hq 11 (by kernel_rfl)] at h; exact h
      refine wpOp_of rfl rfl ?_
      have z : w'.cell? ⟨tb, tf + k, none⟩ = some (.string s) := by rw [hT.1 rfl]; exact c1
      refine op_run (v := .string s) (w' := w') ?_ ⟨_, rfl, ?_, (by show ((fun (x : Bool) (w : World) => (x = false → w = wq.drew) ∧ (x = true → R w))) _ _; rw [updL_other l (show 11 ≠ 10 by decide)]; rw [hq 11 (by kernel_rfl)]; exact hT)⟩
      · simp only [execOp, Act.eval, d9, z]; first | (go_simp; done) | rfl
      · try dsimp only
        exact (slots_put (ns := 198) (hsa.size.trans rfl) (by decide))
    | 11, ho, hl, hr, hq =>
      obtain rfl := Option.some.inj ho
      try dsimp only at hd
      have d3 : a'.tmps.getD 134 undef = .pointer (some a1) := hd 3 (by rfl)
      have d6 : a'.tmps.getD 137 undef = .int .i64 ((at0 : Int) + (k : Int)) := hd 6 (by rfl)
      have d10 : a'.tmps.getD 141 undef = .string s := hd 10 (by rfl)
      have hT : ((fun (x : Bool) (w : World) => (x = false → w = wq.drew) ∧ (x = true → R w))) false w' := by have h := hS; rw [hl] at h; exact h
      refine wpOp_of rfl rfl ?_
      obtain rfl := hT.1 rfl
      refine op_call 15 _ _ rfl (enters_of Try.func15 (by kernel_rfl) rfl) [.pointer (some a1), .int .i64 ((at0 : Int) + (k : Int)), .string s] (by simp only [List.map, Act.eval, d3, d6, d10]) HE.out ?_
      rintro e w'' ⟨rfl, r1⟩
      refine ⟨_, rfl, _, rfl, (slots_put (ns := 198) (hsa.size.trans rfl) (by decide)), (by show ((fun (x : Bool) (w : World) => (x = false → w = wq.drew) ∧ (x = true → R w))) _ _; rw [updL_same]; exact ⟨(fun e => by cases e), fun _ => r1⟩)⟩
    | (n + 12), ho, _, _, _ => exact absurd ho (by simp)
  case pdone =>
    intro a' w' l hl hsa hS hd
    have hT : ((fun (x : Bool) (w : World) => (x = false → w = wq.drew) ∧ (x = true → R w))) true w' := by have h := hS; rw [hl 11 (by decide)] at h; exact h
    have d0 : a'.tmps.getD 131 undef = .slice (some ⟨g, 0, none⟩) m oc := hd 0 (by decide)
    have d1 : a'.tmps.getD 132 undef = .int .i64 (w : Int) := hd 1 (by decide)
    have d2 : a'.tmps.getD 133 undef = .pointer (some ⟨g, w, none⟩) := hd 2 (by decide)
    have d3 : a'.tmps.getD 134 undef = .pointer (some a1) := hd 3 (by decide)
    have d4 : a'.tmps.getD 135 undef = .int .i64 (at0 : Int) := hd 4 (by decide)
    have d5 : a'.tmps.getD 136 undef = .int .i64 (k : Int) := hd 5 (by decide)
    have d6 : a'.tmps.getD 137 undef = .int .i64 ((at0 : Int) + (k : Int)) := hd 6 (by decide)
    have d7 : a'.tmps.getD 138 undef = .slice (some ⟨tb, tf, none⟩) n cp := hd 7 (by decide)
    have d8 : a'.tmps.getD 139 undef = .int .i64 (k : Int) := hd 8 (by decide)
    have d9 : a'.tmps.getD 140 undef = .pointer (some ⟨tb, tf + k, none⟩) := hd 9 (by decide)
    have d10 : a'.tmps.getD 141 undef = .string s := hd 10 (by decide)
    have d11 : a'.tmps.getD 142 undef = .bool r := hd 11 (by decide)
    exact HQ.out a' w' ⟨hsa.size.trans rfl, hsa.defers.trans rfl, hsa.rest 0 (by rfl), hsa.rest 1 (by rfl), hsa.rest 4 (by rfl), hsa.rest 5 (by rfl), hsa.rest 6 (by rfl), hsa.rest 7 (by rfl), hsa.rest 8 (by rfl), hsa.rest 9 (by rfl), hsa.rest 10 (by rfl), hsa.rest 11 (by rfl), hsa.rest 12 (by rfl), hsa.rest 13 (by rfl), hsa.rest 14 (by rfl), hsa.rest 15 (by rfl), hsa.rest 16 (by rfl), hsa.rest 17 (by rfl), hsa.rest 18 (by rfl), hsa.rest 19 (by rfl), hsa.rest 20 (by rfl), hsa.rest 21 (by rfl), hsa.rest 22 (by rfl), hsa.rest 23 (by rfl), hsa.rest 24 (by rfl)⟩ (hT.2 rfl)
set_option maxHeartbeats 8000000 in
set_option maxRecDepth 100000 in
theorem en_r34 {K : Act → World → Prop} {c : Code} (hc : regOf (Try.f5.body.getD .skip) 34 = some c) (a : Act) {v : Ven} {wq : World} {k : Nat} (hF : Fen a v) (h22v : v.v22 = .int .i64 (k : Int)) (hk : k ≤ 1000000) (hQ : ∀ a', Fen a' { v with v22 := .int .i64 ((k + 1 : Nat) : Int) } → K a' wq) :
    Code.wp Try.prog c (Exit.then K fun _ _ _ => False) a wq := by
  have HQ := hide hQ
  clear hQ
  obtain ⟨t', d'⟩ := a
  obtain ⟨v0, v1, v4, v5, v6, v7, v8, v9, v10, v11, v12, v13, v14, v15, v16, v17, v18, v19, v20, v21, v22, v23, v24⟩ := v
  simp only at h22v HQ
  subst h22v
  obtain ⟨hs1, hd1, q0, q1, q4, q5, q6, q7, q8, q9, q10, q11, q12, q13, q14, q15, q16, q17, q18, q19, q20, q21, q22, q23, q24⟩ := hF
  obtain ⟨u, hu⟩ := frame_en t' hs1
  simp only at hd1 q0 q1 q4 q5 q6 q7 q8 q9 q10 q11 q12 q13 q14 q15 q16 q17 q18 q19 q20 q21 q22 q23 q24
  subst hu hd1
  have e0 : u 0 = v0 := q0
  have e1 : u 1 = v1 := q1
  have e4 : u 4 = v4 := q4
  have e5 : u 5 = v5 := q5
  have e6 : u 6 = v6 := q6
  have e7 : u 7 = v7 := q7
  have e8 : u 8 = v8 := q8
  have e9 : u 9 = v9 := q9
  have e10 : u 10 = v10 := q10
  have e11 : u 11 = v11 := q11
  have e12 : u 12 = v12 := q12
  have e13 : u 13 = v13 := q13
  have e14 : u 14 = v14 := q14
  have e15 : u 15 = v15 := q15
  have e16 : u 16 = v16 := q16
  have e17 : u 17 = v17 := q17
  have e18 : u 18 = v18 := q18
  have e19 : u 19 = v19 := q19
  have e20 : u 20 = v20 := q20
  have e21 : u 21 = v21 := q21
  have e22 : u 22 = .int .i64 (k : Int) := q22
  have e23 : u 23 = v23 := q23
  have e24 : u 24 = v24 := q24
  rw [e0, e1, e4, e5, e6, e7, e8, e9, e10, e11, e12, e13, e14, e15, e16, e17, e18, e19, e20, e21, e22, e23, e24]
  clear q0 e0 q1 e1 q4 e4 q5 e5 q6 e6 q7 e7 q8 e8 q9 e9 q10 e10 q11 e11 q12 e12 q13 e13 q14 e14 q15 e15 q16 e16 q17 e17 q18 e18 q19 e19 q20 e20 q21 e21 q22 e22 q23 e23 q24 e24 hs1
  simp only [Try.f5, Option.getD_some, regOf] at hc
  injection hc with hc
  subst hc
  have hc : ((k + 1 : Nat) : Int) = (k : Int) + 1 := by omega
  rw [hc] at HQ
  go_wp2
  exact HQ.out _ ⟨rfl, rfl, rfl, rfl, rfl, rfl, rfl, rfl, rfl, rfl, rfl, rfl, rfl, rfl, rfl, rfl, rfl, rfl, rfl, rfl, rfl, rfl, rfl, rfl, rfl⟩
set_option maxHeartbeats 8000000 in
set_option maxRecDepth 100000 in
theorem en_r36 {K : Act → World → Prop} {c : Code} (hc : regOf (Try.f5.body.getD .skip) 36 = some c) (a : Act) {v : Ven} {wq : World} {R : World → Prop} {g m oc w : Nat} {a0 a1 : Addr} {x : Int} {r : Bool} (hF : Fen a v) (h9v : v.v9 = .slice (some ⟨g, 0, none⟩) m oc) (h19v : v.v19 = .int .i64 (w : Int)) (c9 : wq.cell? ⟨g, 0, none⟩ = some (.pointer (some a0))) (hw : w < m) (c0 : wq.cell? ⟨g, w, none⟩ = some (.pointer (some a1))) (hE : Calls Try.prog 17 #[.pointer (some a0), .int .i64 (w : Int), .int .i64 x] wq.drew fun e w' => e = .returned (.bool r) ∧ R w') (hR8 : Calls Try.prog 25 #[.pointer (some a1)] wq.drew fun e w' => e = .returned (.int .i64 x) ∧ w' = wq.drew)
    (hQ : ∀ a' w1, Fen a' v → R w1 → K a' w1) :
    Code.wp Try.prog c (Exit.then K fun _ _ _ => False) a wq := by
  have HQ := hide hQ
  clear hQ
  obtain ⟨t', d'⟩ := a
  obtain ⟨v0, v1, v4, v5, v6, v7, v8, v9, v10, v11, v12, v13, v14, v15, v16, v17, v18, v19, v20, v21, v22, v23, v24⟩ := v
  simp only at h9v h19v HQ
  subst h9v h19v
  obtain ⟨hs1, hd1, q0, q1, q4, q5, q6, q7, q8, q9, q10, q11, q12, q13, q14, q15, q16, q17, q18, q19, q20, q21, q22, q23, q24⟩ := hF
  obtain ⟨u, hu⟩ := frame_en t' hs1
  simp only at hd1 q0 q1 q4 q5 q6 q7 q8 q9 q10 q11 q12 q13 q14 q15 q16 q17 q18 q19 q20 q21 q22 q23 q24
  subst hu hd1
  have e0 : u 0 = v0 := q0
  have e1 : u 1 = v1 := q1
  have e4 : u 4 = v4 := q4
  have e5 : u 5 = v5 := q5
  have e6 : u 6 = v6 := q6
  have e7 : u 7 = v7 := q7
  have e8 : u 8 = v8 := q8
  have e9 : u 9 = .slice (some ⟨g, 0, none⟩) m oc := q9
  have e10 : u 10 = v10 := q10
  have e11 : u 11 = v11 := q11
  have e12 : u 12 = v12 := q12
  have e13 : u 13 = v13 := q13
  have e14 : u 14 = v14 := q14
  have e15 : u 15 = v15 := q15
  have e16 : u 16 = v16 := q16
  have e17 : u 17 = v17 := q17
  have e18 : u 18 = v18 := q18
  have e19 : u 19 = .int .i64 (w : Int) := q19
  have e20 : u 20 = v20 := q20
  have e21 : u 21 = v21 := q21
  have e22 : u 22 = v22 := q22
  have e23 : u 23 = v23 := q23
  have e24 : u 24 = v24 := q24
  rw [e0, e1, e4, e5, e6, e7, e8, e9, e10, e11, e12, e13, e14, e15, e16, e17, e18, e19, e20, e21, e22, e23, e24]
  clear q0 e0 q1 e1 q4 e4 q5 e5 q6 e6 q7 e7 q8 e8 q9 e9 q10 e10 q11 e11 q12 e12 q13 e13 q14 e14 q15 e15 q16 e16 q17 e17 q18 e18 q19 e19 q20 e20 q21 e21 q22 e22 q23 e23 q24 e24 hs1
  simp only [Try.f5, Option.getD_some, regOf] at hc
  injection hc with hc
  subst hc
  have HE := hide hE
  have HR8 := hide hR8
  clear hE hR8
  have o0 : (0 : Int) ≤ 0 := Int.le_refl _
  have hm : 0 < m := by omega
  have o1 : (0 : Int) < (m : Int) := by omega
  have i0 : (0 : Int) ≤ (w : Int) := by omega
  have i1 : (w : Int) < (m : Int) := by omega
  refine wp_region_any rfl ?_
  refine wpAny_staged (ns := 198) (uses := (fun i => match i with | 0 => [143] | 1 => [144] | 2 => [145] | 3 => [146] | 4 => [147] | 5 => [148] | 6 => [149] | 7 => [150] | 8 => [151] | 9 => [152] | _ => [])) (by kernel_rfl) (by kernel_rfl) (fun l a w => ((fun (x : Bool) (w : World) => (x = false → w = wq.drew) ∧ (x = true → R w))) (l 9) w) ⟨fun _ => rfl, fun e => by cases e⟩ (fun i => match i with | 0 => fun σ => σ 143 = .slice (some ⟨g, 0, none⟩) m oc | 1 => fun σ => σ 144 = .pointer (some ⟨g, 0, none⟩) | 2 => fun σ => σ 145 = .pointer (some a0) | 3 => fun σ => σ 146 = .int .i64 (w : Int) | 4 => fun σ => σ 147 = .slice (some ⟨g, 0, none⟩) m oc | 5 => fun σ => σ 148 = .int .i64 (w : Int) | 6 => fun σ => σ 149 = .pointer (some ⟨g, w, none⟩) | 7 => fun σ => σ 150 = .pointer (some a1) | 8 => fun σ => σ 151 = .int .i64 x | 9 => fun σ => σ 152 = .bool r | _ => fun _ => True) ?phc ?pstep ?pdone
  case phc =>
    intro i s s' hx h
    rcases i with _ | i; · exact (hx _ (List.mem_singleton.2 rfl)).symm.trans h
    rcases i with _ | i; · exact (hx _ (List.mem_singleton.2 rfl)).symm.trans h
    rcases i with _ | i; · exact (hx _ (List.mem_singleton.2 rfl)).symm.trans h
    rcases i with _ | i; · exact (hx _ (List.mem_singleton.2 rfl)).symm.trans h
    rcases i with _ | i; · exact (hx _ (List.mem_singleton.2 rfl)).symm.trans h
    rcases i with _ | i; · exact (hx _ (List.mem_singleton.2 rfl)).symm.trans h
    rcases i with _ | i; · exact (hx _ (List.mem_singleton.2 rfl)).symm.trans h
    rcases i with _ | i; · exact (hx _ (List.mem_singleton.2 rfl)).symm.trans h
    rcases i with _ | i; · exact (hx _ (List.mem_singleton.2 rfl)).symm.trans h
    rcases i with _ | i; · exact (hx _ (List.mem_singleton.2 rfl)).symm.trans h
    exact h
  case pstep =>
    intro i o ho a' w' l hl hr hq hsa hS hd
    match i, ho, hl, hr, hq with
    | 0, ho, hl, hr, hq =>
      obtain rfl := Option.some.inj ho
      try dsimp only at hd
      have g9 : a'.tmps.getD 9 undef = .slice (some ⟨g, 0, none⟩) m oc := hsa.rest 9 (by rfl)
      have hT : ((fun (x : Bool) (w : World) => (x = false → w = wq.drew) ∧ (x = true → R w))) false w' := by have h := hS; rw [hq 9 (by kernel_rfl)] at h; exact h
      refine wpOp_of rfl rfl ?_
      refine op_run (v := .slice (some ⟨g, 0, none⟩) m oc) (w' := w') ?_ ⟨_, rfl, ?_, (by show ((fun (x : Bool) (w : World) => (x = false → w = wq.drew) ∧ (x = true → R w))) _ _; rw [updL_other l (show 9 ≠ 0 by decide)]; rw [hq 9 (by kernel_rfl)]; exact hT)⟩
      · simp only [execOp, Act.eval, g9]; first | (go_simp; done) | rfl
      · try dsimp only
        exact (slots_put (ns := 198) (hsa.size.trans rfl) (by decide))
    | 1, ho, hl, hr, hq =>
      obtain rfl := Option.some.inj ho
      try dsimp only at hd
      have d0 : a'.tmps.getD 143 undef = .slice (some ⟨g, 0, none⟩) m oc := hd 0 (by rfl)
      have hT : ((fun (x : Bool) (w : World) => (x = false → w = wq.drew) ∧ (x = true → R w))) false w' := by have h := hS; rw [hq 9 (by kernel_rfl)] at h; exact h
      refine wpOp_of rfl rfl ?_
      refine op_run (v := .pointer (some ⟨g, 0, none⟩)) (w' := w') ?_ ⟨_, rfl, ?_, (by show ((fun (x : Bool) (w : World) => (x = false → w = wq.drew) ∧ (x = true → R w))) _ _; rw [updL_other l (show 9 ≠ 1 by decide)]; rw [hq 9 (by kernel_rfl)]; exact hT)⟩
      · simp only [execOp, Act.eval, d0]; first | (go_simp; done) | rfl
      · try dsimp only
        exact (slots_put (ns := 198) (hsa.size.trans rfl) (by decide))
    | 2, ho, hl, hr, hq =>
      obtain rfl := Option.some.inj ho
      try dsimp only at hd
      have d1 : a'.tmps.getD 144 undef = .pointer (some ⟨g, 0, none⟩) := hd 1 (by rfl)
      have hT : ((fun (x : Bool) (w : World) => (x = false → w = wq.drew) ∧ (x = true → R w))) false w' := by have h := hS; rw [hq 9 (by kernel_rfl)] at h; exact h
      refine wpOp_of rfl rfl ?_
      have z : w'.cell? ⟨g, 0, none⟩ = some (.pointer (some a0)) := by rw [hT.1 rfl]; exact c9
      refine op_run (v := .pointer (some a0)) (w' := w') ?_ ⟨_, rfl, ?_, (by show ((fun (x : Bool) (w : World) => (x = false → w = wq.drew) ∧ (x = true → R w))) _ _; rw [updL_other l (show 9 ≠ 2 by decide)]; rw [hq 9 (by kernel_rfl)]; exact hT)⟩
      · simp only [execOp, Act.eval, d1, z]; first | (go_simp; done) | rfl
      · try dsimp only
        exact (slots_put (ns := 198) (hsa.size.trans rfl) (by decide))
    | 3, ho, hl, hr, hq =>
      obtain rfl := Option.some.inj ho
      try dsimp only at hd
      have g19 : a'.tmps.getD 19 undef = .int .i64 (w : Int) := hsa.rest 19 (by rfl)
      have hT : ((fun (x : Bool) (w : World) => (x = false → w = wq.drew) ∧ (x = true → R w))) false w' := by have h := hS; rw [hq 9 (by kernel_rfl)] at h; exact h
      refine wpOp_of rfl rfl ?_
      refine op_run (v := .int .i64 (w : Int)) (w' := w') ?_ ⟨_, rfl, ?_, (by show ((fun (x : Bool) (w : World) => (x = false → w = wq.drew) ∧ (x = true → R w))) _ _; rw [updL_other l (show 9 ≠ 3 by decide)]; rw [hq 9 (by kernel_rfl)]; exact hT)⟩
      · simp only [execOp, Act.eval, g19]; first | (go_simp; done) | rfl
      · try dsimp only
        exact (slots_put (ns := 198) (hsa.size.trans rfl) (by decide))
    | 4, ho, hl, hr, hq =>
      obtain rfl := Option.some.inj ho
      try dsimp only at hd
      have g9 : a'.tmps.getD 9 undef = .slice (some ⟨g, 0, none⟩) m oc := hsa.rest 9 (by rfl)
      have hT : ((fun (x : Bool) (w : World) => (x = false → w = wq.drew) ∧ (x = true → R w))) false w' := by have h := hS; rw [hq 9 (by kernel_rfl)] at h; exact h
      refine wpOp_of rfl rfl ?_
      refine op_run (v := .slice (some ⟨g, 0, none⟩) m oc) (w' := w') ?_ ⟨_, rfl, ?_, (by show ((fun (x : Bool) (w : World) => (x = false → w = wq.drew) ∧ (x = true → R w))) _ _; rw [updL_other l (show 9 ≠ 4 by decide)]; rw [hq 9 (by kernel_rfl)]; exact hT)⟩
      · simp only [execOp, Act.eval, g9]; first | (go_simp; done) | rfl
      · try dsimp only
        exact (slots_put (ns := 198) (hsa.size.trans rfl) (by decide))
    | 5, ho, hl, hr, hq =>
      obtain rfl := Option.some.inj ho
      try dsimp only at hd
      have g19 : a'.tmps.getD 19 undef = .int .i64 (w : Int) := hsa.rest 19 (by rfl)
      have hT : ((fun (x : Bool) (w : World) => (x = false → w = wq.drew) ∧ (x = true → R w))) false w' := by have h := hS; rw [hq 9 (by kernel_rfl)] at h; exact h
      refine wpOp_of rfl rfl ?_
      refine op_run (v := .int .i64 (w : Int)) (w' := w') ?_ ⟨_, rfl, ?_, (by show ((fun (x : Bool) (w : World) => (x = false → w = wq.drew) ∧ (x = true → R w))) _ _; rw [updL_other l (show 9 ≠ 5 by decide)]; rw [hq 9 (by kernel_rfl)]; exact hT)⟩
      · simp only [execOp, Act.eval, g19]; first | (go_simp; done) | rfl
      · try dsimp only
        exact (slots_put (ns := 198) (hsa.size.trans rfl) (by decide))
    | 6, ho, hl, hr, hq =>
      obtain rfl := Option.some.inj ho
      try dsimp only at hd
      have d4 : a'.tmps.getD 147 undef = .slice (some ⟨g, 0, none⟩) m oc := hd 4 (by rfl)
      have d5 : a'.tmps.getD 148 undef = .int .i64 (w : Int) := hd 5 (by rfl)
      have hT : ((fun (x : Bool) (w : World) => (x = false → w = wq.drew) ∧ (x = true → R w))) false w' := by have h := hS; rw [hq 9 (by kernel_rfl)] at h; exact h
      refine wpOp_of rfl rfl ?_
      refine op_run (v := .pointer (some ⟨g, w, none⟩)) (w' := w') ?_ ⟨_, rfl, ?_, (by show ((fun (x : Bool) (w : World) => (x = false → w = wq.drew) ∧ (x = true → R w))) _ _; rw [updL_other l (show 9 ≠ 6 by decide)]; rw [hq 9 (by kernel_rfl)]; exact hT)⟩
      · simp only [execOp, Act.eval, d4, d5]; first | (go_simp; done) | rfl
      · try dsimp only
        exact (slots_put (ns := 198) (hsa.size.trans rfl) (by decide))
    | 7, ho, hl, hr, hq =>
      obtain rfl := Option.some.inj ho
      try dsimp only at hd
      have d6 : a'.tmps.getD 149 undef = .pointer (some ⟨g, w, none⟩) := hd 6 (by rfl)
      have hT : ((fun (x : Bool) (w : World) => (x = false → w = wq.drew) ∧ (x = true → R w))) false w' := by have h := hS; rw [hq 9 (by kernel_rfl)] at h; exact h
      refine wpOp_of rfl rfl ?_
      have z : w'.cell? ⟨g, w, none⟩ = some (.pointer (some a1)) := by rw [hT.1 rfl]; exact c0
      refine op_run (v := .pointer (some a1)) (w' := w') ?_ ⟨_, rfl, ?_, (by show ((fun (x : Bool) (w : World) => (x = false → w = wq.drew) ∧ (x = true → R w))) _ _; rw [updL_other l (show 9 ≠ 7 by decide)]; rw [hq 9 (by kernel_rfl)]; exact hT)⟩
      · simp only [execOp, Act.eval, d6, z]; first | (go_simp; done) | rfl
      · try dsimp only
        exact (slots_put (ns := 198) (hsa.size.trans rfl) (by decide))
    | 8, ho, hl, hr, hq =>
      obtain rfl := Option.some.inj ho
      try dsimp only at hd
      have d7 : a'.tmps.getD 150 undef = .pointer (some a1) := hd 7 (by rfl)
      have hT : ((fun (x : Bool) (w : World) => (x = false → w = wq.drew) ∧ (x = true → R w))) false w' := by have h := hS; rw [hq 9 (by kernel_rfl)] at h; exact h
      refine wpOp_of rfl rfl ?_
      obtain rfl := hT.1 rfl
      refine op_call 25 _ _ rfl (enters_of Try.func25 (by kernel_rfl) rfl) [.pointer (some a1)] (by simp only [List.map, Act.eval, d7]) HR8.out ?_
      rintro e w'' ⟨rfl, rfl⟩
      refine ⟨_, rfl, _, rfl, (slots_put (ns := 198) (hsa.size.trans rfl) (by decide)), (by show ((fun (x : Bool) (w : World) => (x = false → w = wq.drew) ∧ (x = true → R w))) _ _; rw [updL_other l (show 9 ≠ 8 by decide)]; rw [hq 9 (by kernel_rfl)]; exact ⟨(fun _ => rfl), (fun e => by cases e)⟩)⟩
    | 9, ho, hl, hr, hq =>
      obtain rfl := Option.some.inj ho
      try dsimp only at hd
      have d2 : a'.tmps.getD 145 undef = .pointer (some a0) := hd 2 (by rfl)
      have d3 : a'.tmps.getD 146 undef = .int .i64 (w : Int) := hd 3 (by rfl)
      have d8 : a'.tmps.getD 151 undef = .int .i64 x := hd 8 (by rfl)
      have hT : ((fun (x : Bool) (w : World) => (x = false → w = wq.drew) ∧ (x = true → R w))) false w' := by have h := hS; rw [hl] at h; exact h
      refine wpOp_of rfl rfl ?_
      obtain rfl := hT.1 rfl
      refine op_call 17 _ _ rfl (enters_of Try.func17 (by kernel_rfl) rfl) [.pointer (some a0), .int .i64 (w : Int), .int .i64 x] (by simp only [List.map, Act.eval, d2, d3, d8]) HE.out ?_
      rintro e w'' ⟨rfl, r1⟩
      refine ⟨_, rfl, _, rfl, (slots_put (ns := 198) (hsa.size.trans rfl) (by decide)), (by show ((fun (x : Bool) (w : World) => (x = false → w = wq.drew) ∧ (x = true → R w))) _ _; rw [updL_same]; exact ⟨(fun e => by cases e), fun _ => r1⟩)⟩
    | (n + 10), ho, _, _, _ => exact absurd ho (by simp)
  case pdone =>
    intro a' w' l hl hsa hS hd
    have hT : ((fun (x : Bool) (w : World) => (x = false → w = wq.drew) ∧ (x = true → R w))) true w' := by have h := hS; rw [hl 9 (by decide)] at h; exact h
    have d0 : a'.tmps.getD 143 undef = .slice (some ⟨g, 0, none⟩) m oc := hd 0 (by decide)
    have d1 : a'.tmps.getD 144 undef = .pointer (some ⟨g, 0, none⟩) := hd 1 (by decide)
    have d2 : a'.tmps.getD 145 undef = .pointer (some a0) := hd 2 (by decide)
    have d3 : a'.tmps.getD 146 undef = .int .i64 (w : Int) := hd 3 (by decide)
    have d4 : a'.tmps.getD 147 undef = .slice (some ⟨g, 0, none⟩) m oc := hd 4 (by decide)
    have d5 : a'.tmps.getD 148 undef = .int .i64 (w : Int) := hd 5 (by decide)
    have d6 : a'.tmps.getD 149 undef = .pointer (some ⟨g, w, none⟩) := hd 6 (by decide)
    have d7 : a'.tmps.getD 150 undef = .pointer (some a1) := hd 7 (by decide)
    have d8 : a'.tmps.getD 151 undef = .int .i64 x := hd 8 (by decide)
    have d9 : a'.tmps.getD 152 undef = .bool r := hd 9 (by decide)
    exact HQ.out a' w' ⟨hsa.size.trans rfl, hsa.defers.trans rfl, hsa.rest 0 (by rfl), hsa.rest 1 (by rfl), hsa.rest 4 (by rfl), hsa.rest 5 (by rfl), hsa.rest 6 (by rfl), hsa.rest 7 (by rfl), hsa.rest 8 (by rfl), hsa.rest 9 (by rfl), hsa.rest 10 (by rfl), hsa.rest 11 (by rfl), hsa.rest 12 (by rfl), hsa.rest 13 (by rfl), hsa.rest 14 (by rfl), hsa.rest 15 (by rfl), hsa.rest 16 (by rfl), hsa.rest 17 (by rfl), hsa.rest 18 (by rfl), hsa.rest 19 (by rfl), hsa.rest 20 (by rfl), hsa.rest 21 (by rfl), hsa.rest 22 (by rfl), hsa.rest 23 (by rfl), hsa.rest 24 (by rfl)⟩ (hT.2 rfl)
set_option maxHeartbeats 8000000 in
set_option maxRecDepth 100000 in
theorem en_r30 {K : Act → World → Prop} {c : Code} (hc : regOf (Try.f5.body.getD .skip) 30 = some c) (a : Act) {v : Ven} {wq : World} {k : Nat} (hF : Fen a v) (h19v : v.v19 = .int .i64 (k : Int)) (hk : k ≤ 1000000) (hQ : ∀ a', Fen a' { v with v19 := .int .i64 ((k + 1 : Nat) : Int) } → K a' wq) :
    Code.wp Try.prog c (Exit.then K fun _ _ _ => False) a wq := by
  have HQ := hide hQ
  clear hQ
  obtain ⟨t', d'⟩ := a
  obtain ⟨v0, v1, v4, v5, v6, v7, v8, v9, v10, v11, v12, v13, v14, v15, v16, v17, v18, v19, v20, v21, v22, v23, v24⟩ := v
  simp only at h19v HQ
  subst h19v
  obtain ⟨hs1, hd1, q0, q1, q4, q5, q6, q7, q8, q9, q10, q11, q12, q13, q14, q15, q16, q17, q18, q19, q20, q21, q22, q23, q24⟩ := hF
  obtain ⟨u, hu⟩ := frame_en t' hs1
  simp only at hd1 q0 q1 q4 q5 q6 q7 q8 q9 q10 q11 q12 q13 q14 q15 q16 q17 q18 q19 q20 q21 q22 q23 q24
  subst hu hd1
  have e0 : u 0 = v0 := q0
  have e1 : u 1 = v1 := q1
  have e4 : u 4 = v4 := q4
  have e5 : u 5 = v5 := q5
  have e6 : u 6 = v6 := q6
  have e7 : u 7 = v7 := q7
  have e8 : u 8 = v8 := q8
  have e9 : u 9 = v9 := q9
  have e10 : u 10 = v10 := q10
  have e11 : u 11 = v11 := q11
  have e12 : u 12 = v12 := q12
  have e13 : u 13 = v13 := q13
  have e14 : u 14 = v14 := q14
  have e15 : u 15 = v15 := q15
  have e16 : u 16 = v16 := q16
  have e17 : u 17 = v17 := q17
  have e18 : u 18 = v18 := q18
  have e19 : u 19 = .int .i64 (k : Int) := q19
  have e20 : u 20 = v20 := q20
  have e21 : u 21 = v21 := q21
  have e22 : u 22 = v22 := q22
  have e23 : u 23 = v23 := q23
  have e24 : u 24 = v24 := q24
  rw [e0, e1, e4, e5, e6, e7, e8, e9, e10, e11, e12, e13, e14, e15, e16, e17, e18, e19, e20, e21, e22, e23, e24]
  clear q0 e0 q1 e1 q4 e4 q5 e5 q6 e6 q7 e7 q8 e8 q9 e9 q10 e10 q11 e11 q12 e12 q13 e13 q14 e14 q15 e15 q16 e16 q17 e17 q18 e18 q19 e19 q20 e20 q21 e21 q22 e22 q23 e23 q24 e24 hs1
  simp only [Try.f5, Option.getD_some, regOf] at hc
  injection hc with hc
  subst hc
  have hc : ((k + 1 : Nat) : Int) = (k : Int) + 1 := by omega
  rw [hc] at HQ
  go_wp2
  exact HQ.out _ ⟨rfl, rfl, rfl, rfl, rfl, rfl, rfl, rfl, rfl, rfl, rfl, rfl, rfl, rfl, rfl, rfl, rfl, rfl, rfl, rfl, rfl, rfl, rfl, rfl, rfl⟩
set_option maxHeartbeats 8000000 in
set_option maxRecDepth 100000 in
theorem en_r37 {K : Act → World → Prop} {c : Code} (hc : regOf (Try.f5.body.getD .skip) 37 = some c) (a : Act) {v : Ven} {wq : World}  (hF : Fen a v) (hQ : ∀ a', Fen a' { v with v23 := .int .i64 ((1 : Nat) : Int) } → K a' wq) :
    Code.wp Try.prog c (Exit.then K fun _ _ _ => False) a wq := by
  have HQ := hide hQ
  clear hQ
  obtain ⟨t', d'⟩ := a
  obtain ⟨v0, v1, v4, v5, v6, v7, v8, v9, v10, v11, v12, v13, v14, v15, v16, v17, v18, v19, v20, v21, v22, v23, v24⟩ := v
  obtain ⟨hs1, hd1, q0, q1, q4, q5, q6, q7, q8, q9, q10, q11, q12, q13, q14, q15, q16, q17, q18, q19, q20, q21, q22, q23, q24⟩ := hF
  obtain ⟨u, hu⟩ := frame_en t' hs1
  simp only at hd1 q0 q1 q4 q5 q6 q7 q8 q9 q10 q11 q12 q13 q14 q15 q16 q17 q18 q19 q20 q21 q22 q23 q24
  subst hu hd1
  have e0 : u 0 = v0 := q0
  have e1 : u 1 = v1 := q1
  have e4 : u 4 = v4 := q4
  have e5 : u 5 = v5 := q5
  have e6 : u 6 = v6 := q6
  have e7 : u 7 = v7 := q7
  have e8 : u 8 = v8 := q8
  have e9 : u 9 = v9 := q9
  have e10 : u 10 = v10 := q10
  have e11 : u 11 = v11 := q11
  have e12 : u 12 = v12 := q12
  have e13 : u 13 = v13 := q13
  have e14 : u 14 = v14 := q14
  have e15 : u 15 = v15 := q15
  have e16 : u 16 = v16 := q16
  have e17 : u 17 = v17 := q17
  have e18 : u 18 = v18 := q18
  have e19 : u 19 = v19 := q19
  have e20 : u 20 = v20 := q20
  have e21 : u 21 = v21 := q21
  have e22 : u 22 = v22 := q22
  have e23 : u 23 = v23 := q23
  have e24 : u 24 = v24 := q24
  rw [e0, e1, e4, e5, e6, e7, e8, e9, e10, e11, e12, e13, e14, e15, e16, e17, e18, e19, e20, e21, e22, e23, e24]
  clear q0 e0 q1 e1 q4 e4 q5 e5 q6 e6 q7 e7 q8 e8 q9 e9 q10 e10 q11 e11 q12 e12 q13 e13 q14 e14 q15 e15 q16 e16 q17 e17 q18 e18 q19 e19 q20 e20 q21 e21 q22 e22 q23 e23 q24 e24 hs1
  simp only [Try.f5, Option.getD_some, regOf] at hc
  injection hc with hc
  subst hc
  go_wp2
  exact HQ.out _ ⟨rfl, rfl, rfl, rfl, rfl, rfl, rfl, rfl, rfl, rfl, rfl, rfl, rfl, rfl, rfl, rfl, rfl, rfl, rfl, rfl, rfl, rfl, rfl, rfl, rfl⟩
set_option maxHeartbeats 8000000 in
set_option maxRecDepth 100000 in
theorem en_r38 {K : Act → World → Prop} {c : Code} (hc : regOf (Try.f5.body.getD .skip) 38 = some c) (a : Act) {v : Ven} {wq : World} {k n : Nat} (hF : Fen a v) (h23v : v.v23 = .int .i64 (k : Int)) (h6v : v.v6 = .int .i64 (n : Int)) (hQ : ∀ a', Fen a' v → a'.tmps.getD 155 undef = .bool (decide ((k : Int) < (n : Int))) → K a' wq) :
    Code.wp Try.prog c (Exit.then K fun _ _ _ => False) a wq := by
  have HQ := hide hQ
  clear hQ
  obtain ⟨t', d'⟩ := a
  obtain ⟨v0, v1, v4, v5, v6, v7, v8, v9, v10, v11, v12, v13, v14, v15, v16, v17, v18, v19, v20, v21, v22, v23, v24⟩ := v
  simp only at h23v h6v HQ
  subst h23v h6v
  obtain ⟨hs1, hd1, q0, q1, q4, q5, q6, q7, q8, q9, q10, q11, q12, q13, q14, q15, q16, q17, q18, q19, q20, q21, q22, q23, q24⟩ := hF
  obtain ⟨u, hu⟩ := frame_en t' hs1
  simp only at hd1 q0 q1 q4 q5 q6 q7 q8 q9 q10 q11 q12 q13 q14 q15 q16 q17 q18 q19 q20 q21 q22 q23 q24
  subst hu hd1
  have e0 : u 0 = v0 := q0
  have e1 : u 1 = v1 := q1
  have e4 : u 4 = v4 := q4
  have e5 : u 5 = v5 := q5
  have e6 : u 6 = .int .i64 (n : Int) := q6
  have e7 : u 7 = v7 := q7
  have e8 : u 8 = v8 := q8
  have e9 : u 9 = v9 := q9
  have e10 : u 10 = v10 := q10
  have e11 : u 11 = v11 := q11
  have e12 : u 12 = v12 := q12
  have e13 : u 13 = v13 := q13
  have e14 : u 14 = v14 := q14
  have e15 : u 15 = v15 := q15
  have e16 : u 16 = v16 := q16
  have e17 : u 17 = v17 := q17
  have e18 : u 18 = v18 := q18
  have e19 : u 19 = v19 := q19
  have e20 : u 20 = v20 := q20
  have e21 : u 21 = v21 := q21
  have e22 : u 22 = v22 := q22
  have e23 : u 23 = .int .i64 (k : Int) := q23
  have e24 : u 24 = v24 := q24
  rw [e0, e1, e4, e5, e6, e7, e8, e9, e10, e11, e12, e13, e14, e15, e16, e17, e18, e19, e20, e21, e22, e23, e24]
  clear q0 e0 q1 e1 q4 e4 q5 e5 q6 e6 q7 e7 q8 e8 q9 e9 q10 e10 q11 e11 q12 e12 q13 e13 q14 e14 q15 e15 q16 e16 q17 e17 q18 e18 q19 e19 q20 e20 q21 e21 q22 e22 q23 e23 q24 e24 hs1
  simp only [Try.f5, Option.getD_some, regOf] at hc
  injection hc with hc
  subst hc
  go_wp2
  exact HQ.out _ ⟨rfl, rfl, rfl, rfl, rfl, rfl, rfl, rfl, rfl, rfl, rfl, rfl, rfl, rfl, rfl, rfl, rfl, rfl, rfl, rfl, rfl, rfl, rfl, rfl, rfl⟩ (by first | rfl | (simp; done))
set_option maxHeartbeats 8000000 in
set_option maxRecDepth 100000 in
theorem en_r40 {K : Act → World → Prop} {c : Code} (hc : regOf (Try.f5.body.getD .skip) 40 = some c) (a : Act) {v : Ven} {wq : World} {R : World → Prop} {g m oc w : Nat} {a0 a1 : Addr} {x : Int} {r : Bool} (hF : Fen a v) (h9v : v.v9 = .slice (some ⟨g, 0, none⟩) m oc) (h23v : v.v23 = .int .i64 (w : Int)) (c9 : wq.cell? ⟨g, 0, none⟩ = some (.pointer (some a0))) (hw : w < m) (c0 : wq.cell? ⟨g, w, none⟩ = some (.pointer (some a1))) (hE : Calls Try.prog 19 #[.pointer (some a1), .int .i64 x] wq.drew fun e w' => e = .returned (.bool r) ∧ R w') (hR7 : Calls Try.prog 28 #[.pointer (some a0)] wq.drew fun e w' => e = .returned (.int .i64 x) ∧ w' = wq.drew)
    (hQ : ∀ a' w1, Fen a' v → R w1 → K a' w1) :
    Code.wp Try.prog c (Exit.then K fun _ _ _ => False) a wq := by
  have HQ := hide hQ
  clear hQ
  obtain ⟨t', d'⟩ := a
  obtain ⟨v0, v1, v4, v5, v6, v7, v8, v9, v10, v11, v12, v13, v14, v15, v16, v17, v18, v19, v20, v21, v22, v23, v24⟩ := v
  simp only at h9v h23v HQ
  subst h9v h23v
  obtain ⟨hs1, hd1, q0, q1, q4, q5, q6, q7, q8, q9, q10, q11, q12, q13, q14, q15, q16, q17, q18, q19, q20, q21, q22, q23, q24⟩ := hF
  obtain ⟨u, hu⟩ := frame_en t' hs1
  simp only at hd1 q0 q1 q4 q5 q6 q7 q8 q9 q10 q11 q12 q13 q14 q15 q16 q17 q18 q19 q20 q21 q22 q23 q24
  subst hu hd1
  have e0 : u 0 = v0 := q0
  have e1 : u 1 = v1 := q1
  have e4 : u 4 = v4 := q4
  have e5 : u 5 = v5 := q5
  have e6 : u 6 = v6 := q6
  have e7 : u 7 = v7 := q7
  have e8 : u 8 = v8 := q8
  have e9 : u 9 = .slice (some ⟨g, 0, none⟩) m oc := q9
  have e10 : u 10 = v10 := q10
  have e11 : u 11 = v11 := q11
  have e12 : u 12 = v12 := q12
  have e13 : u 13 = v13 := q13
  have e14 : u 14 = v14 := q14
  have e15 : u 15 = v15 := q15
  have e16 : u 16 = v16 := q16
  have e17 : u 17 = v17 := q17
  have e18 : u 18 = v18 := q18
  have e19 : u 19 = v19 := q19
  have e20 : u 20 = v20 := q20
  have e21 : u 21 = v21 := q21
  have e22 : u 22 = v22 := q22
  have e23 : u 23 = .int .i64 (w : Int) := q23
  have e24 : u 24 = v24 := q24
  rw [e0, e1, e4, e5, e6, e7, e8, e9, e10, e11, e12, e13, e14, e15, e16, e17, e18, e19, e20, e21, e22, e23, e24]
  clear q0 e0 q1 e1 q4 e4 q5 e5 q6 e6 q7 e7 q8 e8 q9 e9 q10 e10 q11 e11 q12 e12 q13 e13 q14 e14 q15 e15 q16 e16 q17 e17 q18 e18 q19 e19 q20 e20 q21 e21 q22 e22 q23 e23 q24 e24 hs1
  simp only [Try.f5, Option.getD_some, regOf] at hc
  injection hc with hc
  subst hc
  have HE := hide hE
  have HR7 := hide hR7
  clear hE hR7
  have o0 : (0 : Int) ≤ 0 := Int.le_refl _
  have hm : 0 < m := by omega
  have o1 : (0 : Int) < (m : Int) := by omega
  have i0 : (0 : Int) ≤ (w : Int) := by omega
  have i1 : (w : Int) < (m : Int) := by omega
  refine wp_region_any rfl ?_
  refine wpAny_staged (ns := 198) (uses := (fun i => match i with | 0 => [158] | 1 => [159] | 2 => [160] | 3 => [161] | 4 => [162] | 5 => [163] | 6 => [164] | 7 => [165] | 8 => [166] | _ => [])) (by kernel_rfl) (by kernel_rfl) (fun l a w => ((fun (x : Bool) (w : World) => (x = false → w = wq.drew) ∧ (x = true → R w))) (l 8) w) ⟨fun _ => rfl, fun e => by cases e⟩ (fun i => match i with | 0 => fun σ => σ 158 = .slice (some ⟨g, 0, none⟩) m oc | 1 => fun σ => σ 159 = .int .i64 (w : Int) | 2 => fun σ => σ 160 = .pointer (some ⟨g, w, none⟩) | 3 => fun σ => σ 161 = .pointer (some a1) | 4 => fun σ => σ 162 = .slice (some ⟨g, 0, none⟩) m oc | 5 => fun σ => σ 163 = .pointer (some ⟨g, 0, none⟩) | 6 => fun σ => σ 164 = .pointer (some a0) | 7 => fun σ => σ 165 = .int .i64 x | 8 => fun σ => σ 166 = .bool r | _ => fun _ => True) ?phc ?pstep ?pdone
  case phc =>
    intro i s s' hx h
    rcases i with _ | i; · exact (hx _ (List.mem_singleton.2 rfl)).symm.trans h
    rcases i with _ | i; · exact (hx _ (List.mem_singleton.2 rfl)).symm.trans h
    rcases i with _ | i; · exact (hx _ (List.mem_singleton.2 rfl)).symm.trans h
    rcases i with _ | i; · exact (hx _ (List.mem_singleton.2 rfl)).symm.trans h
    rcases i with _ | i; · exact (hx _ (List.mem_singleton.2 rfl)).symm.trans h
    rcases i with _ | i; · exact (hx _ (List.mem_singleton.2 rfl)).symm.trans h
    rcases i with _ | i; · exact (hx _ (List.mem_singleton.2 rfl)).symm.trans h
    rcases i with _ | i; · exact (hx _ (List.mem_singleton.2 rfl)).symm.trans h
    rcases i with _ | i; · exact (hx _ (List.mem_singleton.2 rfl)).symm.trans h
    exact h
  case pstep =>
    intro i o ho a' w' l hl hr hq hsa hS hd
    match i, ho, hl, hr, hq with
    | 0, ho, hl, hr, hq =>
      obtain rfl := Option.some.inj ho
      try dsimp only at hd
      have g9 : a'.tmps.getD 9 undef = .slice (some ⟨g, 0, none⟩) m oc := hsa.rest 9 (by rfl)
      have hT : ((fun (x : Bool) (w : World) => (x = false → w = wq.drew) ∧ (x = true → R w))) false w' := by have h := hS; rw [hq 8 (by kernel_rfl)] at h; exact h
      refine wpOp_of rfl rfl ?_
      refine op_run (v := .slice (some ⟨g, 0, none⟩) m oc) (w' := w') ?_ ⟨_, rfl, ?_, (by show ((fun (x : Bool) (w : World) => (x = false → w = wq.drew) ∧ (x = true → R w))) _ _; rw [updL_other l (show 8 ≠ 0 by decide)]; rw [hq 8 (by kernel_rfl)]; exact hT)⟩
      · simp only [execOp, Act.eval, g9]; first | (go_simp; done) | rfl
      · try dsimp only
        exact (slots_put (ns := 198) (hsa.size.trans rfl) (by decide))
    | 1, ho, hl, hr, hq =>
      obtain rfl := Option.some.inj ho
      try dsimp only at hd
      have g23 : a'.tmps.getD 23 undef = .int .i64 (w : Int) := hsa.rest 23 (by rfl)
      have hT : ((fun (x : Bool) (w : World) => (x = false → w = wq.drew) ∧ (x = true → R w))) false w' := by have h := hS; rw [hq 8 (by kernel_rfl)] at h; exact h
      refine wpOp_of rfl rfl ?_
      refine op_run (v := .int .i64 (w : Int)) (w' := w') ?_ ⟨_, rfl, ?_, (by show ((fun (x : Bool) (w : World) => (x = false → w = wq.drew) ∧ (x = true → R w))) _ _; rw [updL_other l (show 8 ≠ 1 by decide)]; rw [hq 8 (by kernel_rfl)]; exact hT)⟩
      · simp only [execOp, Act.eval, g23]; first | (go_simp; done) | rfl
      · try dsimp only
        exact (slots_put (ns := 198) (hsa.size.trans rfl) (by decide))
    | 2, ho, hl, hr, hq =>
      obtain rfl := Option.some.inj ho
      try dsimp only at hd
      have d0 : a'.tmps.getD 158 undef = .slice (some ⟨g, 0, none⟩) m oc := hd 0 (by rfl)
      have d1 : a'.tmps.getD 159 undef = .int .i64 (w : Int) := hd 1 (by rfl)
      have hT : ((fun (x : Bool) (w : World) => (x = false → w = wq.drew) ∧ (x = true → R w))) false w' := by have h := hS; rw [hq 8 (by kernel_rfl)] at h; exact h
      refine wpOp_of rfl rfl ?_
      refine op_run (v := .pointer (some ⟨g, w, none⟩)) (w' := w') ?_ ⟨_, rfl, ?_, (by show ((fun (x : Bool) (w : World) => (x = false → w = wq.drew) ∧ (x = true → R w))) _ _; rw [updL_other l (show 8 ≠ 2 by decide)]; rw [hq 8 (by kernel_rfl)]; exact hT)⟩
      · simp only [execOp, Act.eval, d0, d1]; first | (go_simp; done) | rfl
      · try dsimp only
        exact (slots_put (ns := 198) (hsa.size.trans rfl) (by decide))
    | 3, ho, hl, hr, hq =>
      obtain rfl := Option.some.inj ho
      try dsimp only at hd
      have d2 : a'.tmps.getD 160 undef = .pointer (some ⟨g, w, none⟩) := hd 2 (by rfl)
      have hT : ((fun (x : Bool) (w : World) => (x = false → w = wq.drew) ∧ (x = true → R w))) false w' := by have h := hS; rw [hq 8 (by kernel_rfl)] at h; exact h
      refine wpOp_of rfl rfl ?_
      have z : w'.cell? ⟨g, w, none⟩ = some (.pointer (some a1)) := by rw [hT.1 rfl]; exact c0
      refine op_run (v := .pointer (some a1)) (w' := w') ?_ ⟨_, rfl, ?_, (by show ((fun (x : Bool) (w : World) => (x = false → w = wq.drew) ∧ (x = true → R w))) _ _; rw [updL_other l (show 8 ≠ 3 by decide)]; rw [hq 8 (by kernel_rfl)]; exact hT)⟩
      · simp only [execOp, Act.eval, d2, z]; first | (go_simp; done) | rfl
      · try dsimp only
        exact (slots_put (ns := 198) (hsa.size.trans rfl) (by decide))
    | 4, ho, hl, hr, hq =>
      obtain rfl := Option.some.inj ho
      try dsimp only at hd
      have g9 : a'.tmps.getD 9 undef = .slice (some ⟨g, 0, none⟩) m oc := hsa.rest 9 (by rfl)
      have hT : ((fun (x : Bool) (w : World) => (x = false → w = wq.drew) ∧ (x = true → R w))) false w' := by have h := hS; rw [hq 8 (by kernel_rfl)] at h; exact h
      refine wpOp_of rfl rfl ?_
      refine op_run (v := .slice (some ⟨g, 0, none⟩) m oc) (w' := w') ?_ ⟨_, rfl, ?_, (by show ((fun (x : Bool) (w : World) => (x = false → w = wq.drew) ∧ (x = true → R w))) _ _; rw [updL_other l (show 8 ≠ 4 by decide)]; rw [hq 8 (by kernel_rfl)]; exact hT)⟩
      · simp only [execOp, Act.eval, g9]; first | (go_simp; done) | rfl
      · try dsimp only
        exact (slots_put (ns := 198) (hsa.size.trans rfl) (by decide))
    | 5, ho, hl, hr, hq =>
      obtain rfl := Option.some.inj ho
      try dsimp only at hd
      have d4 : a'.tmps.getD 162 undef = .slice (some ⟨g, 0, none⟩) m oc := hd 4 (by rfl)
      have hT : ((fun (x : Bool) (w : World) => (x = false → w = wq.drew) ∧ (x = true → R w))) false w' := by have h := hS; rw [hq 8 (by kernel_rfl)] at h; exact h
      refine wpOp_of rfl rfl ?_
      refine op_run (v := .pointer (some ⟨g, 0, none⟩)) (w' := w') ?_ ⟨_, rfl, ?_, (by show ((fun (x : Bool) (w : World) => (x = false → w = wq.drew) ∧ (x = true → R w))) _ _; rw [updL_other l (show 8 ≠ 5 by decide)]; rw [hq 8 (by kernel_rfl)]; exact hT)⟩
      · simp only [execOp, Act.eval, d4]; first | (go_simp; done) | rfl
      · try dsimp only
        exact (slots_put (ns := 198) (hsa.size.trans rfl) (by decide))
    | 6, ho, hl, hr, hq =>
      obtain rfl := Option.some.inj ho
      try dsimp only at hd
      have d5 : a'.tmps.getD 163 undef = .pointer (some ⟨g, 0, none⟩) := hd 5 (by rfl)
      have hT : ((fun (x : Bool) (w : World) => (x = false → w = wq.drew) ∧ (x = true → R w))) false w' := by have h := hS; rw [hq 8 (by kernel_rfl)] at h; exact h
      refine wpOp_of rfl rfl ?_
      have z : w'.cell? ⟨g, 0, none⟩ = some (.pointer (some a0)) := by rw [hT.1 rfl]; exact c9
      refine op_run (v := .pointer (some a0)) (w' := w') ?_ ⟨_, rfl, ?_, (by show ((fun (x : Bool) (w : World) => (x = false → w = wq.drew) ∧ (x = true → R w))) _ _; rw [updL_other l (show 8 ≠ 6 by decide)]; rw [hq 8 (by kernel_rfl)]; exact hT)⟩
      · simp only [execOp, Act.eval, d5, z]; first | (go_simp; done) | rfl
      · try dsimp only
        exact (slots_put (ns := 198) (hsa.size.trans rfl) (by decide))
    | 7, ho, hl, hr, hq =>
      obtain rfl := Option.some.inj ho
      try dsimp only at hd
      have d6 : a'.tmps.getD 164 undef = .pointer (some a0) := hd 6 (by rfl)
      have hT : ((fun (x : Bool) (w : World) => (x = false → w = wq.drew) ∧ (x = true → R w))) false w' := by have h := hS; rw [hq 8 (by kernel_rfl)] at h; exact h
      refine wpOp_of rfl rfl ?_
      obtain rfl := hT.1 rfl
      refine op_call 28 _ _ rfl (enters_of Try.func28 (by kernel_rfl) rfl) [.pointer (some a0)] (by simp only [List.map, Act.eval, d6]) HR7.out ?_
      rintro e w'' ⟨rfl, rfl⟩
      refine ⟨_, rfl, _, rfl, (slots_put (ns := 198) (hsa.size.trans rfl) (by decide)), (by show ((fun (x : Bool) (w : World) => (x = false → w = wq.drew) ∧ (x = true → R w))) _ _; rw [updL_other l (show 8 ≠ 7 by decide)]; rw [hq 8 (by kernel_rfl)]; exact ⟨(fun _ => rfl), (fun e => by cases e)⟩)⟩
    | 8, ho, hl, hr, hq =>
      obtain rfl := Option.some.inj ho
      try dsimp only at hd
      have d3 : a'.tmps.getD 161 undef = .pointer (some a1) := hd 3 (by rfl)
      have d7 : a'.tmps.getD 165 undef = .int .i64 x := hd 7 (by rfl)
      have hT : ((fun (x : Bool) (w : World) => (x = false → w = wq.drew) ∧ (x = true → R w))) false w' := by have h := hS; rw [hl] at h; exact h
      refine wpOp_of rfl rfl ?_
      obtain rfl := hT.1 rfl
      refine op_call 19 _ _ rfl (enters_of Try.func19 (by kernel_rfl) rfl) [.pointer (some a1), .int .i64 x] (by simp only [List.map, Act.eval, d3, d7]) HE.out ?_
      rintro e w'' ⟨rfl, r1⟩
      refine ⟨_, rfl, _, rfl, (slots_put (ns := 198) (hsa.size.trans rfl) (by decide)), (by show ((fun (x : Bool) (w : World) => (x = false → w = wq.drew) ∧ (x = true → R w))) _ _; rw [updL_same]; exact ⟨(fun e => by cases e), fun _ => r1⟩)⟩
    | (n + 9), ho, _, _, _ => exact absurd ho (by simp)
  case pdone =>
    intro a' w' l hl hsa hS hd
    have hT : ((fun (x : Bool) (w : World) => (x = false → w = wq.drew) ∧ (x = true → R w))) true w' := by have h := hS; rw [hl 8 (by decide)] at h; exact h
    have d0 : a'.tmps.getD 158 undef = .slice (some ⟨g, 0, none⟩) m oc := hd 0 (by decide)
    have d1 : a'.tmps.getD 159 undef = .int .i64 (w : Int) := hd 1 (by decide)
    have d2 : a'.tmps.getD 160 undef = .pointer (some ⟨g, w, none⟩) := hd 2 (by decide)
    have d3 : a'.tmps.getD 161 undef = .pointer (some a1) := hd 3 (by decide)
    have d4 : a'.tmps.getD 162 undef = .slice (some ⟨g, 0, none⟩) m oc := hd 4 (by decide)
    have d5 : a'.tmps.getD 163 undef = .pointer (some ⟨g, 0, none⟩) := hd 5 (by decide)
    have d6 : a'.tmps.getD 164 undef = .pointer (some a0) := hd 6 (by decide)
    have d7 : a'.tmps.getD 165 undef = .int .i64 x := hd 7 (by decide)
    have d8 : a'.tmps.getD 166 undef = .bool r := hd 8 (by decide)
    exact HQ.out a' w' ⟨hsa.size.trans rfl, hsa.defers.trans rfl, hsa.rest 0 (by rfl), hsa.rest 1 (by rfl), hsa.rest 4 (by rfl), hsa.rest 5 (by rfl), hsa.rest 6 (by rfl), hsa.rest 7 (by rfl), hsa.rest 8 (by rfl), hsa.rest 9 (by rfl), hsa.rest 10 (by rfl), hsa.rest 11 (by rfl), hsa.rest 12 (by rfl), hsa.rest 13 (by rfl), hsa.rest 14 (by rfl), hsa.rest 15 (by rfl), hsa.rest 16 (by rfl), hsa.rest 17 (by rfl), hsa.rest 18 (by rfl), hsa.rest 19 (by rfl), hsa.rest 20 (by rfl), hsa.rest 21 (by rfl), hsa.rest 22 (by rfl), hsa.rest 23 (by rfl), hsa.rest 24 (by rfl)⟩ (hT.2 rfl)
set_option maxHeartbeats 8000000 in
set_option maxRecDepth 100000 in
theorem en_r39 {K : Act → World → Prop} {c : Code} (hc : regOf (Try.f5.body.getD .skip) 39 = some c) (a : Act) {v : Ven} {wq : World} {k : Nat} (hF : Fen a v) (h23v : v.v23 = .int .i64 (k : Int)) (hk : k ≤ 1000000) (hQ : ∀ a', Fen a' { v with v23 := .int .i64 ((k + 1 : Nat) : Int) } → K a' wq) :
    Code.wp Try.prog c (Exit.then K fun _ _ _ => False) a wq := by
  have HQ := hide hQ
  clear hQ
  obtain ⟨t', d'⟩ := a
  obtain ⟨v0, v1, v4, v5, v6, v7, v8, v9, v10, v11, v12, v13, v14, v15, v16, v17, v18, v19, v20, v21, v22, v23, v24⟩ := v
  simp only at h23v HQ
  subst h23v
  obtain ⟨hs1, hd1, q0, q1, q4, q5, q6, q7, q8, q9, q10, q11, q12, q13, q14, q15, q16, q17, q18, q19, q20, q21, q22, q23, q24⟩ := hF
  obtain ⟨u, hu⟩ := frame_en t' hs1
  simp only at hd1 q0 q1 q4 q5 q6 q7 q8 q9 q10 q11 q12 q13 q14 q15 q16 q17 q18 q19 q20 q21 q22 q23 q24
  subst hu hd1
  have e0 : u 0 = v0 := q0
  have e1 : u 1 = v1 := q1
  have e4 : u 4 = v4 := q4
  have e5 : u 5 = v5 := q5
  have e6 : u 6 = v6 := q6
  have e7 : u 7 = v7 := q7
  have e8 : u 8 = v8 := q8
  have e9 : u 9 = v9 := q9
  have e10 : u 10 = v10 := q10
  have e11 : u 11 = v11 := q11
  have e12 : u 12 = v12 := q12
  have e13 : u 13 = v13 := q13
  have e14 : u 14 = v14 := q14
  have e15 : u 15 = v15 := q15
  have e16 : u 16 = v16 := q16
  have e17 : u 17 = v17 := q17
  have e18 : u 18 = v18 := q18
  have e19 : u 19 = v19 := q19
  have e20 : u 20 = v20 := q20
  have e21 : u 21 = v21 := q21
  have e22 : u 22 = v22 := q22
  have e23 : u 23 = .int .i64 (k : Int) := q23
  have e24 : u 24 = v24 := q24
  rw [e0, e1, e4, e5, e6, e7, e8, e9, e10, e11, e12, e13, e14, e15, e16, e17, e18, e19, e20, e21, e22, e23, e24]
  clear q0 e0 q1 e1 q4 e4 q5 e5 q6 e6 q7 e7 q8 e8 q9 e9 q10 e10 q11 e11 q12 e12 q13 e13 q14 e14 q15 e15 q16 e16 q17 e17 q18 e18 q19 e19 q20 e20 q21 e21 q22 e22 q23 e23 q24 e24 hs1
  simp only [Try.f5, Option.getD_some, regOf] at hc
  injection hc with hc
  subst hc
  have hc : ((k + 1 : Nat) : Int) = (k : Int) + 1 := by omega
  rw [hc] at HQ
  go_wp2
  exact HQ.out _ ⟨rfl, rfl, rfl, rfl, rfl, rfl, rfl, rfl, rfl, rfl, rfl, rfl, rfl, rfl, rfl, rfl, rfl, rfl, rfl, rfl, rfl, rfl, rfl, rfl, rfl⟩
set_option maxHeartbeats 8000000 in
set_option maxRecDepth 100000 in
theorem en_r41 {K : Act → World → Prop} {c : Code} (hc : regOf (Try.f5.body.getD .skip) 41 = some c) (a : Act) {v : Ven} {wq : World}  (hF : Fen a v) (hQ : ∀ a', Fen a' { v with v24 := .int .i64 ((0 : Nat) : Int) } → K a' wq) :
    Code.wp Try.prog c (Exit.then K fun _ _ _ => False) a wq := by
  have HQ := hide hQ
  clear hQ
  obtain ⟨t', d'⟩ := a
  obtain ⟨v0, v1, v4, v5, v6, v7, v8, v9, v10, v11, v12, v13, v14, v15, v16, v17, v18, v19, v20, v21, v22, v23, v24⟩ := v
  obtain ⟨hs1, hd1, q0, q1, q4, q5, q6, q7, q8, q9, q10, q11, q12, q13, q14, q15, q16, q17, q18, q19, q20, q21, q22, q23, q24⟩ := hF
  obtain ⟨u, hu⟩ := frame_en t' hs1
  simp only at hd1 q0 q1 q4 q5 q6 q7 q8 q9 q10 q11 q12 q13 q14 q15 q16 q17 q18 q19 q20 q21 q22 q23 q24
  subst hu hd1
  have e0 : u 0 = v0 := q0
  have e1 : u 1 = v1 := q1
  have e4 : u 4 = v4 := q4
  have e5 : u 5 = v5 := q5
  have e6 : u 6 = v6 := q6
  have e7 : u 7 = v7 := q7
  have e8 : u 8 = v8 := q8
  have e9 : u 9 = v9 := q9
  have e10 : u 10 = v10 := q10
  have e11 : u 11 = v11 := q11
  have e12 : u 12 = v12 := q12
  have e13 : u 13 = v13 := q13
  have e14 : u 14 = v14 := q14
  have e15 : u 15 = v15 := q15
  have e16 : u 16 = v16 := q16
  have e17 : u 17 = v17 := q17
  have e18 : u 18 = v18 := q18
  have e19 : u 19 = v19 := q19
  have e20 : u 20 = v20 := q20
  have e21 : u 21 = v21 := q21
  have e22 : u 22 = v22 := q22
  have e23 : u 23 = v23 := q23
  have e24 : u 24 = v24 := q24
  rw [e0, e1, e4, e5, e6, e7, e8, e9, e10, e11, e12, e13, e14, e15, e16, e17, e18, e19, e20, e21, e22, e23, e24]
  clear q0 e0 q1 e1 q4 e4 q5 e5 q6 e6 q7 e7 q8 e8 q9 e9 q10 e10 q11 e11 q12 e12 q13 e13 q14 e14 q15 e15 q16 e16 q17 e17 q18 e18 q19 e19 q20 e20 q21 e21 q22 e22 q23 e23 q24 e24 hs1
  simp only [Try.f5, Option.getD_some, regOf] at hc
  injection hc with hc
  subst hc
  go_wp2
  exact HQ.out _ ⟨rfl, rfl, rfl, rfl, rfl, rfl, rfl, rfl, rfl, rfl, rfl, rfl, rfl, rfl, rfl, rfl, rfl, rfl, rfl, rfl, rfl, rfl, rfl, rfl, rfl⟩
set_option maxHeartbeats 8000000 in
set_option maxRecDepth 100000 in
theorem en_r42 {K : Act → World → Prop} {c : Code} (hc : regOf (Try.f5.body.getD .skip) 42 = some c) (a : Act) {v : Ven} {wq : World} {k n : Nat} (hF : Fen a v) (h24v : v.v24 = .int .i64 (k : Int)) (h6v : v.v6 = .int .i64 (n : Int)) (hQ : ∀ a', Fen a' v → a'.tmps.getD 169 undef = .bool (decide ((k : Int) < (n : Int))) → K a' wq) :
    Code.wp Try.prog c (Exit.then K fun _ _ _ => False) a wq := by
  have HQ := hide hQ
  clear hQ
  obtain ⟨t', d'⟩ := a
  obtain ⟨v0, v1, v4, v5, v6, v7, v8, v9, v10, v11, v12, v13, v14, v15, v16, v17, v18, v19, v20, v21, v22, v23, v24⟩ := v
  simp only at h24v h6v HQ
  subst h24v h6v
  obtain ⟨hs1, hd1, q0, q1, q4, q5, q6, q7, q8, q9, q10, q11, q12, q13, q14, q15, q16, q17, q18, q19, q20, q21, q22, q23, q24⟩ := hF
  obtain ⟨u, hu⟩ := frame_en t' hs1
  simp only at hd1 q0 q1 q4 q5 q6 q7 q8 q9 q10 q11 q12 q13 q14 q15 q16 q17 q18 q19 q20 q21 q22 q23 q24
  subst hu hd1
  have e0 : u 0 = v0 := q0
  have e1 : u 1 = v1 := q1
  have e4 : u 4 = v4 := q4
  have e5 : u 5 = v5 := q5
  have e6 : u 6 = .int .i64 (n : Int) := q6
  have e7 : u 7 = v7 := q7
  have e8 : u 8 = v8 := q8
  have e9 : u 9 = v9 := q9
  have e10 : u 10 = v10 := q10
  have e11 : u 11 = v11 := q11
  have e12 : u 12 = v12 := q12
  have e13 : u 13 = v13 := q13
  have e14 : u 14 = v14 := q14
  have e15 : u 15 = v15 := q15
  have e16 : u 16 = v16 := q16
  have e17 : u 17 = v17 := q17
  have e18 : u 18 = v18 := q18
  have e19 : u 19 = v19 := q19
  have e20 : u 20 = v20 := q20
  have e21 : u 21 = v21 := q21
  have e22 : u 22 = v22 := q22
  have e23 : u 23 = v23 := q23
  have e24 : u 24 = .int .i64 (k : Int) := q24
  rw [e0, e1, e4, e5, e6, e7, e8, e9, e10, e11, e12, e13, e14, e15, e16, e17, e18, e19, e20, e21, e22, e23, e24]
  clear q0 e0 q1 e1 q4 e4 q5 e5 q6 e6 q7 e7 q8 e8 q9 e9 q10 e10 q11 e11 q12 e12 q13 e13 q14 e14 q15 e15 q16 e16 q17 e17 q18 e18 q19 e19 q20 e20 q21 e21 q22 e22 q23 e23 q24 e24 hs1
  simp only [Try.f5, Option.getD_some, regOf] at hc
  injection hc with hc
  subst hc
  go_wp2
  exact HQ.out _ ⟨rfl, rfl, rfl, rfl, rfl, rfl, rfl, rfl, rfl, rfl, rfl, rfl, rfl, rfl, rfl, rfl, rfl, rfl, rfl, rfl, rfl, rfl, rfl, rfl, rfl⟩ (by first | rfl | (simp; done))
set_option maxHeartbeats 8000000 in
set_option maxRecDepth 100000 in
theorem en_r44 {K : Act → World → Prop} {c : Code} (hc : regOf (Try.f5.body.getD .skip) 44 = some c) (a : Act) {v : Ven} {wq : World} {g m oc w : Nat} {a1 : Addr} {x b : Int} (hF : Fen a v) (h9v : v.v9 = .slice (some ⟨g, 0, none⟩) m oc) (h24v : v.v24 = .int .i64 (w : Int)) (h14v : v.v14 = .int .i64 x) (h13v : v.v13 = .int .i64 b) (hw : w < m) (c0 : wq.cell? ⟨g, w, none⟩ = some (.pointer (some a1)))  (h0 : Calls Try.prog 28 #[.pointer (some a1)] wq fun e w' => e = .returned (.int .i64 x) ∧ w' = wq) (h1 : Calls Try.prog 25 #[.pointer (some a1)] wq fun e w' => e = .returned (.int .i64 x) ∧ w' = wq) (h2 : Calls Try.prog 26 #[.pointer (some a1)] wq fun e w' => e = .returned (.int .i64 b) ∧ w' = wq)
    (hQ : ∀ a', Fen a' v → a'.tmps.getD 196 undef = .bool false → K a' wq) :
    Code.wp Try.prog c (Exit.then K fun _ _ _ => False) a wq := by
  have HQ := hide hQ
  clear hQ
  obtain ⟨t', d'⟩ := a
  obtain ⟨v0, v1, v4, v5, v6, v7, v8, v9, v10, v11, v12, v13, v14, v15, v16, v17, v18, v19, v20, v21, v22, v23, v24⟩ := v
  simp only at h9v h24v h14v h13v HQ
  subst h9v h24v h14v h13v
  obtain ⟨hs1, hd1, q0, q1, q4, q5, q6, q7, q8, q9, q10, q11, q12, q13, q14, q15, q16, q17, q18, q19, q20, q21, q22, q23, q24⟩ := hF
  obtain ⟨u, hu⟩ := frame_en t' hs1
  simp only at hd1 q0 q1 q4 q5 q6 q7 q8 q9 q10 q11 q12 q13 q14 q15 q16 q17 q18 q19 q20 q21 q22 q23 q24
  subst hu hd1
  have e0 : u 0 = v0 := q0
  have e1 : u 1 = v1 := q1
  have e4 : u 4 = v4 := q4
  have e5 : u 5 = v5 := q5
  have e6 : u 6 = v6 := q6
  have e7 : u 7 = v7 := q7
  have e8 : u 8 = v8 := q8
  have e9 : u 9 = .slice (some ⟨g, 0, none⟩) m oc := q9
  have e10 : u 10 = v10 := q10
  have e11 : u 11 = v11 := q11
  have e12 : u 12 = v12 := q12
  have e13 : u 13 = .int .i64 b := q13
  have e14 : u 14 = .int .i64 x := q14
  have e15 : u 15 = v15 := q15
  have e16 : u 16 = v16 := q16
  have e17 : u 17 = v17 := q17
  have e18 : u 18 = v18 := q18
  have e19 : u 19 = v19 := q19
  have e20 : u 20 = v20 := q20
  have e21 : u 21 = v21 := q21
  have e22 : u 22 = v22 := q22
  have e23 : u 23 = v23 := q23
  have e24 : u 24 = .int .i64 (w : Int) := q24
  rw [e0, e1, e4, e5, e6, e7, e8, e9, e10, e11, e12, e13, e14, e15, e16, e17, e18, e19, e20, e21, e22, e23, e24]
  clear q0 e0 q1 e1 q4 e4 q5 e5 q6 e6 q7 e7 q8 e8 q9 e9 q10 e10 q11 e11 q12 e12 q13 e13 q14 e14 q15 e15 q16 e16 q17 e17 q18 e18 q19 e19 q20 e20 q21 e21 q22 e22 q23 e23 q24 e24 hs1
  simp only [Try.f5, Option.getD_some, regOf] at hc
  injection hc with hc
  subst hc
  have i0 : (0 : Int) ≤ (w : Int) := by omega
  have i1 : (w : Int) < (m : Int) := by omega
  have H0 := hide h0
  have H1 := hide h1
  have H2 := hide h2
  clear h0 h1 h2
  go_wp2_with (first | (go_at_call 28; refine H0.out.mono ?_; rintro e w9 ⟨rfl, h9⟩; subst w9) | (go_at_call 25; refine H1.out.mono ?_; rintro e w9 ⟨rfl, h9⟩; subst w9) | (go_at_call 26; refine H2.out.mono ?_; rintro e w9 ⟨rfl, h9⟩; subst w9))
  exact HQ.out _ ⟨rfl, rfl, rfl, rfl, rfl, rfl, rfl, rfl, rfl, rfl, rfl, rfl, rfl, rfl, rfl, rfl, rfl, rfl, rfl, rfl, rfl, rfl, rfl, rfl, rfl⟩ (by first | rfl | (simp; done))
set_option maxHeartbeats 8000000 in
set_option maxRecDepth 100000 in
theorem en_r43 {K : Act → World → Prop} {c : Code} (hc : regOf (Try.f5.body.getD .skip) 43 = some c) (a : Act) {v : Ven} {wq : World} {k : Nat} (hF : Fen a v) (h24v : v.v24 = .int .i64 (k : Int)) (hk : k ≤ 1000000) (hQ : ∀ a', Fen a' { v with v24 := .int .i64 ((k + 1 : Nat) : Int) } → K a' wq) :
    Code.wp Try.prog c (Exit.then K fun _ _ _ => False) a wq := by
  have HQ := hide hQ
  clear hQ
  obtain ⟨t', d'⟩ := a
  obtain ⟨v0, v1, v4, v5, v6, v7, v8, v9, v10, v11, v12, v13, v14, v15, v16, v17, v18, v19, v20, v21, v22, v23, v24⟩ := v
  simp only at h24v HQ
  subst h24v
  obtain ⟨hs1, hd1, q0, q1, q4, q5, q6, q7, q8, q9, q10, q11, q12, q13, q14, q15, q16, q17, q18, q19, q20, q21, q22, q23, q24⟩ := hF
  obtain ⟨u, hu⟩ := frame_en t' hs1
  simp only at hd1 q0 q1 q4 q5 q6 q7 q8 q9 q10 q11 q12 q13 q14 q15 q16 q17 q18 q19 q20 q21 q22 q23 q24
  subst hu hd1
  have e0 : u 0 = v0 := q0
  have e1 : u 1 = v1 := q1
  have e4 : u 4 = v4 := q4
  have e5 : u 5 = v5 := q5
  have e6 : u 6 = v6 := q6
  have e7 : u 7 = v7 := q7
  have e8 : u 8 = v8 := q8
  have e9 : u 9 = v9 := q9
  have e10 : u 10 = v10 := q10
  have e11 : u 11 = v11 := q11
  have e12 : u 12 = v12 := q12
  have e13 : u 13 = v13 := q13
  have e14 : u 14 = v14 := q14
  have e15 : u 15 = v15 := q15
  have e16 : u 16 = v16 := q16
  have e17 : u 17 = v17 := q17
  have e18 : u 18 = v18 := q18
  have e19 : u 19 = v19 := q19
  have e20 : u 20 = v20 := q20
  have e21 : u 21 = v21 := q21
  have e22 : u 22 = v22 := q22
  have e23 : u 23 = v23 := q23
  have e24 : u 24 = .int .i64 (k : Int) := q24
  rw [e0, e1, e4, e5, e6, e7, e8, e9, e10, e11, e12, e13, e14, e15, e16, e17, e18, e19, e20, e21, e22, e23, e24]
  clear q0 e0 q1 e1 q4 e4 q5 e5 q6 e6 q7 e7 q8 e8 q9 e9 q10 e10 q11 e11 q12 e12 q13 e13 q14 e14 q15 e15 q16 e16 q17 e17 q18 e18 q19 e19 q20 e20 q21 e21 q22 e22 q23 e23 q24 e24 hs1
  simp only [Try.f5, Option.getD_some, regOf] at hc
  injection hc with hc
  subst hc
  have hc : ((k + 1 : Nat) : Int) = (k : Int) + 1 := by omega
  rw [hc] at HQ
  go_wp2
  exact HQ.out _ ⟨rfl, rfl, rfl, rfl, rfl, rfl, rfl, rfl, rfl, rfl, rfl, rfl, rfl, rfl, rfl, rfl, rfl, rfl, rfl, rfl, rfl, rfl, rfl, rfl, rfl⟩
set_option maxHeartbeats 8000000 in
set_option maxRecDepth 100000 in
theorem en_r46 {K : Act → World → Prop} {c : Code} (hc : regOf (Try.f5.body.getD .skip) 46 = some c) (a : Act) {v : Ven} {wq : World}  (hF : Fen a v) (h5v : v.v5 = .bool true) (hQ : ∀ a', Fen a' { v with v4 := .bool true } → K a' wq) :
    Code.wp Try.prog c (Exit.then K fun _ _ _ => False) a wq := by
  have HQ := hide hQ
  clear hQ
  obtain ⟨t', d'⟩ := a
  obtain ⟨v0, v1, v4, v5, v6, v7, v8, v9, v10, v11, v12, v13, v14, v15, v16, v17, v18, v19, v20, v21, v22, v23, v24⟩ := v
  simp only at h5v HQ
  subst h5v
  obtain ⟨hs1, hd1, q0, q1, q4, q5, q6, q7, q8, q9, q10, q11, q12, q13, q14, q15, q16, q17, q18, q19, q20, q21, q22, q23, q24⟩ := hF
  obtain ⟨u, hu⟩ := frame_en t' hs1
  simp only at hd1 q0 q1 q4 q5 q6 q7 q8 q9 q10 q11 q12 q13 q14 q15 q16 q17 q18 q19 q20 q21 q22 q23 q24
  subst hu hd1
  have e0 : u 0 = v0 := q0
  have e1 : u 1 = v1 := q1
  have e4 : u 4 = v4 := q4
  have e5 : u 5 = .bool true := q5
  have e6 : u 6 = v6 := q6
  have e7 : u 7 = v7 := q7
  have e8 : u 8 = v8 := q8
  have e9 : u 9 = v9 := q9
  have e10 : u 10 = v10 := q10
  have e11 : u 11 = v11 := q11
  have e12 : u 12 = v12 := q12
  have e13 : u 13 = v13 := q13
  have e14 : u 14 = v14 := q14
  have e15 : u 15 = v15 := q15
  have e16 : u 16 = v16 := q16
  have e17 : u 17 = v17 := q17
  have e18 : u 18 = v18 := q18
  have e19 : u 19 = v19 := q19
  have e20 : u 20 = v20 := q20
  have e21 : u 21 = v21 := q21
  have e22 : u 22 = v22 := q22
  have e23 : u 23 = v23 := q23
  have e24 : u 24 = v24 := q24
  rw [e0, e1, e4, e5, e6, e7, e8, e9, e10, e11, e12, e13, e14, e15, e16, e17, e18, e19, e20, e21, e22, e23, e24]
  clear q0 e0 q1 e1 q4 e4 q5 e5 q6 e6 q7 e7 q8 e8 q9 e9 q10 e10 q11 e11 q12 e12 q13 e13 q14 e14 q15 e15 q16 e16 q17 e17 q18 e18 q19 e19 q20 e20 q21 e21 q22 e22 q23 e23 q24 e24 hs1
  simp only [Try.f5, Option.getD_some, regOf] at hc
  injection hc with hc
  subst hc
  go_wp2
  exact HQ.out _ ⟨rfl, rfl, rfl, rfl, rfl, rfl, rfl, rfl, rfl, rfl, rfl, rfl, rfl, rfl, rfl, rfl, rfl, rfl, rfl, rfl, rfl, rfl, rfl, rfl, rfl⟩
theorem en_ret {W : World} {a : Act} {v : Ven} {x : Bool} {R : Ending → World → Prop} (hF : Fen a v) (h2 : v.v4 = .bool x) (h : R (.returned (.bool x)) W) : bodyPost Try.prog Try.f5 R .ret a W := by
  have g0 := slot_get (hF.s4.trans h2)
  refine bodyPost_ret (v := .bool x) ?_ hF.defers h
  simp [results, Try.results5, go_sem, g0]
end Go.Proofs.Ytjgbgbgajadgnaa
