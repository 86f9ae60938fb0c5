/-
  OrderAgrees' regions (mkow5.py).
-/
import Derived.Test.YtjgbgbgajadgnaaZOW4
import Derived.Test.YtjgbgbgajadgnaaZTK
import Derived.Laws.StructEq
namespace Go.Proofs.Ytjgbgbgajadgnaa
open Go.RowKit

attribute [local go_sem ↓] Go.wp_at_zero Go.wp_at_succ
set_option linter.unusedSimpArgs false
set_option linter.unusedVariables false
theorem infoTells : (Try.prog.info? 55).map (fun i => (i.zero, i.size, i.bytes)) = some (some (.slice none 0 0), 1, 24) := by kernel_rfl
theorem infoTell : (Try.prog.info? 57).map (fun i => (i.zero, i.size, i.bytes)) = some (some (.agg #[.int .i64 0, .int .i64 0, .slice none 0 0]), 3, 40) := by kernel_rfl
theorem xset {w : World} {b o : Nat} {t : TypeId} {cs : Array Value} {x : Value} (h : w.heap[b]? = some (.cells cs t (0, 0))) : (w.setCell ⟨b, o, none⟩ x).heap[b]? = some (.cells (cs.setIfInBounds o x) t (0, 0)) := by
  simp [World.setCell, Array.getElem?_modify, h]
set_option maxRecDepth 100000 in
theorem frame_aa (t : Array Value) (h : t.size = 198) : ∃ u : Nat → Value, t = List.toArray (u 0 :: u 1 :: u 2 :: u 3 :: u 4 :: u 5 :: u 6 :: u 7 :: u 8 :: u 9 :: u 10 :: u 11 :: u 12 :: u 13 :: u 14 :: u 15 :: u 16 :: u 17 :: u 18 :: u 19 :: u 20 :: u 21 :: u 22 :: u 23 :: u 24 :: u 25 :: u 26 :: u 27 :: u 28 :: u 29 :: u 30 :: u 31 :: u 32 :: u 33 :: u 34 :: u 35 :: u 36 :: u 37 :: u 38 :: u 39 :: u 40 :: u 41 :: u 42 :: u 43 :: u 44 :: u 45 :: u 46 :: u 47 :: u 48 :: u 49 :: u 50 :: u 51 :: u 52 :: u 53 :: u 54 :: u 55 :: u 56 :: u 57 :: u 58 :: u 59 :: u 60 :: u 61 :: u 62 :: u 63 :: u 64 :: u 65 :: u 66 :: u 67 :: u 68 :: u 69 :: u 70 :: u 71 :: u 72 :: u 73 :: u 74 :: u 75 :: u 76 :: u 77 :: u 78 :: u 79 :: u 80 :: u 81 :: u 82 :: u 83 :: u 84 :: u 85 :: u 86 :: u 87 :: u 88 :: u 89 :: u 90 :: u 91 :: u 92 :: u 93 :: u 94 :: u 95 :: u 96 :: u 97 :: u 98 :: u 99 :: u 100 :: u 101 :: u 102 :: u 103 :: u 104 :: u 105 :: u 106 :: u 107 :: u 108 :: u 109 :: u 110 :: u 111 :: u 112 :: u 113 :: u 114 :: u 115 :: u 116 :: u 117 :: u 118 :: u 119 :: u 120 :: u 121 :: u 122 :: u 123 :: u 124 :: u 125 :: u 126 :: u 127 :: u 128 :: u 129 :: u 130 :: u 131 :: u 132 :: u 133 :: u 134 :: u 135 :: u 136 :: u 137 :: u 138 :: u 139 :: u 140 :: u 141 :: u 142 :: u 143 :: u 144 :: u 145 :: u 146 :: u 147 :: u 148 :: u 149 :: u 150 :: u 151 :: u 152 :: u 153 :: u 154 :: u 155 :: u 156 :: u 157 :: u 158 :: u 159 :: u 160 :: u 161 :: u 162 :: u 163 :: u 164 :: u 165 :: u 166 :: u 167 :: u 168 :: u 169 :: u 170 :: u 171 :: u 172 :: u 173 :: u 174 :: u 175 :: u 176 :: u 177 :: u 178 :: u 179 :: u 180 :: u 181 :: u 182 :: u 183 :: u 184 :: u 185 :: u 186 :: u 187 :: u 188 :: u 189 :: u 190 :: u 191 :: u 192 :: u 193 :: u 194 :: u 195 :: u 196 :: u 197 :: []) := by
  refine ⟨fun i => t.getD i undef, ?_⟩
  have e : (List.toArray ((fun i => t.getD i undef) 0 :: (fun i => t.getD i undef) 1 :: (fun i => t.getD i undef) 2 :: (fun i => t.getD i undef) 3 :: (fun i => t.getD i undef) 4 :: (fun i => t.getD i undef) 5 :: (fun i => t.getD i undef) 6 :: (fun i => t.getD i undef) 7 :: (fun i => t.getD i undef) 8 :: (fun i => t.getD i undef) 9 :: (fun i => t.getD i undef) 10 :: (fun i => t.getD i undef) 11 :: (fun i => t.getD i undef) 12 :: (fun i => t.getD i undef) 13 :: (fun i => t.getD i undef) 14 :: (fun i => t.getD i undef) 15 :: (fun i => t.getD i undef) 16 :: (fun i => t.getD i undef) 17 :: (fun i => t.getD i undef) 18 :: (fun i => t.getD i undef) 19 :: (fun i => t.getD i undef) 20 :: (fun i => t.getD i undef) 21 :: (fun i => t.getD i undef) 22 :: (fun i => t.getD i undef) 23 :: (fun i => t.getD i undef) 24 :: (fun i => t.getD i undef) 25 :: (fun i => t.getD i undef) 26 :: (fun i => t.getD i undef) 27 :: (fun i => t.getD i undef) 28 :: (fun i => t.getD i undef) 29 :: (fun i => t.getD i undef) 30 :: (fun i => t.getD i undef) 31 :: (fun i => t.getD i undef) 32 :: (fun i => t.getD i undef) 33 :: (fun i => t.getD i undef) 34 :: (fun i => t.getD i undef) 35 :: (fun i => t.getD i undef) 36 :: (fun i => t.getD i undef) 37 :: (fun i => t.getD i undef) 38 :: (fun i => t.getD i undef) 39 :: (fun i => t.getD i undef) 40 :: (fun i => t.getD i undef) 41 :: (fun i => t.getD i undef) 42 :: (fun i => t.getD i undef) 43 :: (fun i => t.getD i undef) 44 :: (fun i => t.getD i undef) 45 :: (fun i => t.getD i undef) 46 :: (fun i => t.getD i undef) 47 :: (fun i => t.getD i undef) 48 :: (fun i => t.getD i undef) 49 :: (fun i => t.getD i undef) 50 :: (fun i => t.getD i undef) 51 :: (fun i => t.getD i undef) 52 :: (fun i => t.getD i undef) 53 :: (fun i => t.getD i undef) 54 :: (fun i => t.getD i undef) 55 :: (fun i => t.getD i undef) 56 :: (fun i => t.getD i undef) 57 :: (fun i => t.getD i undef) 58 :: (fun i => t.getD i undef) 59 :: (fun i => t.getD i undef) 60 :: (fun i => t.getD i undef) 61 :: (fun i => t.getD i undef) 62 :: (fun i => t.getD i undef) 63 :: (fun i => t.getD i undef) 64 :: (fun i => t.getD i undef) 65 :: (fun i => t.getD i undef) 66 :: (fun i => t.getD i undef) 67 :: (fun i => t.getD i undef) 68 :: (fun i => t.getD i undef) 69 :: (fun i => t.getD i undef) 70 :: (fun i => t.getD i undef) 71 :: (fun i => t.getD i undef) 72 :: (fun i => t.getD i undef) 73 :: (fun i => t.getD i undef) 74 :: (fun i => t.getD i undef) 75 :: (fun i => t.getD i undef) 76 :: (fun i => t.getD i undef) 77 :: (fun i => t.getD i undef) 78 :: (fun i => t.getD i undef) 79 :: (fun i => t.getD i undef) 80 :: (fun i => t.getD i undef) 81 :: (fun i => t.getD i undef) 82 :: (fun i => t.getD i undef) 83 :: (fun i => t.getD i undef) 84 :: (fun i => t.getD i undef) 85 :: (fun i => t.getD i undef) 86 :: (fun i => t.getD i undef) 87 :: (fun i => t.getD i undef) 88 :: (fun i => t.getD i undef) 89 :: (fun i => t.getD i undef) 90 :: (fun i => t.getD i undef) 91 :: (fun i => t.getD i undef) 92 :: (fun i => t.getD i undef) 93 :: (fun i => t.getD i undef) 94 :: (fun i => t.getD i undef) 95 :: (fun i => t.getD i undef) 96 :: (fun i => t.getD i undef) 97 :: (fun i => t.getD i undef) 98 :: (fun i => t.getD i undef) 99 :: (fun i => t.getD i undef) 100 :: (fun i => t.getD i undef) 101 :: (fun i => t.getD i undef) 102 :: (fun i => t.getD i undef) 103 :: (fun i => t.getD i undef) 104 :: (fun i => t.getD i undef) 105 :: (fun i => t.getD i undef) 106 :: (fun i => t.getD i undef) 107 :: (fun i => t.getD i undef) 108 :: (fun i => t.getD i undef) 109 :: (fun i => t.getD i undef) 110 :: (fun i => t.getD i undef) 111 :: (fun i => t.getD i undef) 112 :: (fun i => t.getD i undef) 113 :: (fun i => t.getD i undef) 114 :: (fun i => t.getD i undef) 115 :: (fun i => t.getD i undef) 116 :: (fun i => t.getD i undef) 117 :: (fun i => t.getD i undef) 118 :: (fun i => t.getD i undef) 119 :: (fun i => t.getD i undef) 120 :: (fun i => t.getD i undef) 121 :: (fun i => t.getD i undef) 122 :: (fun i => t.getD i undef) 123 :: (fun i => t.getD i undef) 124 :: (fun i => t.getD i undef) 125 :: (fun i => t.getD i undef) 126 :: (fun i => t.getD i undef) 127 :: (fun i => t.getD i undef) 128 :: (fun i => t.getD i undef) 129 :: (fun i => t.getD i undef) 130 :: (fun i => t.getD i undef) 131 :: (fun i => t.getD i undef) 132 :: (fun i => t.getD i undef) 133 :: (fun i => t.getD i undef) 134 :: (fun i => t.getD i undef) 135 :: (fun i => t.getD i undef) 136 :: (fun i => t.getD i undef) 137 :: (fun i => t.getD i undef) 138 :: (fun i => t.getD i undef) 139 :: (fun i => t.getD i undef) 140 :: (fun i => t.getD i undef) 141 :: (fun i => t.getD i undef) 142 :: (fun i => t.getD i undef) 143 :: (fun i => t.getD i undef) 144 :: (fun i => t.getD i undef) 145 :: (fun i => t.getD i undef) 146 :: (fun i => t.getD i undef) 147 :: (fun i => t.getD i undef) 148 :: (fun i => t.getD i undef) 149 :: (fun i => t.getD i undef) 150 :: (fun i => t.getD i undef) 151 :: (fun i => t.getD i undef) 152 :: (fun i => t.getD i undef) 153 :: (fun i => t.getD i undef) 154 :: (fun i => t.getD i undef) 155 :: (fun i => t.getD i undef) 156 :: (fun i => t.getD i undef) 157 :: (fun i => t.getD i undef) 158 :: (fun i => t.getD i undef) 159 :: (fun i => t.getD i undef) 160 :: (fun i => t.getD i undef) 161 :: (fun i => t.getD i undef) 162 :: (fun i => t.getD i undef) 163 :: (fun i => t.getD i undef) 164 :: (fun i => t.getD i undef) 165 :: (fun i => t.getD i undef) 166 :: (fun i => t.getD i undef) 167 :: (fun i => t.getD i undef) 168 :: (fun i => t.getD i undef) 169 :: (fun i => t.getD i undef) 170 :: (fun i => t.getD i undef) 171 :: (fun i => t.getD i undef) 172 :: (fun i => t.getD i undef) 173 :: (fun i => t.getD i undef) 174 :: (fun i => t.getD i undef) 175 :: (fun i => t.getD i undef) 176 :: (fun i => t.getD i undef) 177 :: (fun i => t.getD i undef) 178 :: (fun i => t.getD i undef) 179 :: (fun i => t.getD i undef) 180 :: (fun i => t.getD i undef) 181 :: (fun i => t.getD i undef) 182 :: (fun i => t.getD i undef) 183 :: (fun i => t.getD i undef) 184 :: (fun i => t.getD i undef) 185 :: (fun i => t.getD i undef) 186 :: (fun i => t.getD i undef) 187 :: (fun i => t.getD i undef) 188 :: (fun i => t.getD i undef) 189 :: (fun i => t.getD i undef) 190 :: (fun i => t.getD i undef) 191 :: (fun i => t.getD i undef) 192 :: (fun i => t.getD i undef) 193 :: (fun i => t.getD i undef) 194 :: (fun i => t.getD i undef) 195 :: (fun i => t.getD i undef) 196 :: (fun i => t.getD i undef) 197 :: []) : Array Value) = ((List.range 198).map fun i => t.getD i undef).toArray := rfl
  refine Eq.trans ?_ e.symm
  apply Array.ext
  · simp [h]
  · intro k h1 h2
    simp [Array.getD, h1]
/-- The slots that matter. -/
structure Vaa where
  v0 : Value
  v1 : Value
  v2 : Value
  v6 : Value
  v7 : Value
  v8 : Value
  v9 : Value
  v10 : Value
  v11 : Value
  v12 : Value
  v13 : Value
  v14 : Value
  v15 : Value
  v16 : Value
  v17 : Value
  v18 : Value
  v19 : Value
  v20 : Value
  v21 : Value
  v22 : Value
  v23 : Value
  v24 : Value
  v89 : Value
structure Faa (a : Act) (v : Vaa) : Prop where
  size : a.tmps.size = 198
  defers : a.defers = []
  s0 : a.tmps.getD 0 undef = v.v0
  s1 : a.tmps.getD 1 undef = v.v1
  s2 : a.tmps.getD 2 undef = v.v2
  s6 : a.tmps.getD 6 undef = v.v6
  s7 : a.tmps.getD 7 undef = v.v7
  s8 : a.tmps.getD 8 undef = v.v8
  s9 : a.tmps.getD 9 undef = v.v9
  s10 : a.tmps.getD 10 undef = v.v10
  s11 : a.tmps.getD 11 undef = v.v11
  s12 : a.tmps.getD 12 undef = v.v12
  s13 : a.tmps.getD 13 undef = v.v13
  s14 : a.tmps.getD 14 undef = v.v14
  s15 : a.tmps.getD 15 undef = v.v15
  s16 : a.tmps.getD 16 undef = v.v16
  s17 : a.tmps.getD 17 undef = v.v17
  s18 : a.tmps.getD 18 undef = v.v18
  s19 : a.tmps.getD 19 undef = v.v19
  s20 : a.tmps.getD 20 undef = v.v20
  s21 : a.tmps.getD 21 undef = v.v21
  s22 : a.tmps.getD 22 undef = v.v22
  s23 : a.tmps.getD 23 undef = v.v23
  s24 : a.tmps.getD 24 undef = v.v24
  s89 : a.tmps.getD 89 undef = v.v89
set_option maxHeartbeats 8000000 in
set_option maxRecDepth 100000 in
theorem aa_r0 {K : Act → World → Prop} {c : Code} (hc : regOf (Try.f4.body.getD .skip) 0 = some c) (a : Act) {v : Vaa} {wq : World}  (hF : Faa a v) (hQ : ∀ a', Faa a' { v with v6 := .bool false } → K a' wq) :
    Code.wp Try.prog c (Exit.then K fun _ _ _ => False) a wq := by
  have HQ := hide hQ
  clear hQ
  obtain ⟨t', d'⟩ := a
  obtain ⟨v0, v1, v2, v6, v7, v8, v9, v10, v11, v12, v13, v14, v15, v16, v17, v18, v19, v20, v21, v22, v23, v24, v89⟩ := v
  obtain ⟨hs1, hd1, q0, q1, q2, q6, q7, q8, q9, q10, q11, q12, q13, q14, q15, q16, q17, q18, q19, q20, q21, q22, q23, q24, q89⟩ := hF
  obtain ⟨u, hu⟩ := frame_aa t' hs1
  simp only at hd1 q0 q1 q2 q6 q7 q8 q9 q10 q11 q12 q13 q14 q15 q16 q17 q18 q19 q20 q21 q22 q23 q24 q89
  subst hu hd1
  have e0 : u 0 = v0 := q0
  have e1 : u 1 = v1 := q1
  have e2 : u 2 = v2 := q2
  have e6 : u 6 = v6 := q6
  have e7 : u 7 = v7 := q7
  have e8 : u 8 = v8 := q8
  have e9 : u 9 = v9 := q9
  have e10 : u 10 = v10 := q10
  have e11 : u 11 = v11 := q11
  have e12 : u 12 = v12 := q12
  have e13 : u 13 = v13 := q13
  have e14 : u 14 = v14 := q14
  have e15 : u 15 = v15 := q15
  have e16 : u 16 = v16 := q16
  have e17 : u 17 = v17 := q17
  have e18 : u 18 = v18 := q18
  have e19 : u 19 = v19 := q19
  have e20 : u 20 = v20 := q20
  have e21 : u 21 = v21 := q21
  have e22 : u 22 = v22 := q22
  have e23 : u 23 = v23 := q23
  have e24 : u 24 = v24 := q24
  have e89 : u 89 = v89 := q89
  rw [e0, e1, e2, e6, e7, e8, e9, e10, e11, e12, e13, e14, e15, e16, e17, e18, e19, e20, e21, e22, e23, e24, e89]
  clear q0 e0 q1 e1 q2 e2 q6 e6 q7 e7 q8 e8 q9 e9 q10 e10 q11 e11 q12 e12 q13 e13 q14 e14 q15 e15 q16 e16 q17 e17 q18 e18 q19 e19 q20 e20 q21 e21 q22 e22 q23 e23 q24 e24 q89 e89 hs1
  simp only [Try.f4, Option.getD_some, regOf] at hc
  injection hc with hc
  subst hc
  go_wp2
  exact HQ.out _ ⟨rfl, rfl, rfl, rfl, rfl, rfl, rfl, rfl, rfl, rfl, rfl, rfl, rfl, rfl, rfl, rfl, rfl, rfl, rfl, rfl, rfl, rfl, rfl, rfl, rfl⟩
set_option maxHeartbeats 8000000 in
set_option maxRecDepth 100000 in
theorem aa_r1 {K : Act → World → Prop} {c : Code} (hc : regOf (Try.f4.body.getD .skip) 1 = some c) (a : Act) {v : Vaa} {wq : World} {R : World → Prop}  (hF : Faa a v) (hE : Calls Try.prog 7 #[] wq fun e w' => e = .returned (.bool true) ∧ R w')
    (hQ : ∀ a' w1, Faa a' { v with v7 := .bool true } → R w1 → K a' w1) :
    Code.wp Try.prog c (Exit.then K fun _ _ _ => False) a wq := by
  have HQ := hide hQ
  clear hQ
  obtain ⟨t', d'⟩ := a
  obtain ⟨v0, v1, v2, v6, v7, v8, v9, v10, v11, v12, v13, v14, v15, v16, v17, v18, v19, v20, v21, v22, v23, v24, v89⟩ := v
  obtain ⟨hs1, hd1, q0, q1, q2, q6, q7, q8, q9, q10, q11, q12, q13, q14, q15, q16, q17, q18, q19, q20, q21, q22, q23, q24, q89⟩ := hF
  obtain ⟨u, hu⟩ := frame_aa t' hs1
  simp only at hd1 q0 q1 q2 q6 q7 q8 q9 q10 q11 q12 q13 q14 q15 q16 q17 q18 q19 q20 q21 q22 q23 q24 q89
  subst hu hd1
  have e0 : u 0 = v0 := q0
  have e1 : u 1 = v1 := q1
  have e2 : u 2 = v2 := q2
  have e6 : u 6 = v6 := q6
  have e7 : u 7 = v7 := q7
  have e8 : u 8 = v8 := q8
  have e9 : u 9 = v9 := q9
  have e10 : u 10 = v10 := q10
  have e11 : u 11 = v11 := q11
  have e12 : u 12 = v12 := q12
  have e13 : u 13 = v13 := q13
  have e14 : u 14 = v14 := q14
  have e15 : u 15 = v15 := q15
  have e16 : u 16 = v16 := q16
  have e17 : u 17 = v17 := q17
  have e18 : u 18 = v18 := q18
  have e19 : u 19 = v19 := q19
  have e20 : u 20 = v20 := q20
  have e21 : u 21 = v21 := q21
  have e22 : u 22 = v22 := q22
  have e23 : u 23 = v23 := q23
  have e24 : u 24 = v24 := q24
  have e89 : u 89 = v89 := q89
  rw [e0, e1, e2, e6, e7, e8, e9, e10, e11, e12, e13, e14, e15, e16, e17, e18, e19, e20, e21, e22, e23, e24, e89]
  clear q0 e0 q1 e1 q2 e2 q6 e6 q7 e7 q8 e8 q9 e9 q10 e10 q11 e11 q12 e12 q13 e13 q14 e14 q15 e15 q16 e16 q17 e17 q18 e18 q19 e19 q20 e20 q21 e21 q22 e22 q23 e23 q24 e24 q89 e89 hs1
  simp only [Try.f4, Option.getD_some, regOf] at hc
  injection hc with hc
  subst hc
  have HE := hide hE
  clear hE
  go_wp2_with (go_at_call 7; refine HE.out.mono ?_; rintro e w1 ⟨rfl, r1⟩; have R1 := hide r1; clear r1)
  exact HQ.out _ _ ⟨rfl, rfl, rfl, rfl, rfl, rfl, rfl, rfl, rfl, rfl, rfl, rfl, rfl, rfl, rfl, rfl, rfl, rfl, rfl, rfl, rfl, rfl, rfl, rfl, rfl⟩ R1.out
set_option maxHeartbeats 8000000 in
set_option maxRecDepth 100000 in
theorem aa_r2 {K : Act → World → Prop} {c : Code} (hc : regOf (Try.f4.body.getD .skip) 2 = some c) (a : Act) {v : Vaa} {wq : World} {R : World → Prop} {many : Int} {k : Nat} (hF : Faa a v) (h0v : v.v0 = .int .i64 many) (hk : k < 7) (hE : Calls Try.prog 12 #[.int .i64 many, .int .i64 7] wq fun e w' => e = .returned (.int .i64 (k : Int)) ∧ R w')
    (hQ : ∀ a' w1, Faa a' { v with v8 := .int .i64 ((k + 1 : Nat) : Int) } → R w1 → K a' w1) :
    Code.wp Try.prog c (Exit.then K fun _ _ _ => False) a wq := by
  have HQ := hide hQ
  clear hQ
  obtain ⟨t', d'⟩ := a
  obtain ⟨v0, v1, v2, v6, v7, v8, v9, v10, v11, v12, v13, v14, v15, v16, v17, v18, v19, v20, v21, v22, v23, v24, v89⟩ := v
  simp only at h0v HQ
  subst h0v
  obtain ⟨hs1, hd1, q0, q1, q2, q6, q7, q8, q9, q10, q11, q12, q13, q14, q15, q16, q17, q18, q19, q20, q21, q22, q23, q24, q89⟩ := hF
  obtain ⟨u, hu⟩ := frame_aa t' hs1
  simp only at hd1 q0 q1 q2 q6 q7 q8 q9 q10 q11 q12 q13 q14 q15 q16 q17 q18 q19 q20 q21 q22 q23 q24 q89
  subst hu hd1
  have e0 : u 0 = .int .i64 many := q0
  have e1 : u 1 = v1 := q1
  have e2 : u 2 = v2 := q2
  have e6 : u 6 = v6 := q6
  have e7 : u 7 = v7 := q7
  have e8 : u 8 = v8 := q8
  have e9 : u 9 = v9 := q9
  have e10 : u 10 = v10 := q10
  have e11 : u 11 = v11 := q11
  have e12 : u 12 = v12 := q12
  have e13 : u 13 = v13 := q13
  have e14 : u 14 = v14 := q14
  have e15 : u 15 = v15 := q15
  have e16 : u 16 = v16 := q16
  have e17 : u 17 = v17 := q17
  have e18 : u 18 = v18 := q18
  have e19 : u 19 = v19 := q19
  have e20 : u 20 = v20 := q20
  have e21 : u 21 = v21 := q21
  have e22 : u 22 = v22 := q22
  have e23 : u 23 = v23 := q23
  have e24 : u 24 = v24 := q24
  have e89 : u 89 = v89 := q89
  rw [e0, e1, e2, e6, e7, e8, e9, e10, e11, e12, e13, e14, e15, e16, e17, e18, e19, e20, e21, e22, e23, e24, e89]
  clear q0 e0 q1 e1 q2 e2 q6 e6 q7 e7 q8 e8 q9 e9 q10 e10 q11 e11 q12 e12 q13 e13 q14 e14 q15 e15 q16 e16 q17 e17 q18 e18 q19 e19 q20 e20 q21 e21 q22 e22 q23 e23 q24 e24 q89 e89 hs1
  simp only [Try.f4, Option.getD_some, regOf] at hc
  injection hc with hc
  subst hc
  have HE := hide hE
  clear hE
  have hc : ((k + 1 : Nat) : Int) = 1 + (k : Int) := by omega
  rw [hc] at HQ
  go_wp2_with (go_at_call 12; refine HE.out.mono ?_; rintro e w1 ⟨rfl, r1⟩; have R1 := hide r1; clear r1)
  exact HQ.out _ _ ⟨rfl, rfl, rfl, rfl, rfl, rfl, rfl, rfl, rfl, rfl, rfl, rfl, rfl, rfl, rfl, rfl, rfl, rfl, rfl, rfl, rfl, rfl, rfl, rfl, rfl⟩ R1.out
set_option maxHeartbeats 8000000 in
set_option maxRecDepth 100000 in
theorem aa_r3 {K : Act → World → Prop} {c : Code} (hc : regOf (Try.f4.body.getD .skip) 3 = some c) (a : Act) {v : Vaa} {wq : World} {ao : Option Addr} {n m cp : Nat} (hF : Faa a v) (h1v : v.v1 = .slice ao n cp) (hmin : min (n : Int) 10 = (m : Int)) (hm : m ≤ cp) (hQ : ∀ a', Faa a' { v with v1 := .slice ao m cp } → K a' wq) :
    Code.wp Try.prog c (Exit.then K fun _ _ _ => False) a wq := by
  have HQ := hide hQ
  clear hQ
  obtain ⟨t', d'⟩ := a
  obtain ⟨v0, v1, v2, v6, v7, v8, v9, v10, v11, v12, v13, v14, v15, v16, v17, v18, v19, v20, v21, v22, v23, v24, v89⟩ := v
  simp only at h1v HQ
  subst h1v
  obtain ⟨hs1, hd1, q0, q1, q2, q6, q7, q8, q9, q10, q11, q12, q13, q14, q15, q16, q17, q18, q19, q20, q21, q22, q23, q24, q89⟩ := hF
  obtain ⟨u, hu⟩ := frame_aa t' hs1
  simp only at hd1 q0 q1 q2 q6 q7 q8 q9 q10 q11 q12 q13 q14 q15 q16 q17 q18 q19 q20 q21 q22 q23 q24 q89
  subst hu hd1
  have e0 : u 0 = v0 := q0
  have e1 : u 1 = .slice ao n cp := q1
  have e2 : u 2 = v2 := q2
  have e6 : u 6 = v6 := q6
  have e7 : u 7 = v7 := q7
  have e8 : u 8 = v8 := q8
  have e9 : u 9 = v9 := q9
  have e10 : u 10 = v10 := q10
  have e11 : u 11 = v11 := q11
  have e12 : u 12 = v12 := q12
  have e13 : u 13 = v13 := q13
  have e14 : u 14 = v14 := q14
  have e15 : u 15 = v15 := q15
  have e16 : u 16 = v16 := q16
  have e17 : u 17 = v17 := q17
  have e18 : u 18 = v18 := q18
  have e19 : u 19 = v19 := q19
  have e20 : u 20 = v20 := q20
  have e21 : u 21 = v21 := q21
  have e22 : u 22 = v22 := q22
  have e23 : u 23 = v23 := q23
  have e24 : u 24 = v24 := q24
  have e89 : u 89 = v89 := q89
  rw [e0, e1, e2, e6, e7, e8, e9, e10, e11, e12, e13, e14, e15, e16, e17, e18, e19, e20, e21, e22, e23, e24, e89]
  clear q0 e0 q1 e1 q2 e2 q6 e6 q7 e7 q8 e8 q9 e9 q10 e10 q11 e11 q12 e12 q13 e13 q14 e14 q15 e15 q16 e16 q17 e17 q18 e18 q19 e19 q20 e20 q21 e21 q22 e22 q23 e23 q24 e24 q89 e89 hs1
  simp only [Try.f4, Option.getD_some, regOf] at hc
  injection hc with hc
  subst hc
  have hs1 := texts_upto (ao := ao) (m := n) (n := m) (cap := cp) hm
  go_wp2
  exact HQ.out _ ⟨rfl, rfl, rfl, rfl, rfl, rfl, rfl, rfl, rfl, rfl, rfl, rfl, rfl, rfl, rfl, rfl, rfl, rfl, rfl, rfl, rfl, rfl, rfl, rfl, rfl⟩
set_option maxHeartbeats 8000000 in
set_option maxRecDepth 100000 in
theorem aa_r4 {K : Act → World → Prop} {c : Code} (hc : regOf (Try.f4.body.getD .skip) 4 = some c) (a : Act) {v : Vaa} {wq : World}  (hF : Faa a v) (hQ : ∀ a', Faa a' { v with v9 := .slice none 0 0 } → K a' wq) :
    Code.wp Try.prog c (Exit.then K fun _ _ _ => False) a wq := by
  have HQ := hide hQ
  clear hQ
  obtain ⟨t', d'⟩ := a
  obtain ⟨v0, v1, v2, v6, v7, v8, v9, v10, v11, v12, v13, v14, v15, v16, v17, v18, v19, v20, v21, v22, v23, v24, v89⟩ := v
  obtain ⟨hs1, hd1, q0, q1, q2, q6, q7, q8, q9, q10, q11, q12, q13, q14, q15, q16, q17, q18, q19, q20, q21, q22, q23, q24, q89⟩ := hF
  obtain ⟨u, hu⟩ := frame_aa t' hs1
  simp only at hd1 q0 q1 q2 q6 q7 q8 q9 q10 q11 q12 q13 q14 q15 q16 q17 q18 q19 q20 q21 q22 q23 q24 q89
  subst hu hd1
  have e0 : u 0 = v0 := q0
  have e1 : u 1 = v1 := q1
  have e2 : u 2 = v2 := q2
  have e6 : u 6 = v6 := q6
  have e7 : u 7 = v7 := q7
  have e8 : u 8 = v8 := q8
  have e9 : u 9 = v9 := q9
  have e10 : u 10 = v10 := q10
  have e11 : u 11 = v11 := q11
  have e12 : u 12 = v12 := q12
  have e13 : u 13 = v13 := q13
  have e14 : u 14 = v14 := q14
  have e15 : u 15 = v15 := q15
  have e16 : u 16 = v16 := q16
  have e17 : u 17 = v17 := q17
  have e18 : u 18 = v18 := q18
  have e19 : u 19 = v19 := q19
  have e20 : u 20 = v20 := q20
  have e21 : u 21 = v21 := q21
  have e22 : u 22 = v22 := q22
  have e23 : u 23 = v23 := q23
  have e24 : u 24 = v24 := q24
  have e89 : u 89 = v89 := q89
  rw [e0, e1, e2, e6, e7, e8, e9, e10, e11, e12, e13, e14, e15, e16, e17, e18, e19, e20, e21, e22, e23, e24, e89]
  clear q0 e0 q1 e1 q2 e2 q6 e6 q7 e7 q8 e8 q9 e9 q10 e10 q11 e11 q12 e12 q13 e13 q14 e14 q15 e15 q16 e16 q17 e17 q18 e18 q19 e19 q20 e20 q21 e21 q22 e22 q23 e23 q24 e24 q89 e89 hs1
  simp only [Try.f4, Option.getD_some, regOf] at hc
  injection hc with hc
  subst hc
  go_wp2
  exact HQ.out _ ⟨rfl, rfl, rfl, rfl, rfl, rfl, rfl, rfl, rfl, rfl, rfl, rfl, rfl, rfl, rfl, rfl, rfl, rfl, rfl, rfl, rfl, rfl, rfl, rfl, rfl⟩
set_option maxHeartbeats 8000000 in
set_option maxRecDepth 100000 in
theorem aa_r5 {K : Act → World → Prop} {c : Code} (hc : regOf (Try.f4.body.getD .skip) 5 = some c) (a : Act) {v : Vaa} {wq : World}  (hF : Faa a v) (hQ : ∀ a', Faa a' { v with v10 := .int .i64 ((0 : Nat) : Int) } → K a' wq) :
    Code.wp Try.prog c (Exit.then K fun _ _ _ => False) a wq := by
  have HQ := hide hQ
  clear hQ
  obtain ⟨t', d'⟩ := a
  obtain ⟨v0, v1, v2, v6, v7, v8, v9, v10, v11, v12, v13, v14, v15, v16, v17, v18, v19, v20, v21, v22, v23, v24, v89⟩ := v
  obtain ⟨hs1, hd1, q0, q1, q2, q6, q7, q8, q9, q10, q11, q12, q13, q14, q15, q16, q17, q18, q19, q20, q21, q22, q23, q24, q89⟩ := hF
  obtain ⟨u, hu⟩ := frame_aa t' hs1
  simp only at hd1 q0 q1 q2 q6 q7 q8 q9 q10 q11 q12 q13 q14 q15 q16 q17 q18 q19 q20 q21 q22 q23 q24 q89
  subst hu hd1
  have e0 : u 0 = v0 := q0
  have e1 : u 1 = v1 := q1
  have e2 : u 2 = v2 := q2
  have e6 : u 6 = v6 := q6
  have e7 : u 7 = v7 := q7
  have e8 : u 8 = v8 := q8
  have e9 : u 9 = v9 := q9
  have e10 : u 10 = v10 := q10
  have e11 : u 11 = v11 := q11
  have e12 : u 12 = v12 := q12
  have e13 : u 13 = v13 := q13
  have e14 : u 14 = v14 := q14
  have e15 : u 15 = v15 := q15
  have e16 : u 16 = v16 := q16
  have e17 : u 17 = v17 := q17
  have e18 : u 18 = v18 := q18
  have e19 : u 19 = v19 := q19
  have e20 : u 20 = v20 := q20
  have e21 : u 21 = v21 := q21
  have e22 : u 22 = v22 := q22
  have e23 : u 23 = v23 := q23
  have e24 : u 24 = v24 := q24
  have e89 : u 89 = v89 := q89
  rw [e0, e1, e2, e6, e7, e8, e9, e10, e11, e12, e13, e14, e15, e16, e17, e18, e19, e20, e21, e22, e23, e24, e89]
  clear q0 e0 q1 e1 q2 e2 q6 e6 q7 e7 q8 e8 q9 e9 q10 e10 q11 e11 q12 e12 q13 e13 q14 e14 q15 e15 q16 e16 q17 e17 q18 e18 q19 e19 q20 e20 q21 e21 q22 e22 q23 e23 q24 e24 q89 e89 hs1
  simp only [Try.f4, Option.getD_some, regOf] at hc
  injection hc with hc
  subst hc
  go_wp2
  exact HQ.out _ ⟨rfl, rfl, rfl, rfl, rfl, rfl, rfl, rfl, rfl, rfl, rfl, rfl, rfl, rfl, rfl, rfl, rfl, rfl, rfl, rfl, rfl, rfl, rfl, rfl, rfl⟩
set_option maxHeartbeats 8000000 in
set_option maxRecDepth 100000 in
theorem aa_r6 {K : Act → World → Prop} {c : Code} (hc : regOf (Try.f4.body.getD .skip) 6 = some c) (a : Act) {v : Vaa} {wq : World} {k n : Nat} (hF : Faa a v) (h10v : v.v10 = .int .i64 (k : Int)) (h8v : v.v8 = .int .i64 (n : Int)) (hQ : ∀ a', Faa a' v → a'.tmps.getD 36 undef = .bool (decide ((k : Int) < (n : Int))) → K a' wq) :
    Code.wp Try.prog c (Exit.then K fun _ _ _ => False) a wq := by
  have HQ := hide hQ
  clear hQ
  obtain ⟨t', d'⟩ := a
  obtain ⟨v0, v1, v2, v6, v7, v8, v9, v10, v11, v12, v13, v14, v15, v16, v17, v18, v19, v20, v21, v22, v23, v24, v89⟩ := v
  simp only at h10v h8v HQ
  subst h10v h8v
  obtain ⟨hs1, hd1, q0, q1, q2, q6, q7, q8, q9, q10, q11, q12, q13, q14, q15, q16, q17, q18, q19, q20, q21, q22, q23, q24, q89⟩ := hF
  obtain ⟨u, hu⟩ := frame_aa t' hs1
  simp only at hd1 q0 q1 q2 q6 q7 q8 q9 q10 q11 q12 q13 q14 q15 q16 q17 q18 q19 q20 q21 q22 q23 q24 q89
  subst hu hd1
  have e0 : u 0 = v0 := q0
  have e1 : u 1 = v1 := q1
  have e2 : u 2 = v2 := q2
  have e6 : u 6 = v6 := q6
  have e7 : u 7 = v7 := q7
  have e8 : u 8 = .int .i64 (n : Int) := q8
  have e9 : u 9 = v9 := q9
  have e10 : u 10 = .int .i64 (k : Int) := q10
  have e11 : u 11 = v11 := q11
  have e12 : u 12 = v12 := q12
  have e13 : u 13 = v13 := q13
  have e14 : u 14 = v14 := q14
  have e15 : u 15 = v15 := q15
  have e16 : u 16 = v16 := q16
  have e17 : u 17 = v17 := q17
  have e18 : u 18 = v18 := q18
  have e19 : u 19 = v19 := q19
  have e20 : u 20 = v20 := q20
  have e21 : u 21 = v21 := q21
  have e22 : u 22 = v22 := q22
  have e23 : u 23 = v23 := q23
  have e24 : u 24 = v24 := q24
  have e89 : u 89 = v89 := q89
  rw [e0, e1, e2, e6, e7, e8, e9, e10, e11, e12, e13, e14, e15, e16, e17, e18, e19, e20, e21, e22, e23, e24, e89]
  clear q0 e0 q1 e1 q2 e2 q6 e6 q7 e7 q8 e8 q9 e9 q10 e10 q11 e11 q12 e12 q13 e13 q14 e14 q15 e15 q16 e16 q17 e17 q18 e18 q19 e19 q20 e20 q21 e21 q22 e22 q23 e23 q24 e24 q89 e89 hs1
  simp only [Try.f4, Option.getD_some, regOf] at hc
  injection hc with hc
  subst hc
  go_wp2
  exact HQ.out _ ⟨rfl, rfl, rfl, rfl, rfl, rfl, rfl, rfl, rfl, rfl, rfl, rfl, rfl, rfl, rfl, rfl, rfl, rfl, rfl, rfl, rfl, rfl, rfl, rfl, rfl⟩ (by first | rfl | (simp; done))
set_option maxHeartbeats 8000000 in
set_option maxRecDepth 100000 in
theorem aa_r8 {K : Act → World → Prop} {c : Code} (hc : regOf (Try.f4.body.getD .skip) 8 = some c) (a : Act) {v : Vaa} {wq : World} {oo ta : Option Addr} {n oc tc : Nat} {w3 : World} {k : Nat} (hF : Faa a v) (h9v : v.v9 = .slice oo n oc) (h10v : v.v10 = .int .i64 (k : Int)) (hr : (Builtin.append_ #[22, 22] 22 #[.slice oo n oc, .slice (some ⟨wq.heap.size, 0, none⟩) 1 1]).run Try.prog (wq.alloc (.cells #[.int .i64 (k : Int)] 3)) = .ok (.slice ta (n + 1) tc) w3)
    (hQ : ∀ a', Faa a' { v with v9 := .slice ta (n + 1) tc } → K a' w3) :
    Code.wp Try.prog c (Exit.then K fun _ _ _ => False) a wq := by
  have HQ := hide hQ
  clear hQ
  obtain ⟨t', d'⟩ := a
  obtain ⟨v0, v1, v2, v6, v7, v8, v9, v10, v11, v12, v13, v14, v15, v16, v17, v18, v19, v20, v21, v22, v23, v24, v89⟩ := v
  simp only at h9v h10v HQ
  subst h9v h10v
  obtain ⟨hs1, hd1, q0, q1, q2, q6, q7, q8, q9, q10, q11, q12, q13, q14, q15, q16, q17, q18, q19, q20, q21, q22, q23, q24, q89⟩ := hF
  obtain ⟨u, hu⟩ := frame_aa t' hs1
  simp only at hd1 q0 q1 q2 q6 q7 q8 q9 q10 q11 q12 q13 q14 q15 q16 q17 q18 q19 q20 q21 q22 q23 q24 q89
  subst hu hd1
  have e0 : u 0 = v0 := q0
  have e1 : u 1 = v1 := q1
  have e2 : u 2 = v2 := q2
  have e6 : u 6 = v6 := q6
  have e7 : u 7 = v7 := q7
  have e8 : u 8 = v8 := q8
  have e9 : u 9 = .slice oo n oc := q9
  have e10 : u 10 = .int .i64 (k : Int) := q10
  have e11 : u 11 = v11 := q11
  have e12 : u 12 = v12 := q12
  have e13 : u 13 = v13 := q13
  have e14 : u 14 = v14 := q14
  have e15 : u 15 = v15 := q15
  have e16 : u 16 = v16 := q16
  have e17 : u 17 = v17 := q17
  have e18 : u 18 = v18 := q18
  have e19 : u 19 = v19 := q19
  have e20 : u 20 = v20 := q20
  have e21 : u 21 = v21 := q21
  have e22 : u 22 = v22 := q22
  have e23 : u 23 = v23 := q23
  have e24 : u 24 = v24 := q24
  have e89 : u 89 = v89 := q89
  rw [e0, e1, e2, e6, e7, e8, e9, e10, e11, e12, e13, e14, e15, e16, e17, e18, e19, e20, e21, e22, e23, e24, e89]
  clear q0 e0 q1 e1 q2 e2 q6 e6 q7 e7 q8 e8 q9 e9 q10 e10 q11 e11 q12 e12 q13 e13 q14 e14 q15 e15 q16 e16 q17 e17 q18 e18 q19 e19 q20 e20 q21 e21 q22 e22 q23 e23 q24 e24 q89 e89 hs1
  simp only [Try.f4, Option.getD_some, regOf] at hc
  injection hc with hc
  subst hc
  have HA := hide hr
  clear hr
  go_wp2_with (at_builtin; refine wpList_append_run rfl _ _ 22 rfl _ _ _ rfl rfl HA.out ?_)
  exact HQ.out _ ⟨rfl, rfl, rfl, rfl, rfl, rfl, rfl, rfl, rfl, rfl, rfl, rfl, rfl, rfl, rfl, rfl, rfl, rfl, rfl, rfl, rfl, rfl, rfl, rfl, rfl⟩
set_option maxHeartbeats 8000000 in
set_option maxRecDepth 100000 in
theorem aa_r7 {K : Act → World → Prop} {c : Code} (hc : regOf (Try.f4.body.getD .skip) 7 = some c) (a : Act) {v : Vaa} {wq : World} {k : Nat} (hF : Faa a v) (h10v : v.v10 = .int .i64 (k : Int)) (hk : k ≤ 1000000) (hQ : ∀ a', Faa a' { v with v10 := .int .i64 ((k + 1 : Nat) : Int) } → K a' wq) :
    Code.wp Try.prog c (Exit.then K fun _ _ _ => False) a wq := by
  have HQ := hide hQ
  clear hQ
  obtain ⟨t', d'⟩ := a
  obtain ⟨v0, v1, v2, v6, v7, v8, v9, v10, v11, v12, v13, v14, v15, v16, v17, v18, v19, v20, v21, v22, v23, v24, v89⟩ := v
  simp only at h10v HQ
  subst h10v
  obtain ⟨hs1, hd1, q0, q1, q2, q6, q7, q8, q9, q10, q11, q12, q13, q14, q15, q16, q17, q18, q19, q20, q21, q22, q23, q24, q89⟩ := hF
  obtain ⟨u, hu⟩ := frame_aa t' hs1
  simp only at hd1 q0 q1 q2 q6 q7 q8 q9 q10 q11 q12 q13 q14 q15 q16 q17 q18 q19 q20 q21 q22 q23 q24 q89
  subst hu hd1
  have e0 : u 0 = v0 := q0
  have e1 : u 1 = v1 := q1
  have e2 : u 2 = v2 := q2
  have e6 : u 6 = v6 := q6
  have e7 : u 7 = v7 := q7
  have e8 : u 8 = v8 := q8
  have e9 : u 9 = v9 := q9
  have e10 : u 10 = .int .i64 (k : Int) := q10
  have e11 : u 11 = v11 := q11
  have e12 : u 12 = v12 := q12
  have e13 : u 13 = v13 := q13
  have e14 : u 14 = v14 := q14
  have e15 : u 15 = v15 := q15
  have e16 : u 16 = v16 := q16
  have e17 : u 17 = v17 := q17
  have e18 : u 18 = v18 := q18
  have e19 : u 19 = v19 := q19
  have e20 : u 20 = v20 := q20
  have e21 : u 21 = v21 := q21
  have e22 : u 22 = v22 := q22
  have e23 : u 23 = v23 := q23
  have e24 : u 24 = v24 := q24
  have e89 : u 89 = v89 := q89
  rw [e0, e1, e2, e6, e7, e8, e9, e10, e11, e12, e13, e14, e15, e16, e17, e18, e19, e20, e21, e22, e23, e24, e89]
  clear q0 e0 q1 e1 q2 e2 q6 e6 q7 e7 q8 e8 q9 e9 q10 e10 q11 e11 q12 e12 q13 e13 q14 e14 q15 e15 q16 e16 q17 e17 q18 e18 q19 e19 q20 e20 q21 e21 q22 e22 q23 e23 q24 e24 q89 e89 hs1
  simp only [Try.f4, Option.getD_some, regOf] at hc
  injection hc with hc
  subst hc
  have hc : ((k + 1 : Nat) : Int) = (k : Int) + 1 := by omega
  rw [hc] at HQ
  go_wp2
  exact HQ.out _ ⟨rfl, rfl, rfl, rfl, rfl, rfl, rfl, rfl, rfl, rfl, rfl, rfl, rfl, rfl, rfl, rfl, rfl, rfl, rfl, rfl, rfl, rfl, rfl, rfl, rfl⟩
set_option maxHeartbeats 8000000 in
set_option maxRecDepth 100000 in
theorem aa_r9 {K : Act → World → Prop} {c : Code} (hc : regOf (Try.f4.body.getD .skip) 9 = some c) (a : Act) {v : Vaa} {wq : World}  (hF : Faa a v) (hQ : ∀ a', Faa a' { v with v11 := .slice none 0 0 } → K a' wq) :
    Code.wp Try.prog c (Exit.then K fun _ _ _ => False) a wq := by
  have HQ := hide hQ
  clear hQ
  obtain ⟨t', d'⟩ := a
  obtain ⟨v0, v1, v2, v6, v7, v8, v9, v10, v11, v12, v13, v14, v15, v16, v17, v18, v19, v20, v21, v22, v23, v24, v89⟩ := v
  obtain ⟨hs1, hd1, q0, q1, q2, q6, q7, q8, q9, q10, q11, q12, q13, q14, q15, q16, q17, q18, q19, q20, q21, q22, q23, q24, q89⟩ := hF
  obtain ⟨u, hu⟩ := frame_aa t' hs1
  simp only at hd1 q0 q1 q2 q6 q7 q8 q9 q10 q11 q12 q13 q14 q15 q16 q17 q18 q19 q20 q21 q22 q23 q24 q89
  subst hu hd1
  have e0 : u 0 = v0 := q0
  have e1 : u 1 = v1 := q1
  have e2 : u 2 = v2 := q2
  have e6 : u 6 = v6 := q6
  have e7 : u 7 = v7 := q7
  have e8 : u 8 = v8 := q8
  have e9 : u 9 = v9 := q9
  have e10 : u 10 = v10 := q10
  have e11 : u 11 = v11 := q11
  have e12 : u 12 = v12 := q12
  have e13 : u 13 = v13 := q13
  have e14 : u 14 = v14 := q14
  have e15 : u 15 = v15 := q15
  have e16 : u 16 = v16 := q16
  have e17 : u 17 = v17 := q17
  have e18 : u 18 = v18 := q18
  have e19 : u 19 = v19 := q19
  have e20 : u 20 = v20 := q20
  have e21 : u 21 = v21 := q21
  have e22 : u 22 = v22 := q22
  have e23 : u 23 = v23 := q23
  have e24 : u 24 = v24 := q24
  have e89 : u 89 = v89 := q89
  rw [e0, e1, e2, e6, e7, e8, e9, e10, e11, e12, e13, e14, e15, e16, e17, e18, e19, e20, e21, e22, e23, e24, e89]
  clear q0 e0 q1 e1 q2 e2 q6 e6 q7 e7 q8 e8 q9 e9 q10 e10 q11 e11 q12 e12 q13 e13 q14 e14 q15 e15 q16 e16 q17 e17 q18 e18 q19 e19 q20 e20 q21 e21 q22 e22 q23 e23 q24 e24 q89 e89 hs1
  simp only [Try.f4, Option.getD_some, regOf] at hc
  injection hc with hc
  subst hc
  go_wp2
  exact HQ.out _ ⟨rfl, rfl, rfl, rfl, rfl, rfl, rfl, rfl, rfl, rfl, rfl, rfl, rfl, rfl, rfl, rfl, rfl, rfl, rfl, rfl, rfl, rfl, rfl, rfl, rfl⟩
set_option maxHeartbeats 8000000 in
set_option maxRecDepth 100000 in
theorem aa_r10 {K : Act → World → Prop} {c : Code} (hc : regOf (Try.f4.body.getD .skip) 10 = some c) (a : Act) {v : Vaa} {wq : World}  (hF : Faa a v) (hQ : ∀ a', Faa a' { v with v12 := .int .i64 ((0 : Nat) : Int) } → K a' wq) :
    Code.wp Try.prog c (Exit.then K fun _ _ _ => False) a wq := by
  have HQ := hide hQ
  clear hQ
  obtain ⟨t', d'⟩ := a
  obtain ⟨v0, v1, v2, v6, v7, v8, v9, v10, v11, v12, v13, v14, v15, v16, v17, v18, v19, v20, v21, v22, v23, v24, v89⟩ := v
  obtain ⟨hs1, hd1, q0, q1, q2, q6, q7, q8, q9, q10, q11, q12, q13, q14, q15, q16, q17, q18, q19, q20, q21, q22, q23, q24, q89⟩ := hF
  obtain ⟨u, hu⟩ := frame_aa t' hs1
  simp only at hd1 q0 q1 q2 q6 q7 q8 q9 q10 q11 q12 q13 q14 q15 q16 q17 q18 q19 q20 q21 q22 q23 q24 q89
  subst hu hd1
  have e0 : u 0 = v0 := q0
  have e1 : u 1 = v1 := q1
  have e2 : u 2 = v2 := q2
  have e6 : u 6 = v6 := q6
  have e7 : u 7 = v7 := q7
  have e8 : u 8 = v8 := q8
  have e9 : u 9 = v9 := q9
  have e10 : u 10 = v10 := q10
  have e11 : u 11 = v11 := q11
  have e12 : u 12 = v12 := q12
  have e13 : u 13 = v13 := q13
  have e14 : u 14 = v14 := q14
  have e15 : u 15 = v15 := q15
  have e16 : u 16 = v16 := q16
  have e17 : u 17 = v17 := q17
  have e18 : u 18 = v18 := q18
  have e19 : u 19 = v19 := q19
  have e20 : u 20 = v20 := q20
  have e21 : u 21 = v21 := q21
  have e22 : u 22 = v22 := q22
  have e23 : u 23 = v23 := q23
  have e24 : u 24 = v24 := q24
  have e89 : u 89 = v89 := q89
  rw [e0, e1, e2, e6, e7, e8, e9, e10, e11, e12, e13, e14, e15, e16, e17, e18, e19, e20, e21, e22, e23, e24, e89]
  clear q0 e0 q1 e1 q2 e2 q6 e6 q7 e7 q8 e8 q9 e9 q10 e10 q11 e11 q12 e12 q13 e13 q14 e14 q15 e15 q16 e16 q17 e17 q18 e18 q19 e19 q20 e20 q21 e21 q22 e22 q23 e23 q24 e24 q89 e89 hs1
  simp only [Try.f4, Option.getD_some, regOf] at hc
  injection hc with hc
  subst hc
  go_wp2
  exact HQ.out _ ⟨rfl, rfl, rfl, rfl, rfl, rfl, rfl, rfl, rfl, rfl, rfl, rfl, rfl, rfl, rfl, rfl, rfl, rfl, rfl, rfl, rfl, rfl, rfl, rfl, rfl⟩
set_option maxHeartbeats 8000000 in
set_option maxRecDepth 100000 in
theorem aa_r11 {K : Act → World → Prop} {c : Code} (hc : regOf (Try.f4.body.getD .skip) 11 = some c) (a : Act) {v : Vaa} {wq : World} {k n : Nat} (hF : Faa a v) (h12v : v.v12 = .int .i64 (k : Int)) (h8v : v.v8 = .int .i64 (n : Int)) (hQ : ∀ a', Faa a' v → a'.tmps.getD 45 undef = .bool (decide ((k : Int) < (n : Int))) → K a' wq) :
    Code.wp Try.prog c (Exit.then K fun _ _ _ => False) a wq := by
  have HQ := hide hQ
  clear hQ
  obtain ⟨t', d'⟩ := a
  obtain ⟨v0, v1, v2, v6, v7, v8, v9, v10, v11, v12, v13, v14, v15, v16, v17, v18, v19, v20, v21, v22, v23, v24, v89⟩ := v
  simp only at h12v h8v HQ
  subst h12v h8v
  obtain ⟨hs1, hd1, q0, q1, q2, q6, q7, q8, q9, q10, q11, q12, q13, q14, q15, q16, q17, q18, q19, q20, q21, q22, q23, q24, q89⟩ := hF
  obtain ⟨u, hu⟩ := frame_aa t' hs1
  simp only at hd1 q0 q1 q2 q6 q7 q8 q9 q10 q11 q12 q13 q14 q15 q16 q17 q18 q19 q20 q21 q22 q23 q24 q89
  subst hu hd1
  have e0 : u 0 = v0 := q0
  have e1 : u 1 = v1 := q1
  have e2 : u 2 = v2 := q2
  have e6 : u 6 = v6 := q6
  have e7 : u 7 = v7 := q7
  have e8 : u 8 = .int .i64 (n : Int) := q8
  have e9 : u 9 = v9 := q9
  have e10 : u 10 = v10 := q10
  have e11 : u 11 = v11 := q11
  have e12 : u 12 = .int .i64 (k : Int) := q12
  have e13 : u 13 = v13 := q13
  have e14 : u 14 = v14 := q14
  have e15 : u 15 = v15 := q15
  have e16 : u 16 = v16 := q16
  have e17 : u 17 = v17 := q17
  have e18 : u 18 = v18 := q18
  have e19 : u 19 = v19 := q19
  have e20 : u 20 = v20 := q20
  have e21 : u 21 = v21 := q21
  have e22 : u 22 = v22 := q22
  have e23 : u 23 = v23 := q23
  have e24 : u 24 = v24 := q24
  have e89 : u 89 = v89 := q89
  rw [e0, e1, e2, e6, e7, e8, e9, e10, e11, e12, e13, e14, e15, e16, e17, e18, e19, e20, e21, e22, e23, e24, e89]
  clear q0 e0 q1 e1 q2 e2 q6 e6 q7 e7 q8 e8 q9 e9 q10 e10 q11 e11 q12 e12 q13 e13 q14 e14 q15 e15 q16 e16 q17 e17 q18 e18 q19 e19 q20 e20 q21 e21 q22 e22 q23 e23 q24 e24 q89 e89 hs1
  simp only [Try.f4, Option.getD_some, regOf] at hc
  injection hc with hc
  subst hc
  go_wp2
  exact HQ.out _ ⟨rfl, rfl, rfl, rfl, rfl, rfl, rfl, rfl, rfl, rfl, rfl, rfl, rfl, rfl, rfl, rfl, rfl, rfl, rfl, rfl, rfl, rfl, rfl, rfl, rfl⟩ (by first | rfl | (simp; done))
set_option maxHeartbeats 8000000 in
set_option maxRecDepth 100000 in
theorem aa_r13 {K : Act → World → Prop} {c : Code} (hc : regOf (Try.f4.body.getD .skip) 13 = some c) (a : Act) {v : Vaa} {wq : World} {R : Option Addr → Int → World → Prop} {k n cp m lc : Nat} {ao lo : Option Addr} (hF : Faa a v) (h12v : v.v12 = .int .i64 (k : Int)) (h9v : v.v9 = .slice ao n cp) (h1v : v.v1 = .slice lo m lc) (hE : Calls Try.prog 8 #[.int .i64 (k : Int), .slice ao n cp, .slice lo m lc] wq fun e w' => ∃ (po : Option Addr) (ec : Int), e = .returned (.tuple #[.pointer po, .int .i64 ec]) ∧ R po ec w')
    (hQ : ∀ a' w1 po ec, Faa a' { v with v13 := .pointer po, v14 := .int .i64 ec } → R po ec w1 → K a' w1) :
    Code.wp Try.prog c (Exit.then K fun _ _ _ => False) a wq := by
  have HQ := hide hQ
  clear hQ
  obtain ⟨t', d'⟩ := a
  obtain ⟨v0, v1, v2, v6, v7, v8, v9, v10, v11, v12, v13, v14, v15, v16, v17, v18, v19, v20, v21, v22, v23, v24, v89⟩ := v
  simp only at h12v h9v h1v HQ
  subst h12v h9v h1v
  obtain ⟨hs1, hd1, q0, q1, q2, q6, q7, q8, q9, q10, q11, q12, q13, q14, q15, q16, q17, q18, q19, q20, q21, q22, q23, q24, q89⟩ := hF
  obtain ⟨u, hu⟩ := frame_aa t' hs1
  simp only at hd1 q0 q1 q2 q6 q7 q8 q9 q10 q11 q12 q13 q14 q15 q16 q17 q18 q19 q20 q21 q22 q23 q24 q89
  subst hu hd1
  have e0 : u 0 = v0 := q0
  have e1 : u 1 = .slice lo m lc := q1
  have e2 : u 2 = v2 := q2
  have e6 : u 6 = v6 := q6
  have e7 : u 7 = v7 := q7
  have e8 : u 8 = v8 := q8
  have e9 : u 9 = .slice ao n cp := q9
  have e10 : u 10 = v10 := q10
  have e11 : u 11 = v11 := q11
  have e12 : u 12 = .int .i64 (k : Int) := q12
  have e13 : u 13 = v13 := q13
  have e14 : u 14 = v14 := q14
  have e15 : u 15 = v15 := q15
  have e16 : u 16 = v16 := q16
  have e17 : u 17 = v17 := q17
  have e18 : u 18 = v18 := q18
  have e19 : u 19 = v19 := q19
  have e20 : u 20 = v20 := q20
  have e21 : u 21 = v21 := q21
  have e22 : u 22 = v22 := q22
  have e23 : u 23 = v23 := q23
  have e24 : u 24 = v24 := q24
  have e89 : u 89 = v89 := q89
  rw [e0, e1, e2, e6, e7, e8, e9, e10, e11, e12, e13, e14, e15, e16, e17, e18, e19, e20, e21, e22, e23, e24, e89]
  clear q0 e0 q1 e1 q2 e2 q6 e6 q7 e7 q8 e8 q9 e9 q10 e10 q11 e11 q12 e12 q13 e13 q14 e14 q15 e15 q16 e16 q17 e17 q18 e18 q19 e19 q20 e20 q21 e21 q22 e22 q23 e23 q24 e24 q89 e89 hs1
  simp only [Try.f4, Option.getD_some, regOf] at hc
  injection hc with hc
  subst hc
  have HE := hide hE
  clear hE
  go_wp2_with (go_at_call 8; refine HE.out.mono ?_; rintro e w1 ⟨po, ec, rfl, r1⟩; have R1 := hide r1; clear r1)
  exact HQ.out _ _ _ _ ⟨rfl, rfl, rfl, rfl, rfl, rfl, rfl, rfl, rfl, rfl, rfl, rfl, rfl, rfl, rfl, rfl, rfl, rfl, rfl, rfl, rfl, rfl, rfl, rfl, rfl⟩ R1.out
set_option maxHeartbeats 8000000 in
set_option maxRecDepth 100000 in
theorem aa_r14 {K : Act → World → Prop} {c : Code} (hc : regOf (Try.f4.body.getD .skip) 14 = some c) (a : Act) {v : Vaa} {wq : World} {ad : Addr} (hF : Faa a v) (h14v : v.v14 = .int .i64 0) (h13v : v.v13 = .pointer (some ad)) (hQ : ∀ a', Faa a' v → a'.tmps.getD 60 undef = .bool false → K a' wq) :
    Code.wp Try.prog c (Exit.then K fun _ _ _ => False) a wq := by
  have HQ := hide hQ
  clear hQ
  obtain ⟨t', d'⟩ := a
  obtain ⟨v0, v1, v2, v6, v7, v8, v9, v10, v11, v12, v13, v14, v15, v16, v17, v18, v19, v20, v21, v22, v23, v24, v89⟩ := v
  simp only at h14v h13v HQ
  subst h14v h13v
  obtain ⟨hs1, hd1, q0, q1, q2, q6, q7, q8, q9, q10, q11, q12, q13, q14, q15, q16, q17, q18, q19, q20, q21, q22, q23, q24, q89⟩ := hF
  obtain ⟨u, hu⟩ := frame_aa t' hs1
  simp only at hd1 q0 q1 q2 q6 q7 q8 q9 q10 q11 q12 q13 q14 q15 q16 q17 q18 q19 q20 q21 q22 q23 q24 q89
  subst hu hd1
  have e0 : u 0 = v0 := q0
  have e1 : u 1 = v1 := q1
  have e2 : u 2 = v2 := q2
  have e6 : u 6 = v6 := q6
  have e7 : u 7 = v7 := q7
  have e8 : u 8 = v8 := q8
  have e9 : u 9 = v9 := q9
  have e10 : u 10 = v10 := q10
  have e11 : u 11 = v11 := q11
  have e12 : u 12 = v12 := q12
  have e13 : u 13 = .pointer (some ad) := q13
  have e14 : u 14 = .int .i64 0 := q14
  have e15 : u 15 = v15 := q15
  have e16 : u 16 = v16 := q16
  have e17 : u 17 = v17 := q17
  have e18 : u 18 = v18 := q18
  have e19 : u 19 = v19 := q19
  have e20 : u 20 = v20 := q20
  have e21 : u 21 = v21 := q21
  have e22 : u 22 = v22 := q22
  have e23 : u 23 = v23 := q23
  have e24 : u 24 = v24 := q24
  have e89 : u 89 = v89 := q89
  rw [e0, e1, e2, e6, e7, e8, e9, e10, e11, e12, e13, e14, e15, e16, e17, e18, e19, e20, e21, e22, e23, e24, e89]
  clear q0 e0 q1 e1 q2 e2 q6 e6 q7 e7 q8 e8 q9 e9 q10 e10 q11 e11 q12 e12 q13 e13 q14 e14 q15 e15 q16 e16 q17 e17 q18 e18 q19 e19 q20 e20 q21 e21 q22 e22 q23 e23 q24 e24 q89 e89 hs1
  simp only [Try.f4, Option.getD_some, regOf] at hc
  injection hc with hc
  subst hc
  go_wp2
  exact HQ.out _ ⟨rfl, rfl, rfl, rfl, rfl, rfl, rfl, rfl, rfl, rfl, rfl, rfl, rfl, rfl, rfl, rfl, rfl, rfl, rfl, rfl, rfl, rfl, rfl, rfl, rfl⟩ (by first | rfl | (simp; done))
set_option maxHeartbeats 8000000 in
set_option maxRecDepth 100000 in
theorem aa_r16 {K : Act → World → Prop} {c : Code} (hc : regOf (Try.f4.body.getD .skip) 16 = some c) (a : Act) {v : Vaa} {wq : World} {oo ta : Option Addr} {n oc tc : Nat} {w3 : World} {ad : Addr} (hF : Faa a v) (h11v : v.v11 = .slice oo n oc) (h13v : v.v13 = .pointer (some ad)) (hr : (Builtin.append_ #[51, 51] 51 #[.slice oo n oc, .slice (some ⟨wq.heap.size, 0, none⟩) 1 1]).run Try.prog (wq.alloc (.cells #[.pointer (some ad)] 26)) = .ok (.slice ta (n + 1) tc) w3)
    (hQ : ∀ a', Faa a' { v with v11 := .slice ta (n + 1) tc } → K a' w3) :
    Code.wp Try.prog c (Exit.then K fun _ _ _ => False) a wq := by
  have HQ := hide hQ
  clear hQ
  obtain ⟨t', d'⟩ := a
  obtain ⟨v0, v1, v2, v6, v7, v8, v9, v10, v11, v12, v13, v14, v15, v16, v17, v18, v19, v20, v21, v22, v23, v24, v89⟩ := v
  simp only at h11v h13v HQ
  subst h11v h13v
  obtain ⟨hs1, hd1, q0, q1, q2, q6, q7, q8, q9, q10, q11, q12, q13, q14, q15, q16, q17, q18, q19, q20, q21, q22, q23, q24, q89⟩ := hF
  obtain ⟨u, hu⟩ := frame_aa t' hs1
  simp only at hd1 q0 q1 q2 q6 q7 q8 q9 q10 q11 q12 q13 q14 q15 q16 q17 q18 q19 q20 q21 q22 q23 q24 q89
  subst hu hd1
  have e0 : u 0 = v0 := q0
  have e1 : u 1 = v1 := q1
  have e2 : u 2 = v2 := q2
  have e6 : u 6 = v6 := q6
  have e7 : u 7 = v7 := q7
  have e8 : u 8 = v8 := q8
  have e9 : u 9 = v9 := q9
  have e10 : u 10 = v10 := q10
  have e11 : u 11 = .slice oo n oc := q11
  have e12 : u 12 = v12 := q12
  have e13 : u 13 = .pointer (some ad) := q13
  have e14 : u 14 = v14 := q14
  have e15 : u 15 = v15 := q15
  have e16 : u 16 = v16 := q16
  have e17 : u 17 = v17 := q17
  have e18 : u 18 = v18 := q18
  have e19 : u 19 = v19 := q19
  have e20 : u 20 = v20 := q20
  have e21 : u 21 = v21 := q21
  have e22 : u 22 = v22 := q22
  have e23 : u 23 = v23 := q23
  have e24 : u 24 = v24 := q24
  have e89 : u 89 = v89 := q89
  rw [e0, e1, e2, e6, e7, e8, e9, e10, e11, e12, e13, e14, e15, e16, e17, e18, e19, e20, e21, e22, e23, e24, e89]
  clear q0 e0 q1 e1 q2 e2 q6 e6 q7 e7 q8 e8 q9 e9 q10 e10 q11 e11 q12 e12 q13 e13 q14 e14 q15 e15 q16 e16 q17 e17 q18 e18 q19 e19 q20 e20 q21 e21 q22 e22 q23 e23 q24 e24 q89 e89 hs1
  simp only [Try.f4, Option.getD_some, regOf] at hc
  injection hc with hc
  subst hc
  have HA := hide hr
  clear hr
  go_wp2_with (at_builtin; refine wpList_append_run rfl _ _ 51 rfl _ _ _ rfl rfl HA.out ?_)
  exact HQ.out _ ⟨rfl, rfl, rfl, rfl, rfl, rfl, rfl, rfl, rfl, rfl, rfl, rfl, rfl, rfl, rfl, rfl, rfl, rfl, rfl, rfl, rfl, rfl, rfl, rfl, rfl⟩
set_option maxHeartbeats 8000000 in
set_option maxRecDepth 100000 in
theorem aa_r12 {K : Act → World → Prop} {c : Code} (hc : regOf (Try.f4.body.getD .skip) 12 = some c) (a : Act) {v : Vaa} {wq : World} {k : Nat} (hF : Faa a v) (h12v : v.v12 = .int .i64 (k : Int)) (hk : k ≤ 1000000) (hQ : ∀ a', Faa a' { v with v12 := .int .i64 ((k + 1 : Nat) : Int) } → K a' wq) :
    Code.wp Try.prog c (Exit.then K fun _ _ _ => False) a wq := by
  have HQ := hide hQ
  clear hQ
  obtain ⟨t', d'⟩ := a
  obtain ⟨v0, v1, v2, v6, v7, v8, v9, v10, v11, v12, v13, v14, v15, v16, v17, v18, v19, v20, v21, v22, v23, v24, v89⟩ := v
  simp only at h12v HQ
  subst h12v
  obtain ⟨hs1, hd1, q0, q1, q2, q6, q7, q8, q9, q10, q11, q12, q13, q14, q15, q16, q17, q18, q19, q20, q21, q22, q23, q24, q89⟩ := hF
  obtain ⟨u, hu⟩ := frame_aa t' hs1
  simp only at hd1 q0 q1 q2 q6 q7 q8 q9 q10 q11 q12 q13 q14 q15 q16 q17 q18 q19 q20 q21 q22 q23 q24 q89
  subst hu hd1
  have e0 : u 0 = v0 := q0
  have e1 : u 1 = v1 := q1
  have e2 : u 2 = v2 := q2
  have e6 : u 6 = v6 := q6
  have e7 : u 7 = v7 := q7
  have e8 : u 8 = v8 := q8
  have e9 : u 9 = v9 := q9
  have e10 : u 10 = v10 := q10
  have e11 : u 11 = v11 := q11
  have e12 : u 12 = .int .i64 (k : Int) := q12
  have e13 : u 13 = v13 := q13
  have e14 : u 14 = v14 := q14
  have e15 : u 15 = v15 := q15
  have e16 : u 16 = v16 := q16
  have e17 : u 17 = v17 := q17
  have e18 : u 18 = v18 := q18
  have e19 : u 19 = v19 := q19
  have e20 : u 20 = v20 := q20
  have e21 : u 21 = v21 := q21
  have e22 : u 22 = v22 := q22
  have e23 : u 23 = v23 := q23
  have e24 : u 24 = v24 := q24
  have e89 : u 89 = v89 := q89
  rw [e0, e1, e2, e6, e7, e8, e9, e10, e11, e12, e13, e14, e15, e16, e17, e18, e19, e20, e21, e22, e23, e24, e89]
  clear q0 e0 q1 e1 q2 e2 q6 e6 q7 e7 q8 e8 q9 e9 q10 e10 q11 e11 q12 e12 q13 e13 q14 e14 q15 e15 q16 e16 q17 e17 q18 e18 q19 e19 q20 e20 q21 e21 q22 e22 q23 e23 q24 e24 q89 e89 hs1
  simp only [Try.f4, Option.getD_some, regOf] at hc
  injection hc with hc
  subst hc
  have hc : ((k + 1 : Nat) : Int) = (k : Int) + 1 := by omega
  rw [hc] at HQ
  go_wp2
  exact HQ.out _ ⟨rfl, rfl, rfl, rfl, rfl, rfl, rfl, rfl, rfl, rfl, rfl, rfl, rfl, rfl, rfl, rfl, rfl, rfl, rfl, rfl, rfl, rfl, rfl, rfl, rfl⟩
set_option maxHeartbeats 8000000 in
set_option maxRecDepth 100000 in
theorem aa_r17 {K : Act → World → Prop} {c : Code} (hc : regOf (Try.f4.body.getD .skip) 17 = some c) (a : Act) {v : Vaa} {wq : World} {n : Nat} (hF : Faa a v) (h8v : v.v8 = .int .i64 (n : Int)) (hn : n ≤ 7)
    (hQ : ∀ a' w1, Faa a' { v with v15 := .slice (some ⟨wq.heap.size, 0, none⟩) n n } → w1.ownsRow wq.heap.size 55 1 (.slice (some ⟨wq.heap.size, 0, none⟩) n n) n (List.replicate n (.slice none 0 0)) → Below wq.heap.size wq w1 → K a' w1) :
    Code.wp Try.prog c (Exit.then K fun _ _ _ => False) a wq := by
  have HQ := hide hQ
  clear hQ
  obtain ⟨t', d'⟩ := a
  obtain ⟨v0, v1, v2, v6, v7, v8, v9, v10, v11, v12, v13, v14, v15, v16, v17, v18, v19, v20, v21, v22, v23, v24, v89⟩ := v
  simp only at h8v HQ
  subst h8v
  obtain ⟨hs1, hd1, q0, q1, q2, q6, q7, q8, q9, q10, q11, q12, q13, q14, q15, q16, q17, q18, q19, q20, q21, q22, q23, q24, q89⟩ := hF
  obtain ⟨u, hu⟩ := frame_aa t' hs1
  simp only at hd1 q0 q1 q2 q6 q7 q8 q9 q10 q11 q12 q13 q14 q15 q16 q17 q18 q19 q20 q21 q22 q23 q24 q89
  subst hu hd1
  have e0 : u 0 = v0 := q0
  have e1 : u 1 = v1 := q1
  have e2 : u 2 = v2 := q2
  have e6 : u 6 = v6 := q6
  have e7 : u 7 = v7 := q7
  have e8 : u 8 = .int .i64 (n : Int) := q8
  have e9 : u 9 = v9 := q9
  have e10 : u 10 = v10 := q10
  have e11 : u 11 = v11 := q11
  have e12 : u 12 = v12 := q12
  have e13 : u 13 = v13 := q13
  have e14 : u 14 = v14 := q14
  have e15 : u 15 = v15 := q15
  have e16 : u 16 = v16 := q16
  have e17 : u 17 = v17 := q17
  have e18 : u 18 = v18 := q18
  have e19 : u 19 = v19 := q19
  have e20 : u 20 = v20 := q20
  have e21 : u 21 = v21 := q21
  have e22 : u 22 = v22 := q22
  have e23 : u 23 = v23 := q23
  have e24 : u 24 = v24 := q24
  have e89 : u 89 = v89 := q89
  rw [e0, e1, e2, e6, e7, e8, e9, e10, e11, e12, e13, e14, e15, e16, e17, e18, e19, e20, e21, e22, e23, e24, e89]
  clear q0 e0 q1 e1 q2 e2 q6 e6 q7 e7 q8 e8 q9 e9 q10 e10 q11 e11 q12 e12 q13 e13 q14 e14 q15 e15 q16 e16 q17 e17 q18 e18 q19 e19 q20 e20 q21 e21 q22 e22 q23 e23 q24 e24 q89 e89 hs1
  simp only [Try.f4, Option.getD_some, regOf] at hc
  injection hc with hc
  subst hc
  obtain ⟨i0, hi0, hz0, hz1, hz2⟩ := zinfo_parts infoTells
  go_wp2_with (refine wpList_make_full _ rfl _ _ 52 rfl wq.heap.size 55 i0 (.slice none 0 0) 1 Try.underlying52 hi0 hz0 hz1 .i64 .i64 _ _ n rfl rfl rfl rfl (by rw [hz2]; omega) (by unfold maxLen; omega) (Nat.le_refl _) ?_; intro w1 hown hgrow; rw [Nat.mul_one, show (.slice none 0 0 : Value).cells = #[.slice none 0 0] from rfl, toList_madeCells_one] at hown; have H1 := hide hown; have H2 := hide ((Below.refl wq.heap.size wq).grown hgrow (Nat.le_refl _) (fun j hj => by cases hj)); clear hown hgrow)
  exact HQ.out _ _ ⟨rfl, rfl, rfl, rfl, rfl, rfl, rfl, rfl, rfl, rfl, rfl, rfl, rfl, rfl, rfl, rfl, rfl, rfl, rfl, rfl, rfl, rfl, rfl, rfl, rfl⟩ H1.out H2.out
set_option maxHeartbeats 8000000 in
set_option maxRecDepth 100000 in
theorem aa_r18 {K : Act → World → Prop} {c : Code} (hc : regOf (Try.f4.body.getD .skip) 18 = some c) (a : Act) {v : Vaa} {wq : World} {n : Nat} (hF : Faa a v) (h8v : v.v8 = .int .i64 (n : Int)) (hn : n ≤ 7)
    (hQ : ∀ a' w1, Faa a' { v with v16 := .slice (some ⟨wq.heap.size, 0, none⟩) n n } → w1.ownsRow wq.heap.size 3 1 (.slice (some ⟨wq.heap.size, 0, none⟩) n n) n (List.replicate n (.int .i64 0)) → Below wq.heap.size wq w1 → K a' w1) :
    Code.wp Try.prog c (Exit.then K fun _ _ _ => False) a wq := by
  have HQ := hide hQ
  clear hQ
  obtain ⟨t', d'⟩ := a
  obtain ⟨v0, v1, v2, v6, v7, v8, v9, v10, v11, v12, v13, v14, v15, v16, v17, v18, v19, v20, v21, v22, v23, v24, v89⟩ := v
  simp only at h8v HQ
  subst h8v
  obtain ⟨hs1, hd1, q0, q1, q2, q6, q7, q8, q9, q10, q11, q12, q13, q14, q15, q16, q17, q18, q19, q20, q21, q22, q23, q24, q89⟩ := hF
  obtain ⟨u, hu⟩ := frame_aa t' hs1
  simp only at hd1 q0 q1 q2 q6 q7 q8 q9 q10 q11 q12 q13 q14 q15 q16 q17 q18 q19 q20 q21 q22 q23 q24 q89
  subst hu hd1
  have e0 : u 0 = v0 := q0
  have e1 : u 1 = v1 := q1
  have e2 : u 2 = v2 := q2
  have e6 : u 6 = v6 := q6
  have e7 : u 7 = v7 := q7
  have e8 : u 8 = .int .i64 (n : Int) := q8
  have e9 : u 9 = v9 := q9
  have e10 : u 10 = v10 := q10
  have e11 : u 11 = v11 := q11
  have e12 : u 12 = v12 := q12
  have e13 : u 13 = v13 := q13
  have e14 : u 14 = v14 := q14
  have e15 : u 15 = v15 := q15
  have e16 : u 16 = v16 := q16
  have e17 : u 17 = v17 := q17
  have e18 : u 18 = v18 := q18
  have e19 : u 19 = v19 := q19
  have e20 : u 20 = v20 := q20
  have e21 : u 21 = v21 := q21
  have e22 : u 22 = v22 := q22
  have e23 : u 23 = v23 := q23
  have e24 : u 24 = v24 := q24
  have e89 : u 89 = v89 := q89
  rw [e0, e1, e2, e6, e7, e8, e9, e10, e11, e12, e13, e14, e15, e16, e17, e18, e19, e20, e21, e22, e23, e24, e89]
  clear q0 e0 q1 e1 q2 e2 q6 e6 q7 e7 q8 e8 q9 e9 q10 e10 q11 e11 q12 e12 q13 e13 q14 e14 q15 e15 q16 e16 q17 e17 q18 e18 q19 e19 q20 e20 q21 e21 q22 e22 q23 e23 q24 e24 q89 e89 hs1
  simp only [Try.f4, Option.getD_some, regOf] at hc
  injection hc with hc
  subst hc
  obtain ⟨i0, hi0, hz0, hz1, hz2⟩ := zinfo_parts infoInt
  go_wp2_with (refine wpList_make_full _ rfl _ _ 22 rfl wq.heap.size 3 i0 (.int .i64 0) 1 Try.underlying22 hi0 hz0 hz1 .i64 .i64 _ _ n rfl rfl rfl rfl (by rw [hz2]; omega) (by unfold maxLen; omega) (Nat.le_refl _) ?_; intro w1 hown hgrow; rw [Nat.mul_one, show (.int .i64 0 : Value).cells = #[.int .i64 0] from rfl, toList_madeCells_one] at hown; have H1 := hide hown; have H2 := hide ((Below.refl wq.heap.size wq).grown hgrow (Nat.le_refl _) (fun j hj => by cases hj)); clear hown hgrow)
  exact HQ.out _ _ ⟨rfl, rfl, rfl, rfl, rfl, rfl, rfl, rfl, rfl, rfl, rfl, rfl, rfl, rfl, rfl, rfl, rfl, rfl, rfl, rfl, rfl, rfl, rfl, rfl, rfl⟩ H1.out H2.out
set_option maxHeartbeats 8000000 in
set_option maxRecDepth 100000 in
theorem aa_r19 {K : Act → World → Prop} {c : Code} (hc : regOf (Try.f4.body.getD .skip) 19 = some c) (a : Act) {v : Vaa} {wq : World}  (hF : Faa a v) (hQ : ∀ a', Faa a' { v with v17 := .int .i64 ((0 : Nat) : Int) } → K a' wq) :
    Code.wp Try.prog c (Exit.then K fun _ _ _ => False) a wq := by
  have HQ := hide hQ
  clear hQ
  obtain ⟨t', d'⟩ := a
  obtain ⟨v0, v1, v2, v6, v7, v8, v9, v10, v11, v12, v13, v14, v15, v16, v17, v18, v19, v20, v21, v22, v23, v24, v89⟩ := v
  obtain ⟨hs1, hd1, q0, q1, q2, q6, q7, q8, q9, q10, q11, q12, q13, q14, q15, q16, q17, q18, q19, q20, q21, q22, q23, q24, q89⟩ := hF
  obtain ⟨u, hu⟩ := frame_aa t' hs1
  simp only at hd1 q0 q1 q2 q6 q7 q8 q9 q10 q11 q12 q13 q14 q15 q16 q17 q18 q19 q20 q21 q22 q23 q24 q89
  subst hu hd1
  have e0 : u 0 = v0 := q0
  have e1 : u 1 = v1 := q1
  have e2 : u 2 = v2 := q2
  have e6 : u 6 = v6 := q6
  have e7 : u 7 = v7 := q7
  have e8 : u 8 = v8 := q8
  have e9 : u 9 = v9 := q9
  have e10 : u 10 = v10 := q10
  have e11 : u 11 = v11 := q11
  have e12 : u 12 = v12 := q12
  have e13 : u 13 = v13 := q13
  have e14 : u 14 = v14 := q14
  have e15 : u 15 = v15 := q15
  have e16 : u 16 = v16 := q16
  have e17 : u 17 = v17 := q17
  have e18 : u 18 = v18 := q18
  have e19 : u 19 = v19 := q19
  have e20 : u 20 = v20 := q20
  have e21 : u 21 = v21 := q21
  have e22 : u 22 = v22 := q22
  have e23 : u 23 = v23 := q23
  have e24 : u 24 = v24 := q24
  have e89 : u 89 = v89 := q89
  rw [e0, e1, e2, e6, e7, e8, e9, e10, e11, e12, e13, e14, e15, e16, e17, e18, e19, e20, e21, e22, e23, e24, e89]
  clear q0 e0 q1 e1 q2 e2 q6 e6 q7 e7 q8 e8 q9 e9 q10 e10 q11 e11 q12 e12 q13 e13 q14 e14 q15 e15 q16 e16 q17 e17 q18 e18 q19 e19 q20 e20 q21 e21 q22 e22 q23 e23 q24 e24 q89 e89 hs1
  simp only [Try.f4, Option.getD_some, regOf] at hc
  injection hc with hc
  subst hc
  go_wp2
  exact HQ.out _ ⟨rfl, rfl, rfl, rfl, rfl, rfl, rfl, rfl, rfl, rfl, rfl, rfl, rfl, rfl, rfl, rfl, rfl, rfl, rfl, rfl, rfl, rfl, rfl, rfl, rfl⟩
set_option maxHeartbeats 8000000 in
set_option maxRecDepth 100000 in
theorem aa_r20n {K : Act → World → Prop} {c : Code} (hc : regOf (Try.f4.body.getD .skip) 20 = some c) (a : Act) {v : Vaa} {wq : World} {ao : Option Addr} {n cp k : Nat} (hF : Faa a v) (h2v : v.v2 = .slice ao n cp) (h17v : v.v17 = .int .i64 (k : Int)) (hk : ¬ (k : Int) < (n : Int)) (hQ : ∀ a', Faa a' v → a'.tmps.getD 76 undef = .bool false → K a' wq) :
    Code.wp Try.prog c (Exit.then K fun _ _ _ => False) a wq := by
  have HQ := hide hQ
  clear hQ
  obtain ⟨t', d'⟩ := a
  obtain ⟨v0, v1, v2, v6, v7, v8, v9, v10, v11, v12, v13, v14, v15, v16, v17, v18, v19, v20, v21, v22, v23, v24, v89⟩ := v
  simp only at h2v h17v HQ
  subst h2v h17v
  obtain ⟨hs1, hd1, q0, q1, q2, q6, q7, q8, q9, q10, q11, q12, q13, q14, q15, q16, q17, q18, q19, q20, q21, q22, q23, q24, q89⟩ := hF
  obtain ⟨u, hu⟩ := frame_aa t' hs1
  simp only at hd1 q0 q1 q2 q6 q7 q8 q9 q10 q11 q12 q13 q14 q15 q16 q17 q18 q19 q20 q21 q22 q23 q24 q89
  subst hu hd1
  have e0 : u 0 = v0 := q0
  have e1 : u 1 = v1 := q1
  have e2 : u 2 = .slice ao n cp := q2
  have e6 : u 6 = v6 := q6
  have e7 : u 7 = v7 := q7
  have e8 : u 8 = v8 := q8
  have e9 : u 9 = v9 := q9
  have e10 : u 10 = v10 := q10
  have e11 : u 11 = v11 := q11
  have e12 : u 12 = v12 := q12
  have e13 : u 13 = v13 := q13
  have e14 : u 14 = v14 := q14
  have e15 : u 15 = v15 := q15
  have e16 : u 16 = v16 := q16
  have e17 : u 17 = .int .i64 (k : Int) := q17
  have e18 : u 18 = v18 := q18
  have e19 : u 19 = v19 := q19
  have e20 : u 20 = v20 := q20
  have e21 : u 21 = v21 := q21
  have e22 : u 22 = v22 := q22
  have e23 : u 23 = v23 := q23
  have e24 : u 24 = v24 := q24
  have e89 : u 89 = v89 := q89
  rw [e0, e1, e2, e6, e7, e8, e9, e10, e11, e12, e13, e14, e15, e16, e17, e18, e19, e20, e21, e22, e23, e24, e89]
  clear q0 e0 q1 e1 q2 e2 q6 e6 q7 e7 q8 e8 q9 e9 q10 e10 q11 e11 q12 e12 q13 e13 q14 e14 q15 e15 q16 e16 q17 e17 q18 e18 q19 e19 q20 e20 q21 e21 q22 e22 q23 e23 q24 e24 q89 e89 hs1
  simp only [Try.f4, Option.getD_some, regOf] at hc
  injection hc with hc
  subst hc
  have hd : decide ((k : Int) < (n : Int)) = false := decide_eq_false hk
  go_wp2
  exact HQ.out _ ⟨rfl, rfl, rfl, rfl, rfl, rfl, rfl, rfl, rfl, rfl, rfl, rfl, rfl, rfl, rfl, rfl, rfl, rfl, rfl, rfl, rfl, rfl, rfl, rfl, rfl⟩ (by first | rfl | (simp; done))
set_option maxHeartbeats 8000000 in
set_option maxRecDepth 100000 in
theorem aa_r20y {K : Act → World → Prop} {c : Code} (hc : regOf (Try.f4.body.getD .skip) 20 = some c) (a : Act) {v : Vaa} {wq : World} {ao : Option Addr} {n cp k : Nat} (hF : Faa a v) (h2v : v.v2 = .slice ao n cp) (h17v : v.v17 = .int .i64 (k : Int)) (hk : (k : Int) < (n : Int)) (hQ : ∀ a', Faa a' v → a'.tmps.getD 76 undef = .bool (decide ((k : Int) < 200)) → K a' wq) :
    Code.wp Try.prog c (Exit.then K fun _ _ _ => False) a wq := by
  have HQ := hide hQ
  clear hQ
  obtain ⟨t', d'⟩ := a
  obtain ⟨v0, v1, v2, v6, v7, v8, v9, v10, v11, v12, v13, v14, v15, v16, v17, v18, v19, v20, v21, v22, v23, v24, v89⟩ := v
  simp only at h2v h17v HQ
  subst h2v h17v
  obtain ⟨hs1, hd1, q0, q1, q2, q6, q7, q8, q9, q10, q11, q12, q13, q14, q15, q16, q17, q18, q19, q20, q21, q22, q23, q24, q89⟩ := hF
  obtain ⟨u, hu⟩ := frame_aa t' hs1
  simp only at hd1 q0 q1 q2 q6 q7 q8 q9 q10 q11 q12 q13 q14 q15 q16 q17 q18 q19 q20 q21 q22 q23 q24 q89
  subst hu hd1
  have e0 : u 0 = v0 := q0
  have e1 : u 1 = v1 := q1
  have e2 : u 2 = .slice ao n cp := q2
  have e6 : u 6 = v6 := q6
  have e7 : u 7 = v7 := q7
  have e8 : u 8 = v8 := q8
  have e9 : u 9 = v9 := q9
  have e10 : u 10 = v10 := q10
  have e11 : u 11 = v11 := q11
  have e12 : u 12 = v12 := q12
  have e13 : u 13 = v13 := q13
  have e14 : u 14 = v14 := q14
  have e15 : u 15 = v15 := q15
  have e16 : u 16 = v16 := q16
  have e17 : u 17 = .int .i64 (k : Int) := q17
  have e18 : u 18 = v18 := q18
  have e19 : u 19 = v19 := q19
  have e20 : u 20 = v20 := q20
  have e21 : u 21 = v21 := q21
  have e22 : u 22 = v22 := q22
  have e23 : u 23 = v23 := q23
  have e24 : u 24 = v24 := q24
  have e89 : u 89 = v89 := q89
  rw [e0, e1, e2, e6, e7, e8, e9, e10, e11, e12, e13, e14, e15, e16, e17, e18, e19, e20, e21, e22, e23, e24, e89]
  clear q0 e0 q1 e1 q2 e2 q6 e6 q7 e7 q8 e8 q9 e9 q10 e10 q11 e11 q12 e12 q13 e13 q14 e14 q15 e15 q16 e16 q17 e17 q18 e18 q19 e19 q20 e20 q21 e21 q22 e22 q23 e23 q24 e24 q89 e89 hs1
  simp only [Try.f4, Option.getD_some, regOf] at hc
  injection hc with hc
  subst hc
  have hd : decide ((k : Int) < (n : Int)) = true := decide_eq_true hk
  go_wp2
  exact HQ.out _ ⟨rfl, rfl, rfl, rfl, rfl, rfl, rfl, rfl, rfl, rfl, rfl, rfl, rfl, rfl, rfl, rfl, rfl, rfl, rfl, rfl, rfl, rfl, rfl, rfl, rfl⟩ (by first | rfl | (simp; done))
set_option maxHeartbeats 8000000 in
set_option maxRecDepth 100000 in
theorem aa_r22 {K : Act → World → Prop} {c : Code} (hc : regOf (Try.f4.body.getD .skip) 22 = some c) (a : Act) {v : Vaa} {wq : World} {db df n cp k : Nat} {d : TU} (hF : Faa a v) (h2v : v.v2 = .slice (some ⟨db, df, none⟩) n cp) (h17v : v.v17 = .int .i64 (k : Int)) (hk : k < n) (hD : TUAt wq db (df + k * 5) d)
    (hQ : ∀ a', Faa a' { v with v18 := .pointer (some ⟨wq.heap.size, 0, none⟩) } → K a' (wq.alloc (.cells #[.int .i64 d.kind, .int .i64 d.who, .int .i64 d.n, .int .i64 d.i, .string d.s] 54))) :
    Code.wp Try.prog c (Exit.then K fun _ _ _ => False) a wq := by
  have HQ := hide hQ
  clear hQ
  obtain ⟨t', d'⟩ := a
  obtain ⟨v0, v1, v2, v6, v7, v8, v9, v10, v11, v12, v13, v14, v15, v16, v17, v18, v19, v20, v21, v22, v23, v24, v89⟩ := v
  simp only at h2v h17v HQ
  subst h2v h17v
  obtain ⟨hs1, hd1, q0, q1, q2, q6, q7, q8, q9, q10, q11, q12, q13, q14, q15, q16, q17, q18, q19, q20, q21, q22, q23, q24, q89⟩ := hF
  obtain ⟨u, hu⟩ := frame_aa t' hs1
  simp only at hd1 q0 q1 q2 q6 q7 q8 q9 q10 q11 q12 q13 q14 q15 q16 q17 q18 q19 q20 q21 q22 q23 q24 q89
  subst hu hd1
  have e0 : u 0 = v0 := q0
  have e1 : u 1 = v1 := q1
  have e2 : u 2 = .slice (some ⟨db, df, none⟩) n cp := q2
  have e6 : u 6 = v6 := q6
  have e7 : u 7 = v7 := q7
  have e8 : u 8 = v8 := q8
  have e9 : u 9 = v9 := q9
  have e10 : u 10 = v10 := q10
  have e11 : u 11 = v11 := q11
  have e12 : u 12 = v12 := q12
  have e13 : u 13 = v13 := q13
  have e14 : u 14 = v14 := q14
  have e15 : u 15 = v15 := q15
  have e16 : u 16 = v16 := q16
  have e17 : u 17 = .int .i64 (k : Int) := q17
  have e18 : u 18 = v18 := q18
  have e19 : u 19 = v19 := q19
  have e20 : u 20 = v20 := q20
  have e21 : u 21 = v21 := q21
  have e22 : u 22 = v22 := q22
  have e23 : u 23 = v23 := q23
  have e24 : u 24 = v24 := q24
  have e89 : u 89 = v89 := q89
  rw [e0, e1, e2, e6, e7, e8, e9, e10, e11, e12, e13, e14, e15, e16, e17, e18, e19, e20, e21, e22, e23, e24, e89]
  clear q0 e0 q1 e1 q2 e2 q6 e6 q7 e7 q8 e8 q9 e9 q10 e10 q11 e11 q12 e12 q13 e13 q14 e14 q15 e15 q16 e16 q17 e17 q18 e18 q19 e19 q20 e20 q21 e21 q22 e22 q23 e23 q24 e24 q89 e89 hs1
  simp only [Try.f4, Option.getD_some, regOf] at hc
  injection hc with hc
  subst hc
  obtain ⟨c0, c1, c2, c3, c4⟩ := hD
  have i0 : (0 : Int) ≤ (k : Int) := by omega
  have i1 : (k : Int) < (n : Int) := by omega
  go_wp2
  exact HQ.out _ ⟨rfl, rfl, rfl, rfl, rfl, rfl, rfl, rfl, rfl, rfl, rfl, rfl, rfl, rfl, rfl, rfl, rfl, rfl, rfl, rfl, rfl, rfl, rfl, rfl, rfl⟩
set_option maxHeartbeats 8000000 in
set_option maxRecDepth 100000 in
theorem aa_r23 {K : Act → World → Prop} {c : Code} (hc : regOf (Try.f4.body.getD .skip) 23 = some c) (a : Act) {v : Vaa} {wq : World} {R : World → Prop} {cb n x : Nat} {d : TU} (hF : Faa a v) (h18v : v.v18 = .pointer (some ⟨cb, 0, none⟩)) (h8v : v.v8 = .int .i64 (n : Int)) (hC : wq.heap[cb]? = some (.cells #[.int .i64 d.kind, .int .i64 d.who, .int .i64 d.n, .int .i64 d.i, .string d.s] 54 (0, 0))) (hE : Calls Try.prog 12 #[.int .i64 d.who, .int .i64 (n : Int)] wq fun e w' => e = .returned (.int .i64 (x : Int)) ∧ R w')
    (hQ : ∀ a' w1, Faa a' { v with v19 := .int .i64 (x : Int) } → R w1 → K a' w1) :
    Code.wp Try.prog c (Exit.then K fun _ _ _ => False) a wq := by
  have HQ := hide hQ
  clear hQ
  obtain ⟨t', d'⟩ := a
  obtain ⟨v0, v1, v2, v6, v7, v8, v9, v10, v11, v12, v13, v14, v15, v16, v17, v18, v19, v20, v21, v22, v23, v24, v89⟩ := v
  simp only at h18v h8v HQ
  subst h18v h8v
  obtain ⟨hs1, hd1, q0, q1, q2, q6, q7, q8, q9, q10, q11, q12, q13, q14, q15, q16, q17, q18, q19, q20, q21, q22, q23, q24, q89⟩ := hF
  obtain ⟨u, hu⟩ := frame_aa t' hs1
  simp only at hd1 q0 q1 q2 q6 q7 q8 q9 q10 q11 q12 q13 q14 q15 q16 q17 q18 q19 q20 q21 q22 q23 q24 q89
  subst hu hd1
  have e0 : u 0 = v0 := q0
  have e1 : u 1 = v1 := q1
  have e2 : u 2 = v2 := q2
  have e6 : u 6 = v6 := q6
  have e7 : u 7 = v7 := q7
  have e8 : u 8 = .int .i64 (n : Int) := q8
  have e9 : u 9 = v9 := q9
  have e10 : u 10 = v10 := q10
  have e11 : u 11 = v11 := q11
  have e12 : u 12 = v12 := q12
  have e13 : u 13 = v13 := q13
  have e14 : u 14 = v14 := q14
  have e15 : u 15 = v15 := q15
  have e16 : u 16 = v16 := q16
  have e17 : u 17 = v17 := q17
  have e18 : u 18 = .pointer (some ⟨cb, 0, none⟩) := q18
  have e19 : u 19 = v19 := q19
  have e20 : u 20 = v20 := q20
  have e21 : u 21 = v21 := q21
  have e22 : u 22 = v22 := q22
  have e23 : u 23 = v23 := q23
  have e24 : u 24 = v24 := q24
  have e89 : u 89 = v89 := q89
  rw [e0, e1, e2, e6, e7, e8, e9, e10, e11, e12, e13, e14, e15, e16, e17, e18, e19, e20, e21, e22, e23, e24, e89]
  clear q0 e0 q1 e1 q2 e2 q6 e6 q7 e7 q8 e8 q9 e9 q10 e10 q11 e11 q12 e12 q13 e13 q14 e14 q15 e15 q16 e16 q17 e17 q18 e18 q19 e19 q20 e20 q21 e21 q22 e22 q23 e23 q24 e24 q89 e89 hs1
  simp only [Try.f4, Option.getD_some, regOf] at hc
  injection hc with hc
  subst hc
  have HE := hide hE
  clear hE
  have z1 := box_cell hC 1 rfl
  clear hC
  go_wp2_with (go_at_call 12; refine HE.out.mono ?_; rintro e w1 ⟨rfl, r1⟩; have R1 := hide r1; clear r1)
  exact HQ.out _ _ ⟨rfl, rfl, rfl, rfl, rfl, rfl, rfl, rfl, rfl, rfl, rfl, rfl, rfl, rfl, rfl, rfl, rfl, rfl, rfl, rfl, rfl, rfl, rfl, rfl, rfl⟩ R1.out
set_option maxHeartbeats 8000000 in
set_option maxRecDepth 100000 in
theorem aa_r24 {K : Act → World → Prop} {c : Code} (hc : regOf (Try.f4.body.getD .skip) 24 = some c) (a : Act) {v : Vaa} {wq : World} {R : World → Prop} {cb x : Nat} {d : TU} (hF : Faa a v) (h18v : v.v18 = .pointer (some ⟨cb, 0, none⟩)) (hC : wq.heap[cb]? = some (.cells #[.int .i64 d.kind, .int .i64 d.who, .int .i64 d.n, .int .i64 d.i, .string d.s] 54 (0, 0))) (hE : Calls Try.prog 12 #[.int .i64 d.kind, .int .i64 4] wq fun e w' => e = .returned (.int .i64 (x : Int)) ∧ R w')
    (hQ : ∀ a' w1, Faa a' { v with v89 := .int .i64 (x : Int) } → R w1 → K a' w1) :
    Code.wp Try.prog c (Exit.then K fun _ _ _ => False) a wq := by
  have HQ := hide hQ
  clear hQ
  obtain ⟨t', d'⟩ := a
  obtain ⟨v0, v1, v2, v6, v7, v8, v9, v10, v11, v12, v13, v14, v15, v16, v17, v18, v19, v20, v21, v22, v23, v24, v89⟩ := v
  simp only at h18v HQ
  subst h18v
  obtain ⟨hs1, hd1, q0, q1, q2, q6, q7, q8, q9, q10, q11, q12, q13, q14, q15, q16, q17, q18, q19, q20, q21, q22, q23, q24, q89⟩ := hF
  obtain ⟨u, hu⟩ := frame_aa t' hs1
  simp only at hd1 q0 q1 q2 q6 q7 q8 q9 q10 q11 q12 q13 q14 q15 q16 q17 q18 q19 q20 q21 q22 q23 q24 q89
  subst hu hd1
  have e0 : u 0 = v0 := q0
  have e1 : u 1 = v1 := q1
  have e2 : u 2 = v2 := q2
  have e6 : u 6 = v6 := q6
  have e7 : u 7 = v7 := q7
  have e8 : u 8 = v8 := q8
  have e9 : u 9 = v9 := q9
  have e10 : u 10 = v10 := q10
  have e11 : u 11 = v11 := q11
  have e12 : u 12 = v12 := q12
  have e13 : u 13 = v13 := q13
  have e14 : u 14 = v14 := q14
  have e15 : u 15 = v15 := q15
  have e16 : u 16 = v16 := q16
  have e17 : u 17 = v17 := q17
  have e18 : u 18 = .pointer (some ⟨cb, 0, none⟩) := q18
  have e19 : u 19 = v19 := q19
  have e20 : u 20 = v20 := q20
  have e21 : u 21 = v21 := q21
  have e22 : u 22 = v22 := q22
  have e23 : u 23 = v23 := q23
  have e24 : u 24 = v24 := q24
  have e89 : u 89 = v89 := q89
  rw [e0, e1, e2, e6, e7, e8, e9, e10, e11, e12, e13, e14, e15, e16, e17, e18, e19, e20, e21, e22, e23, e24, e89]
  clear q0 e0 q1 e1 q2 e2 q6 e6 q7 e7 q8 e8 q9 e9 q10 e10 q11 e11 q12 e12 q13 e13 q14 e14 q15 e15 q16 e16 q17 e17 q18 e18 q19 e19 q20 e20 q21 e21 q22 e22 q23 e23 q24 e24 q89 e89 hs1
  simp only [Try.f4, Option.getD_some, regOf] at hc
  injection hc with hc
  subst hc
  have HE := hide hE
  clear hE
  have z0 := box_cell hC 0 rfl
  clear hC
  go_wp2_with (go_at_call 12; refine HE.out.mono ?_; rintro e w1 ⟨rfl, r1⟩; have R1 := hide r1; clear r1)
  exact HQ.out _ _ ⟨rfl, rfl, rfl, rfl, rfl, rfl, rfl, rfl, rfl, rfl, rfl, rfl, rfl, rfl, rfl, rfl, rfl, rfl, rfl, rfl, rfl, rfl, rfl, rfl, rfl⟩ R1.out
set_option maxHeartbeats 8000000 in
set_option maxRecDepth 100000 in
theorem aa_r27 {K : Act → World → Prop} {c : Code} (hc : regOf (Try.f4.body.getD .skip) 27 = some c) (a : Act) {v : Vaa} {wq : World} {x : Nat} (hF : Faa a v) (h89v : v.v89 = .int .i64 (x : Int)) (hQ : ∀ a', Faa a' v → a'.tmps.getD 102 undef = .bool (decide (x = 0)) → K a' wq) :
    Code.wp Try.prog c (Exit.then K fun _ _ _ => False) a wq := by
  have HQ := hide hQ
  clear hQ
  obtain ⟨t', d'⟩ := a
  obtain ⟨v0, v1, v2, v6, v7, v8, v9, v10, v11, v12, v13, v14, v15, v16, v17, v18, v19, v20, v21, v22, v23, v24, v89⟩ := v
  simp only at h89v HQ
  subst h89v
  obtain ⟨hs1, hd1, q0, q1, q2, q6, q7, q8, q9, q10, q11, q12, q13, q14, q15, q16, q17, q18, q19, q20, q21, q22, q23, q24, q89⟩ := hF
  obtain ⟨u, hu⟩ := frame_aa t' hs1
  simp only at hd1 q0 q1 q2 q6 q7 q8 q9 q10 q11 q12 q13 q14 q15 q16 q17 q18 q19 q20 q21 q22 q23 q24 q89
  subst hu hd1
  have e0 : u 0 = v0 := q0
  have e1 : u 1 = v1 := q1
  have e2 : u 2 = v2 := q2
  have e6 : u 6 = v6 := q6
  have e7 : u 7 = v7 := q7
  have e8 : u 8 = v8 := q8
  have e9 : u 9 = v9 := q9
  have e10 : u 10 = v10 := q10
  have e11 : u 11 = v11 := q11
  have e12 : u 12 = v12 := q12
  have e13 : u 13 = v13 := q13
  have e14 : u 14 = v14 := q14
  have e15 : u 15 = v15 := q15
  have e16 : u 16 = v16 := q16
  have e17 : u 17 = v17 := q17
  have e18 : u 18 = v18 := q18
  have e19 : u 19 = v19 := q19
  have e20 : u 20 = v20 := q20
  have e21 : u 21 = v21 := q21
  have e22 : u 22 = v22 := q22
  have e23 : u 23 = v23 := q23
  have e24 : u 24 = v24 := q24
  have e89 : u 89 = .int .i64 (x : Int) := q89
  rw [e0, e1, e2, e6, e7, e8, e9, e10, e11, e12, e13, e14, e15, e16, e17, e18, e19, e20, e21, e22, e23, e24, e89]
  clear q0 e0 q1 e1 q2 e2 q6 e6 q7 e7 q8 e8 q9 e9 q10 e10 q11 e11 q12 e12 q13 e13 q14 e14 q15 e15 q16 e16 q17 e17 q18 e18 q19 e19 q20 e20 q21 e21 q22 e22 q23 e23 q24 e24 q89 e89 hs1
  simp only [Try.f4, Option.getD_some, regOf] at hc
  injection hc with hc
  subst hc
  have hd : ((x : Int) == 0) = decide (x = 0) := by by_cases e : x = 0 <;> simp [e]
  go_wp2
  exact HQ.out _ ⟨rfl, rfl, rfl, rfl, rfl, rfl, rfl, rfl, rfl, rfl, rfl, rfl, rfl, rfl, rfl, rfl, rfl, rfl, rfl, rfl, rfl, rfl, rfl, rfl, rfl⟩ (by first | rfl | (simp; done))
set_option maxHeartbeats 8000000 in
set_option maxRecDepth 100000 in
theorem aa_r29 {K : Act → World → Prop} {c : Code} (hc : regOf (Try.f4.body.getD .skip) 29 = some c) (a : Act) {v : Vaa} {wq : World} {x : Nat} (hF : Faa a v) (h89v : v.v89 = .int .i64 (x : Int)) (hQ : ∀ a', Faa a' v → a'.tmps.getD 110 undef = .bool (decide (x = 1)) → K a' wq) :
    Code.wp Try.prog c (Exit.then K fun _ _ _ => False) a wq := by
  have HQ := hide hQ
  clear hQ
  obtain ⟨t', d'⟩ := a
  obtain ⟨v0, v1, v2, v6, v7, v8, v9, v10, v11, v12, v13, v14, v15, v16, v17, v18, v19, v20, v21, v22, v23, v24, v89⟩ := v
  simp only at h89v HQ
  subst h89v
  obtain ⟨hs1, hd1, q0, q1, q2, q6, q7, q8, q9, q10, q11, q12, q13, q14, q15, q16, q17, q18, q19, q20, q21, q22, q23, q24, q89⟩ := hF
  obtain ⟨u, hu⟩ := frame_aa t' hs1
  simp only at hd1 q0 q1 q2 q6 q7 q8 q9 q10 q11 q12 q13 q14 q15 q16 q17 q18 q19 q20 q21 q22 q23 q24 q89
  subst hu hd1
  have e0 : u 0 = v0 := q0
  have e1 : u 1 = v1 := q1
  have e2 : u 2 = v2 := q2
  have e6 : u 6 = v6 := q6
  have e7 : u 7 = v7 := q7
  have e8 : u 8 = v8 := q8
  have e9 : u 9 = v9 := q9
  have e10 : u 10 = v10 := q10
  have e11 : u 11 = v11 := q11
  have e12 : u 12 = v12 := q12
  have e13 : u 13 = v13 := q13
  have e14 : u 14 = v14 := q14
  have e15 : u 15 = v15 := q15
  have e16 : u 16 = v16 := q16
  have e17 : u 17 = v17 := q17
  have e18 : u 18 = v18 := q18
  have e19 : u 19 = v19 := q19
  have e20 : u 20 = v20 := q20
  have e21 : u 21 = v21 := q21
  have e22 : u 22 = v22 := q22
  have e23 : u 23 = v23 := q23
  have e24 : u 24 = v24 := q24
  have e89 : u 89 = .int .i64 (x : Int) := q89
  rw [e0, e1, e2, e6, e7, e8, e9, e10, e11, e12, e13, e14, e15, e16, e17, e18, e19, e20, e21, e22, e23, e24, e89]
  clear q0 e0 q1 e1 q2 e2 q6 e6 q7 e7 q8 e8 q9 e9 q10 e10 q11 e11 q12 e12 q13 e13 q14 e14 q15 e15 q16 e16 q17 e17 q18 e18 q19 e19 q20 e20 q21 e21 q22 e22 q23 e23 q24 e24 q89 e89 hs1
  simp only [Try.f4, Option.getD_some, regOf] at hc
  injection hc with hc
  subst hc
  have hd : ((x : Int) == 1) = decide (x = 1) := by by_cases e : x = 1 <;> simp [e]; omega
  go_wp2
  exact HQ.out _ ⟨rfl, rfl, rfl, rfl, rfl, rfl, rfl, rfl, rfl, rfl, rfl, rfl, rfl, rfl, rfl, rfl, rfl, rfl, rfl, rfl, rfl, rfl, rfl, rfl, rfl⟩ (by first | rfl | (simp; done))
set_option maxHeartbeats 8000000 in
set_option maxRecDepth 100000 in
theorem aa_r33 {K : Act → World → Prop} {c : Code} (hc : regOf (Try.f4.body.getD .skip) 33 = some c) (a : Act) {v : Vaa} {wq : World} {x : Nat} (hF : Faa a v) (h89v : v.v89 = .int .i64 (x : Int)) (hQ : ∀ a', Faa a' v → a'.tmps.getD 142 undef = .bool (decide (x = 2)) → K a' wq) :
    Code.wp Try.prog c (Exit.then K fun _ _ _ => False) a wq := by
  have HQ := hide hQ
  clear hQ
  obtain ⟨t', d'⟩ := a
  obtain ⟨v0, v1, v2, v6, v7, v8, v9, v10, v11, v12, v13, v14, v15, v16, v17, v18, v19, v20, v21, v22, v23, v24, v89⟩ := v
  simp only at h89v HQ
  subst h89v
  obtain ⟨hs1, hd1, q0, q1, q2, q6, q7, q8, q9, q10, q11, q12, q13, q14, q15, q16, q17, q18, q19, q20, q21, q22, q23, q24, q89⟩ := hF
  obtain ⟨u, hu⟩ := frame_aa t' hs1
  simp only at hd1 q0 q1 q2 q6 q7 q8 q9 q10 q11 q12 q13 q14 q15 q16 q17 q18 q19 q20 q21 q22 q23 q24 q89
  subst hu hd1
  have e0 : u 0 = v0 := q0
  have e1 : u 1 = v1 := q1
  have e2 : u 2 = v2 := q2
  have e6 : u 6 = v6 := q6
  have e7 : u 7 = v7 := q7
  have e8 : u 8 = v8 := q8
  have e9 : u 9 = v9 := q9
  have e10 : u 10 = v10 := q10
  have e11 : u 11 = v11 := q11
  have e12 : u 12 = v12 := q12
  have e13 : u 13 = v13 := q13
  have e14 : u 14 = v14 := q14
  have e15 : u 15 = v15 := q15
  have e16 : u 16 = v16 := q16
  have e17 : u 17 = v17 := q17
  have e18 : u 18 = v18 := q18
  have e19 : u 19 = v19 := q19
  have e20 : u 20 = v20 := q20
  have e21 : u 21 = v21 := q21
  have e22 : u 22 = v22 := q22
  have e23 : u 23 = v23 := q23
  have e24 : u 24 = v24 := q24
  have e89 : u 89 = .int .i64 (x : Int) := q89
  rw [e0, e1, e2, e6, e7, e8, e9, e10, e11, e12, e13, e14, e15, e16, e17, e18, e19, e20, e21, e22, e23, e24, e89]
  clear q0 e0 q1 e1 q2 e2 q6 e6 q7 e7 q8 e8 q9 e9 q10 e10 q11 e11 q12 e12 q13 e13 q14 e14 q15 e15 q16 e16 q17 e17 q18 e18 q19 e19 q20 e20 q21 e21 q22 e22 q23 e23 q24 e24 q89 e89 hs1
  simp only [Try.f4, Option.getD_some, regOf] at hc
  injection hc with hc
  subst hc
  have hd : ((x : Int) == 2) = decide (x = 2) := by by_cases e : x = 2 <;> simp [e]; omega
  go_wp2
  exact HQ.out _ ⟨rfl, rfl, rfl, rfl, rfl, rfl, rfl, rfl, rfl, rfl, rfl, rfl, rfl, rfl, rfl, rfl, rfl, rfl, rfl, rfl, rfl, rfl, rfl, rfl, rfl⟩ (by first | rfl | (simp; done))
set_option maxHeartbeats 8000000 in
set_option maxRecDepth 100000 in
theorem aa_r28 {K : Act → World → Prop} {c : Code} (hc : regOf (Try.f4.body.getD .skip) 28 = some c) (a : Act) {v : Vaa} {wq : World} {R : World → Prop} {g m oc cb : Nat} {a0 : Addr} {d : TU} {x y : Int} (hF : Faa a v) (h11v : v.v11 = .slice (some ⟨g, 0, none⟩) m oc) (h18v : v.v18 = .pointer (some ⟨cb, 0, none⟩)) (hC : wq.heap[cb]? = some (.cells #[.int .i64 d.kind, .int .i64 d.who, .int .i64 d.n, .int .i64 d.i, .string d.s] 54 (0, 0))) (hm : 0 < m) (c0 : wq.cell? ⟨g, 0, none⟩ = some (.pointer (some a0))) (hE : Calls Try.prog 13 #[.pointer (some a0), .string d.s] wq.drew fun e w' => e = .returned (.tuple #[.int .i64 x, .int .i64 y]) ∧ R w')
    (hQ : ∀ a' w1, Faa a' v → R w1 → K a' w1) :
    Code.wp Try.prog c (Exit.then K fun _ _ _ => False) a wq := by
  have HQ := hide hQ
  clear hQ
  obtain ⟨t', d'⟩ := a
  obtain ⟨v0, v1, v2, v6, v7, v8, v9, v10, v11, v12, v13, v14, v15, v16, v17, v18, v19, v20, v21, v22, v23, v24, v89⟩ := v
  simp only at h11v h18v HQ
  subst h11v h18v
  obtain ⟨hs1, hd1, q0, q1, q2, q6, q7, q8, q9, q10, q11, q12, q13, q14, q15, q16, q17, q18, q19, q20, q21, q22, q23, q24, q89⟩ := hF
  obtain ⟨u, hu⟩ := frame_aa t' hs1
  simp only at hd1 q0 q1 q2 q6 q7 q8 q9 q10 q11 q12 q13 q14 q15 q16 q17 q18 q19 q20 q21 q22 q23 q24 q89
  subst hu hd1
  have e0 : u 0 = v0 := q0
  have e1 : u 1 = v1 := q1
  have e2 : u 2 = v2 := q2
  have e6 : u 6 = v6 := q6
  have e7 : u 7 = v7 := q7
  have e8 : u 8 = v8 := q8
  have e9 : u 9 = v9 := q9
  have e10 : u 10 = v10 := q10
  have e11 : u 11 = .slice (some ⟨g, 0, none⟩) m oc := q11
  have e12 : u 12 = v12 := q12
  have e13 : u 13 = v13 := q13
  have e14 : u 14 = v14 := q14
  have e15 : u 15 = v15 := q15
  have e16 : u 16 = v16 := q16
  have e17 : u 17 = v17 := q17
  have e18 : u 18 = .pointer (some ⟨cb, 0, none⟩) := q18
  have e19 : u 19 = v19 := q19
  have e20 : u 20 = v20 := q20
  have e21 : u 21 = v21 := q21
  have e22 : u 22 = v22 := q22
  have e23 : u 23 = v23 := q23
  have e24 : u 24 = v24 := q24
  have e89 : u 89 = v89 := q89
  rw [e0, e1, e2, e6, e7, e8, e9, e10, e11, e12, e13, e14, e15, e16, e17, e18, e19, e20, e21, e22, e23, e24, e89]
  clear q0 e0 q1 e1 q2 e2 q6 e6 q7 e7 q8 e8 q9 e9 q10 e10 q11 e11 q12 e12 q13 e13 q14 e14 q15 e15 q16 e16 q17 e17 q18 e18 q19 e19 q20 e20 q21 e21 q22 e22 q23 e23 q24 e24 q89 e89 hs1
  simp only [Try.f4, Option.getD_some, regOf] at hc
  injection hc with hc
  subst hc
  have HE := hide hE
  clear hE
  have i0 : (0 : Int) ≤ 0 := Int.le_refl _
  have i1 : (0 : Int) < (m : Int) := by omega
  refine wp_region_any rfl ?_
  refine wpAny_staged (ns := 198) (uses := (fun i => match i with | 0 => [104] | 1 => [105] | 2 => [106] | 3 => [107] | 4 => [108] | 5 => [109] | _ => [])) (by kernel_rfl) (by kernel_rfl) (fun l a w => ((fun (x : Bool) (w : World) => (x = false → w = wq.drew) ∧ (x = true → R w))) (l 5) w) ⟨fun _ => rfl, fun e => by cases e⟩ (fun i => match i with | 0 => fun σ => σ 104 = .slice (some ⟨g, 0, none⟩) m oc | 1 => fun σ => σ 105 = .pointer (some ⟨g, 0, none⟩) | 2 => fun σ => σ 106 = .pointer (some a0) | 3 => fun σ => σ 107 = .pointer (some ⟨cb, 4, none⟩) | 4 => fun σ => σ 108 = .string d.s | 5 => fun σ => σ 109 = .tuple #[.int .i64 x, .int .i64 y] | _ => fun _ => True) ?phc ?pstep ?pdone
  case phc =>
    intro i s s' hx h
    rcases i with _ | i; · exact (hx _ (List.mem_singleton.2 rfl)).symm.trans h
    rcases i with _ | i; · exact (hx _ (List.mem_singleton.2 rfl)).symm.trans h
    rcases i with _ | i; · exact (hx _ (List.mem_singleton.2 rfl)).symm.trans h
    rcases i with _ | i; · exact (hx _ (List.mem_singleton.2 rfl)).symm.trans h
    rcases i with _ | i; · exact (hx _ (List.mem_singleton.2 rfl)).symm.trans h
    rcases i with _ | i; · exact (hx _ (List.mem_singleton.2 rfl)).symm.trans h
    exact h
  case pstep =>
    intro i o ho a' w' l hl hr hq hsa hS hd
    match i, ho, hl, hr, hq with
    | 0, ho, hl, hr, hq =>
      obtain rfl := Option.some.inj ho
      try dsimp only at hd
      have g11 : a'.tmps.getD 11 undef = .slice (some ⟨g, 0, none⟩) m oc := hsa.rest 11 (by rfl)
      have hT : ((fun (x : Bool) (w : World) => (x = false → w = wq.drew) ∧ (x = true → R w))) false w' := by have h := hS; rw [hq 5 (by kernel_rfl)] at h; exact h
      refine wpOp_of rfl rfl ?_
      have HT9 := hide hT
      clear hT hS
      refine op_run (v := .slice (some ⟨g, 0, none⟩) m oc) (w' := w') ?_ ⟨_, rfl, ?_, (by show ((fun (x : Bool) (w : World) => (x = false → w = wq.drew) ∧ (x = true → R w))) _ _; rw [updL_other l (show 5 ≠ 0 by decide)]; rw [hq 5 (by kernel_rfl)]; exact HT9.out)⟩
      · simp only [execOp, Act.eval, g11]; first | (go_simp; done) | rfl
      · try dsimp only
        exact (slots_put (ns := 198) (hsa.size.trans rfl) (by decide))
    | 1, ho, hl, hr, hq =>
      obtain rfl := Option.some.inj ho
      try dsimp only at hd
      have d0 : a'.tmps.getD 104 undef = .slice (some ⟨g, 0, none⟩) m oc := hd 0 (by rfl)
      have hT : ((fun (x : Bool) (w : World) => (x = false → w = wq.drew) ∧ (x = true → R w))) false w' := by have h := hS; rw [hq 5 (by kernel_rfl)] at h; exact h
      refine wpOp_of rfl rfl ?_
      have HT9 := hide hT
      clear hT hS
      refine op_run (v := .pointer (some ⟨g, 0, none⟩)) (w' := w') ?_ ⟨_, rfl, ?_, (by show ((fun (x : Bool) (w : World) => (x = false → w = wq.drew) ∧ (x = true → R w))) _ _; rw [updL_other l (show 5 ≠ 1 by decide)]; rw [hq 5 (by kernel_rfl)]; exact HT9.out)⟩
      · simp only [execOp, Act.eval, d0]; first | (go_simp; done) | rfl
      · try dsimp only
        exact (slots_put (ns := 198) (hsa.size.trans rfl) (by decide))
    | 2, ho, hl, hr, hq =>
      obtain rfl := Option.some.inj ho
      try dsimp only at hd
      have d1 : a'.tmps.getD 105 undef = .pointer (some ⟨g, 0, none⟩) := hd 1 (by rfl)
      have hT : ((fun (x : Bool) (w : World) => (x = false → w = wq.drew) ∧ (x = true → R w))) false w' := by have h := hS; rw [hq 5 (by kernel_rfl)] at h; exact h
      refine wpOp_of rfl rfl ?_
      have z : w'.cell? ⟨g, 0, none⟩ = some (.pointer (some a0)) := by rw [hT.1 rfl]; exact c0
      have HT9 := hide hT
      clear hT hS
      refine op_run (v := .pointer (some a0)) (w' := w') ?_ ⟨_, rfl, ?_, (by show ((fun (x : Bool) (w : World) => (x = false → w = wq.drew) ∧ (x = true → R w))) _ _; rw [updL_other l (show 5 ≠ 2 by decide)]; rw [hq 5 (by kernel_rfl)]; exact HT9.out)⟩
      · simp only [execOp, Act.eval, d1, z]; first | (go_simp; done) | rfl
      · try dsimp only
        exact (slots_put (ns := 198) (hsa.size.trans rfl) (by decide))
    | 3, ho, hl, hr, hq =>
      obtain rfl := Option.some.inj ho
      try dsimp only at hd
      have g18 : a'.tmps.getD 18 undef = .pointer (some ⟨cb, 0, none⟩) := hsa.rest 18 (by rfl)
      have hT : ((fun (x : Bool) (w : World) => (x = false → w = wq.drew) ∧ (x = true → R w))) false w' := by have h := hS; rw [hq 5 (by kernel_rfl)] at h; exact h
      refine wpOp_of rfl rfl ?_
      have HT9 := hide hT
      clear hT hS
      refine op_run (v := .pointer (some ⟨cb, 4, none⟩)) (w' := w') ?_ ⟨_, rfl, ?_, (by show ((fun (x : Bool) (w : World) => (x = false → w = wq.drew) ∧ (x = true → R w))) _ _; rw [updL_other l (show 5 ≠ 3 by decide)]; rw [hq 5 (by kernel_rfl)]; exact HT9.out)⟩
      · simp only [execOp, Act.eval, g18]; first | (go_simp; done) | rfl
      · try dsimp only
        exact (slots_put (ns := 198) (hsa.size.trans rfl) (by decide))
    | 4, ho, hl, hr, hq =>
      obtain rfl := Option.some.inj ho
      try dsimp only at hd
      have d3 : a'.tmps.getD 107 undef = .pointer (some ⟨cb, 4, none⟩) := hd 3 (by rfl)
      have hT : ((fun (x : Bool) (w : World) => (x = false → w = wq.drew) ∧ (x = true → R w))) false w' := by have h := hS; rw [hq 5 (by kernel_rfl)] at h; exact h
      refine wpOp_of rfl rfl ?_
      have z : w'.cell? ⟨cb, 4, none⟩ = some (.string d.s) := by rw [hT.1 rfl]; exact (box_cell hC 4 rfl)
      have HT9 := hide hT
      clear hT hS
      refine op_run (v := .string d.s) (w' := w') ?_ ⟨_, rfl, ?_, (by show ((fun (x : Bool) (w : World) => (x = false → w = wq.drew) ∧ (x = true → R w))) _ _; rw [updL_other l (show 5 ≠ 4 by decide)]; rw [hq 5 (by kernel_rfl)]; exact HT9.out)⟩
      · simp only [execOp, Act.eval, d3, z]; first | (go_simp; done) | rfl
      · try dsimp only
        exact (slots_put (ns := 198) (hsa.size.trans rfl) (by decide))
    | 5, ho, hl, hr, hq =>
      obtain rfl := Option.some.inj ho
      try dsimp only at hd
      have d2 : a'.tmps.getD 106 undef = .pointer (some a0) := hd 2 (by rfl)
      have d4 : a'.tmps.getD 108 undef = .string d.s := hd 4 (by rfl)
      have hT : ((fun (x : Bool) (w : World) => (x = false → w = wq.drew) ∧ (x = true → R w))) false w' := by have h := hS; rw [hl] at h; exact h
      refine wpOp_of rfl rfl ?_
      obtain rfl := hT.1 rfl
      refine op_call 13 _ _ rfl (enters_of Try.func13 (by kernel_rfl) rfl) [.pointer (some a0), .string d.s] (by simp only [List.map, Act.eval, d2, d4]) HE.out ?_
      rintro e w'' ⟨rfl, r1⟩
      refine ⟨_, rfl, _, rfl, (slots_put (ns := 198) (hsa.size.trans rfl) (by decide)), (by show ((fun (x : Bool) (w : World) => (x = false → w = wq.drew) ∧ (x = true → R w))) _ _; rw [updL_same]; exact ⟨(fun e => by cases e), fun _ => r1⟩)⟩
    | (n + 6), ho, _, _, _ => exact absurd ho (by simp)
  case pdone =>
    intro a' w' l hl hsa hS hd
    have hT : ((fun (x : Bool) (w : World) => (x = false → w = wq.drew) ∧ (x = true → R w))) true w' := by have h := hS; rw [hl 5 (by decide)] at h; exact h
    have d0 : a'.tmps.getD 104 undef = .slice (some ⟨g, 0, none⟩) m oc := hd 0 (by decide)
    have d1 : a'.tmps.getD 105 undef = .pointer (some ⟨g, 0, none⟩) := hd 1 (by decide)
    have d2 : a'.tmps.getD 106 undef = .pointer (some a0) := hd 2 (by decide)
    have d3 : a'.tmps.getD 107 undef = .pointer (some ⟨cb, 4, none⟩) := hd 3 (by decide)
    have d4 : a'.tmps.getD 108 undef = .string d.s := hd 4 (by decide)
    have d5 : a'.tmps.getD 109 undef = .tuple #[.int .i64 x, .int .i64 y] := hd 5 (by decide)
    exact HQ.out a' w' ⟨hsa.size.trans rfl, hsa.defers.trans rfl, hsa.rest 0 (by rfl), hsa.rest 1 (by rfl), hsa.rest 2 (by rfl), hsa.rest 6 (by rfl), hsa.rest 7 (by rfl), hsa.rest 8 (by rfl), hsa.rest 9 (by rfl), hsa.rest 10 (by rfl), hsa.rest 11 (by rfl), hsa.rest 12 (by rfl), hsa.rest 13 (by rfl), hsa.rest 14 (by rfl), hsa.rest 15 (by rfl), hsa.rest 16 (by rfl), hsa.rest 17 (by rfl), hsa.rest 18 (by rfl), hsa.rest 19 (by rfl), hsa.rest 20 (by rfl), hsa.rest 21 (by rfl), hsa.rest 22 (by rfl), hsa.rest 23 (by rfl), hsa.rest 24 (by rfl), hsa.rest 89 (by rfl)⟩ (hT.2 rfl)
set_option maxHeartbeats 8000000 in
set_option maxRecDepth 100000 in
theorem aa_r30 {K : Act → World → Prop} {c : Code} (hc : regOf (Try.f4.body.getD .skip) 30 = some c) (a : Act) {v : Vaa} {wq : World} {g m oc cb wi pk n : Nat} {a0 : Addr} {d : TU} {x : Int} {xs : List Value} (hF : Faa a v) (h11v : v.v11 = .slice (some ⟨g, 0, none⟩) m oc) (h18v : v.v18 = .pointer (some ⟨cb, 0, none⟩)) (h19v : v.v19 = .int .i64 (wi : Int)) (hC : wq.heap[cb]? = some (.cells #[.int .i64 d.kind, .int .i64 d.who, .int .i64 d.n, .int .i64 d.i, .string d.s] 54 (0, 0))) (hm : 0 < m) (c0 : wq.cell? ⟨g, 0, none⟩ = some (.pointer (some a0))) (hgl : g < wq.heap.size) (hpk : pk ≤ 1000000) (hP : ∀ W, Below wq.heap.size wq W → Calls Try.prog 12 #[.int .i64 d.n, .int .i64 5] W fun e w' => e = .returned (.int .i64 (pk : Int)) ∧ Below W.heap.size W w') (hE : ∀ W, Below wq.heap.size wq W → Calls Try.prog 21 #[.pointer (some a0), .int .i64 (wi : Int), .int .i64 (1 + (pk : Int))] W fun e w' => ∃ ao cp, e = .returned (.tuple #[.int .i64 x, .slice ao n cp]) ∧ w'.ownsRow W.heap.size 9 1 (.slice ao n cp) n xs ∧ Below W.heap.size W w')
    (hQ : ∀ a' w1 ao cp, Faa a' { v with v20 := .int .i64 x, v21 := .slice ao n cp } → w1.ownsRow wq.heap.size 9 1 (.slice ao n cp) n xs → Below wq.heap.size wq w1 → K a' w1) :
    Code.wp Try.prog c (Exit.then K fun _ _ _ => False) a wq := by
  have HQ := hide hQ
  clear hQ
  obtain ⟨t', d'⟩ := a
  obtain ⟨v0, v1, v2, v6, v7, v8, v9, v10, v11, v12, v13, v14, v15, v16, v17, v18, v19, v20, v21, v22, v23, v24, v89⟩ := v
  simp only at h11v h18v h19v HQ
  subst h11v h18v h19v
  obtain ⟨hs1, hd1, q0, q1, q2, q6, q7, q8, q9, q10, q11, q12, q13, q14, q15, q16, q17, q18, q19, q20, q21, q22, q23, q24, q89⟩ := hF
  obtain ⟨u, hu⟩ := frame_aa t' hs1
  simp only at hd1 q0 q1 q2 q6 q7 q8 q9 q10 q11 q12 q13 q14 q15 q16 q17 q18 q19 q20 q21 q22 q23 q24 q89
  subst hu hd1
  have e0 : u 0 = v0 := q0
  have e1 : u 1 = v1 := q1
  have e2 : u 2 = v2 := q2
  have e6 : u 6 = v6 := q6
  have e7 : u 7 = v7 := q7
  have e8 : u 8 = v8 := q8
  have e9 : u 9 = v9 := q9
  have e10 : u 10 = v10 := q10
  have e11 : u 11 = .slice (some ⟨g, 0, none⟩) m oc := q11
  have e12 : u 12 = v12 := q12
  have e13 : u 13 = v13 := q13
  have e14 : u 14 = v14 := q14
  have e15 : u 15 = v15 := q15
  have e16 : u 16 = v16 := q16
  have e17 : u 17 = v17 := q17
  have e18 : u 18 = .pointer (some ⟨cb, 0, none⟩) := q18
  have e19 : u 19 = .int .i64 (wi : Int) := q19
  have e20 : u 20 = v20 := q20
  have e21 : u 21 = v21 := q21
  have e22 : u 22 = v22 := q22
  have e23 : u 23 = v23 := q23
  have e24 : u 24 = v24 := q24
  have e89 : u 89 = v89 := q89
  rw [e0, e1, e2, e6, e7, e8, e9, e10, e11, e12, e13, e14, e15, e16, e17, e18, e19, e20, e21, e22, e23, e24, e89]
  clear q0 e0 q1 e1 q2 e2 q6 e6 q7 e7 q8 e8 q9 e9 q10 e10 q11 e11 q12 e12 q13 e13 q14 e14 q15 e15 q16 e16 q17 e17 q18 e18 q19 e19 q20 e20 q21 e21 q22 e22 q23 e23 q24 e24 q89 e89 hs1
  simp only [Try.f4, Option.getD_some, regOf] at hc
  injection hc with hc
  subst hc
  have HE := hide hE
  have HP := hide hP
  clear hE hP
  have z2 := box_cell hC 2 rfl
  have hcl := heap_lt hC
  clear hC
  have i0 : (0 : Int) ≤ 0 := Int.le_refl _
  have i1 : (0 : Int) < (m : Int) := by omega
  refine wp_region_phi (by kernel_rfl) (ns := 198) (uses := (fun i => match i with | 0 => [113] | 1 => [114] | 2 => [115] | 3 => [116] | 4 => [117] | 5 => [118] | 6 => [119] | 7 => [120] | 8 => [121] | 9 => [112] | 10 => [122] | 11 => [123] | 12 => [20] | 13 => [21] | _ => [])) (by kernel_rfl) (by kernel_rfl) (fun _ w w' => Below w.heap.size w w') (fun w => Below wq.heap.size wq w) (fun _ _ _ h r => h.trans (r.mono h.size)) ((Below.refl _ _).drew) (fun i => match i with | 0 => fun s w => s 113 = .slice (some ⟨g, 0, none⟩) m oc | 1 => fun s w => s 114 = .pointer (some ⟨g, 0, none⟩) | 2 => fun s w => s 115 = .pointer (some a0) | 3 => fun s w => s 116 = .int .i64 (wi : Int) | 4 => fun s w => s 117 = .pointer (some ⟨cb, 2, none⟩) | 5 => fun s w => s 118 = .int .i64 d.n | 6 => fun s w => s 119 = .int .i64 (pk : Int) | 7 => fun s w => s 120 = .int .i64 (1 + (pk : Int)) | 8 => fun s w => ∃ ao cp, s 121 = .tuple #[.int .i64 x, .slice ao n cp] ∧ w.ownsRow wq.heap.size 9 1 (.slice ao n cp) n xs | 9 => fun s w => ∃ ao cp, s 112 = .tuple #[.int .i64 x, .slice ao n cp] ∧ w.ownsRow wq.heap.size 9 1 (.slice ao n cp) n xs | 10 => fun s w => s 122 = .int .i64 x | 11 => fun s w => ∃ ao cp, s 123 = .slice ao n cp ∧ w.ownsRow wq.heap.size 9 1 (.slice ao n cp) n xs | 12 => fun s w => s 20 = .int .i64 x | 13 => fun s w => ∃ ao cp, s 21 = .slice ao n cp ∧ w.ownsRow wq.heap.size 9 1 (.slice ao n cp) n xs | _ => fun _ _ => True) ?phc ?phh ?pstep ?pdone
  case phc =>
    intro i s s' w hx h
    match i, hx, h with
    | 0, hx, h => exact (hx 113 (by simp)).symm.trans h
    | 1, hx, h => exact (hx 114 (by simp)).symm.trans h
    | 2, hx, h => exact (hx 115 (by simp)).symm.trans h
    | 3, hx, h => exact (hx 116 (by simp)).symm.trans h
    | 4, hx, h => exact (hx 117 (by simp)).symm.trans h
    | 5, hx, h => exact (hx 118 (by simp)).symm.trans h
    | 6, hx, h => exact (hx 119 (by simp)).symm.trans h
    | 7, hx, h => exact (hx 120 (by simp)).symm.trans h
    | 8, hx, h =>
      have e121 := hx 121 (by simp)
      first | exact (show _ from by simp only [← e121] at *; exact h) | (simp only [e121] at h; exact h)
    | 9, hx, h =>
      have e112 := hx 112 (by simp)
      first | exact (show _ from by simp only [← e112] at *; exact h) | (simp only [e112] at h; exact h)
    | 10, hx, h => exact (hx 122 (by simp)).symm.trans h
    | 11, hx, h =>
      have e123 := hx 123 (by simp)
      first | exact (show _ from by simp only [← e123] at *; exact h) | (simp only [e123] at h; exact h)
    | 12, hx, h => exact (hx 20 (by simp)).symm.trans h
    | 13, hx, h =>
      have e21 := hx 21 (by simp)
      first | exact (show _ from by simp only [← e21] at *; exact h) | (simp only [e21] at h; exact h)
    | (n + 14), _, h => exact h
  case phh =>
    intro i j s w w' hij h hb r
    match i, hij, h with
    | 0, hij, h =>
      exact h
    | 1, hij, h =>
      exact h
    | 2, hij, h =>
      exact h
    | 3, hij, h =>
      exact h
    | 4, hij, h =>
      exact h
    | 5, hij, h =>
      exact h
    | 6, hij, h =>
      exact h
    | 7, hij, h =>
      exact h
    | 8, hij, h =>
      obtain ⟨ao, cp, e1, e2⟩ := h
      exact ⟨ao, cp, e1, below_row r e2⟩
    | 9, hij, h =>
      obtain ⟨ao, cp, e1, e2⟩ := h
      exact ⟨ao, cp, e1, below_row r e2⟩
    | 10, hij, h =>
      exact h
    | 11, hij, h =>
      obtain ⟨ao, cp, e1, e2⟩ := h
      exact ⟨ao, cp, e1, below_row r e2⟩
    | 12, hij, h =>
      exact h
    | 13, hij, h =>
      obtain ⟨ao, cp, e1, e2⟩ := h
      exact ⟨ao, cp, e1, below_row r e2⟩
    | (n + 14), _, h => exact h
  case pstep =>
    intro i o ho a' w' hsa hb hd
    match i, ho with
    | 0, ho =>
      obtain rfl := Option.some.inj ho
      try dsimp only at hd
      have g11 : a'.tmps.getD 11 undef = .slice (some ⟨g, 0, none⟩) m oc := hsa.rest 11 (by rfl)
      refine wpOp_of rfl rfl ?_
      refine op_run (v := .slice (some ⟨g, 0, none⟩) m oc) (w' := w') ?_ ⟨_, rfl, ?_, ?_⟩
      · simp only [execOp, Act.eval, g11]; first | (go_simp; done) | rfl
      · try dsimp only
        exact (slots_put (ns := 198) (hsa.size.trans rfl) (by decide))
      · exact Below.refl _ _
    | 1, ho =>
      obtain rfl := Option.some.inj ho
      try dsimp only at hd
      have d0 : a'.tmps.getD 113 undef = .slice (some ⟨g, 0, none⟩) m oc := hd 0 (by rfl)
      refine wpOp_of rfl rfl ?_
      refine op_run (v := .pointer (some ⟨g, 0, none⟩)) (w' := w') ?_ ⟨_, rfl, ?_, ?_⟩
      · simp only [execOp, Act.eval, d0]; first | (go_simp; done) | rfl
      · try dsimp only
        exact (slots_put (ns := 198) (hsa.size.trans rfl) (by decide))
      · exact Below.refl _ _
    | 2, ho =>
      obtain rfl := Option.some.inj ho
      try dsimp only at hd
      have d1 : a'.tmps.getD 114 undef = .pointer (some ⟨g, 0, none⟩) := hd 1 (by rfl)
      have y : w'.cell? ⟨g, 0, none⟩ = some (.pointer (some a0)) := (hb.cell (p := ⟨g, 0, none⟩) hgl).trans c0
      refine wpOp_of rfl rfl ?_
      refine op_run (v := .pointer (some a0)) (w' := w') ?_ ⟨_, rfl, ?_, ?_⟩
      · simp only [execOp, Act.eval, d1, y]; first | (go_simp; done) | rfl
      · try dsimp only
        exact (slots_put (ns := 198) (hsa.size.trans rfl) (by decide))
      · exact Below.refl _ _
    | 3, ho =>
      obtain rfl := Option.some.inj ho
      try dsimp only at hd
      have g19 : a'.tmps.getD 19 undef = .int .i64 (wi : Int) := hsa.rest 19 (by rfl)
      refine wpOp_of rfl rfl ?_
      refine op_run (v := .int .i64 (wi : Int)) (w' := w') ?_ ⟨_, rfl, ?_, ?_⟩
      · simp only [execOp, Act.eval, g19]; first | (go_simp; done) | rfl
      · try dsimp only
        exact (slots_put (ns := 198) (hsa.size.trans rfl) (by decide))
      · exact Below.refl _ _
    | 4, ho =>
      obtain rfl := Option.some.inj ho
      try dsimp only at hd
      have g18 : a'.tmps.getD 18 undef = .pointer (some ⟨cb, 0, none⟩) := hsa.rest 18 (by rfl)
      refine wpOp_of rfl rfl ?_
      refine op_run (v := .pointer (some ⟨cb, 2, none⟩)) (w' := w') ?_ ⟨_, rfl, ?_, ?_⟩
      · simp only [execOp, Act.eval, g18]; first | (go_simp; done) | rfl
      · try dsimp only
        exact (slots_put (ns := 198) (hsa.size.trans rfl) (by decide))
      · exact Below.refl _ _
    | 5, ho =>
      obtain rfl := Option.some.inj ho
      try dsimp only at hd
      have d4 : a'.tmps.getD 117 undef = .pointer (some ⟨cb, 2, none⟩) := hd 4 (by rfl)
      have y : w'.cell? ⟨cb, 2, none⟩ = some (.int .i64 d.n) := (hb.cell (p := ⟨cb, 2, none⟩) hcl).trans z2
      refine wpOp_of rfl rfl ?_
      refine op_run (v := .int .i64 d.n) (w' := w') ?_ ⟨_, rfl, ?_, ?_⟩
      · simp only [execOp, Act.eval, d4, y]; first | (go_simp; done) | rfl
      · try dsimp only
        exact (slots_put (ns := 198) (hsa.size.trans rfl) (by decide))
      · exact Below.refl _ _
    | 6, ho =>
      obtain rfl := Option.some.inj ho
      try dsimp only at hd
      have d5 : a'.tmps.getD 118 undef = .int .i64 d.n := hd 5 (by rfl)
      refine wpOp_of rfl rfl ?_
      refine op_call 12 _ _ rfl (enters_of Try.func12 (by kernel_rfl) rfl) [.int .i64 d.n, .int .i64 5] (by simp only [List.map, Act.eval, d5]) (HP.out w' hb) ?_
      rintro e w'' ⟨rfl, b2⟩
      refine ⟨_, rfl, _, rfl, ?_, ?_⟩
      · try dsimp only
        exact (slots_put (ns := 198) (hsa.size.trans rfl) (by decide))
      · exact b2
    | 7, ho =>
      obtain rfl := Option.some.inj ho
      try dsimp only at hd
      have d6 : a'.tmps.getD 119 undef = .int .i64 (pk : Int) := hd 6 (by rfl)
      refine wpOp_of rfl rfl ?_
      refine op_run (v := .int .i64 (1 + (pk : Int))) (w' := w') ?_ ⟨_, rfl, ?_, ?_⟩
      · simp only [execOp, Act.eval, d6]; first | (go_simp; done) | (go_simp; rw [IntKind.wrap_i64]; omega)
      · try dsimp only
        exact (slots_put (ns := 198) (hsa.size.trans rfl) (by decide))
      · exact Below.refl _ _
    | 8, ho =>
      obtain rfl := Option.some.inj ho
      try dsimp only at hd
      have d2 : a'.tmps.getD 115 undef = .pointer (some a0) := hd 2 (by rfl)
      have d3 : a'.tmps.getD 116 undef = .int .i64 (wi : Int) := hd 3 (by rfl)
      have d7 : a'.tmps.getD 120 undef = .int .i64 (1 + (pk : Int)) := hd 7 (by rfl)
      refine wpOp_of rfl rfl ?_
      refine op_call 21 _ _ rfl (enters_of Try.func21 (by kernel_rfl) rfl) [.pointer (some a0), .int .i64 (wi : Int), .int .i64 (1 + (pk : Int))] (by simp only [List.map, Act.eval, d2, d3, d7]) (HE.out w' hb) ?_
      rintro e w'' ⟨ao, cp, rfl, r9, b2⟩
      refine ⟨_, rfl, _, rfl, ?_, ?_⟩
      · try dsimp only
        exact ⟨ao, cp, (slots_put (ns := 198) (hsa.size.trans rfl) (by decide)), row_base r9 hb.size⟩
      · exact b2
    | 9, ho =>
      obtain rfl := Option.some.inj ho
      try dsimp only at hd
      have d8 : ∃ ao cp, a'.tmps.getD 121 undef = .tuple #[.int .i64 x, .slice ao n cp] ∧ w'.ownsRow wq.heap.size 9 1 (.slice ao n cp) n xs := hd 8 (by rfl)
      obtain ⟨ao, cp, e9, r9⟩ := d8
      refine wpOp_of rfl rfl ?_
      refine op_run (v := .tuple #[.int .i64 x, .slice ao n cp]) (w' := w') ?_ ⟨_, rfl, ?_, ?_⟩
      · simp only [execOp, Act.eval, e9]; first | (go_simp; done) | rfl
      · try dsimp only
        exact ⟨ao, cp, (slots_put (ns := 198) (hsa.size.trans rfl) (by decide)), r9⟩
      · exact Below.refl _ _
    | 10, ho =>
      obtain rfl := Option.some.inj ho
      try dsimp only at hd
      have d9 : ∃ ao cp, a'.tmps.getD 112 undef = .tuple #[.int .i64 x, .slice ao n cp] ∧ w'.ownsRow wq.heap.size 9 1 (.slice ao n cp) n xs := hd 9 (by rfl)
      obtain ⟨ao, cp, e9, r9⟩ := d9
      refine wpOp_of rfl rfl ?_
      refine op_run (v := .int .i64 x) (w' := w') ?_ ⟨_, rfl, ?_, ?_⟩
      · simp only [execOp, Act.eval, e9]; first | (go_simp; done) | rfl
      · try dsimp only
        exact (slots_put (ns := 198) (hsa.size.trans rfl) (by decide))
      · exact Below.refl _ _
    | 11, ho =>
      obtain rfl := Option.some.inj ho
      try dsimp only at hd
      have d9 : ∃ ao cp, a'.tmps.getD 112 undef = .tuple #[.int .i64 x, .slice ao n cp] ∧ w'.ownsRow wq.heap.size 9 1 (.slice ao n cp) n xs := hd 9 (by rfl)
      obtain ⟨ao, cp, e9, r9⟩ := d9
      refine wpOp_of rfl rfl ?_
      refine op_run (v := .slice ao n cp) (w' := w') ?_ ⟨_, rfl, ?_, ?_⟩
      · simp only [execOp, Act.eval, e9]; first | (go_simp; done) | rfl
      · try dsimp only
        exact ⟨ao, cp, (slots_put (ns := 198) (hsa.size.trans rfl) (by decide)), r9⟩
      · exact Below.refl _ _
    | 12, ho =>
      obtain rfl := Option.some.inj ho
      try dsimp only at hd
      have d10 : a'.tmps.getD 122 undef = .int .i64 x := hd 10 (by rfl)
      refine wpOp_of rfl rfl ?_
      refine op_run (v := .int .i64 x) (w' := w') ?_ ⟨_, rfl, ?_, ?_⟩
      · simp only [execOp, Act.eval, d10]; first | (go_simp; done) | rfl
      · try dsimp only
        exact (slots_put (ns := 198) (hsa.size.trans rfl) (by decide))
      · exact Below.refl _ _
    | 13, ho =>
      obtain rfl := Option.some.inj ho
      try dsimp only at hd
      have d11 : ∃ ao cp, a'.tmps.getD 123 undef = .slice ao n cp ∧ w'.ownsRow wq.heap.size 9 1 (.slice ao n cp) n xs := hd 11 (by rfl)
      obtain ⟨ao, cp, e9, r9⟩ := d11
      refine wpOp_of rfl rfl ?_
      refine op_run (v := .slice ao n cp) (w' := w') ?_ ⟨_, rfl, ?_, ?_⟩
      · simp only [execOp, Act.eval, e9]; first | (go_simp; done) | rfl
      · try dsimp only
        exact ⟨ao, cp, (slots_put (ns := 198) (hsa.size.trans rfl) (by decide)), r9⟩
      · exact Below.refl _ _
    | (n + 14), ho => exact absurd ho (by simp)
  case pdone =>
    intro a' w' hsa hb hd
    have d0 : a'.tmps.getD 113 undef = .slice (some ⟨g, 0, none⟩) m oc := hd 0 (by decide)
    have d1 : a'.tmps.getD 114 undef = .pointer (some ⟨g, 0, none⟩) := hd 1 (by decide)
    have d2 : a'.tmps.getD 115 undef = .pointer (some a0) := hd 2 (by decide)
    have d3 : a'.tmps.getD 116 undef = .int .i64 (wi : Int) := hd 3 (by decide)
    have d4 : a'.tmps.getD 117 undef = .pointer (some ⟨cb, 2, none⟩) := hd 4 (by decide)
    have d5 : a'.tmps.getD 118 undef = .int .i64 d.n := hd 5 (by decide)
    have d6 : a'.tmps.getD 119 undef = .int .i64 (pk : Int) := hd 6 (by decide)
    have d7 : a'.tmps.getD 120 undef = .int .i64 (1 + (pk : Int)) := hd 7 (by decide)
    have d8 : ∃ ao cp, a'.tmps.getD 121 undef = .tuple #[.int .i64 x, .slice ao n cp] ∧ w'.ownsRow wq.heap.size 9 1 (.slice ao n cp) n xs := hd 8 (by decide)
    have d9 : ∃ ao cp, a'.tmps.getD 112 undef = .tuple #[.int .i64 x, .slice ao n cp] ∧ w'.ownsRow wq.heap.size 9 1 (.slice ao n cp) n xs := hd 9 (by decide)
    have d10 : a'.tmps.getD 122 undef = .int .i64 x := hd 10 (by decide)
    have d11 : ∃ ao cp, a'.tmps.getD 123 undef = .slice ao n cp ∧ w'.ownsRow wq.heap.size 9 1 (.slice ao n cp) n xs := hd 11 (by decide)
    have d12 : a'.tmps.getD 20 undef = .int .i64 x := hd 12 (by decide)
    have d13 : ∃ ao cp, a'.tmps.getD 21 undef = .slice ao n cp ∧ w'.ownsRow wq.heap.size 9 1 (.slice ao n cp) n xs := hd 13 (by decide)
    obtain ⟨ao, cp, e9, r9⟩ := d13
    exact HQ.out _ _ ao cp ⟨hsa.size.trans rfl, hsa.defers.trans rfl, hsa.rest 0 (by rfl), hsa.rest 1 (by rfl), hsa.rest 2 (by rfl), hsa.rest 6 (by rfl), hsa.rest 7 (by rfl), hsa.rest 8 (by rfl), hsa.rest 9 (by rfl), hsa.rest 10 (by rfl), hsa.rest 11 (by rfl), hsa.rest 12 (by rfl), hsa.rest 13 (by rfl), hsa.rest 14 (by rfl), hsa.rest 15 (by rfl), hsa.rest 16 (by rfl), hsa.rest 17 (by rfl), hsa.rest 18 (by rfl), hsa.rest 19 (by rfl), d12, e9, hsa.rest 22 (by rfl), hsa.rest 23 (by rfl), hsa.rest 24 (by rfl), hsa.rest 89 (by rfl)⟩ r9 hb
set_option maxHeartbeats 8000000 in
set_option maxRecDepth 100000 in
theorem aa_r31 {K : Act → World → Prop} {c : Code} (hc : regOf (Try.f4.body.getD .skip) 31 = some c) (a : Act) {v : Vaa} {wq : World} {x : Nat} (hF : Faa a v) (h19v : v.v19 = .int .i64 (x : Int)) (hQ : ∀ a', Faa a' v → a'.tmps.getD 125 undef = .bool (decide (0 < x)) → K a' wq) :
    Code.wp Try.prog c (Exit.then K fun _ _ _ => False) a wq := by
  have HQ := hide hQ
  clear hQ
  obtain ⟨t', d'⟩ := a
  obtain ⟨v0, v1, v2, v6, v7, v8, v9, v10, v11, v12, v13, v14, v15, v16, v17, v18, v19, v20, v21, v22, v23, v24, v89⟩ := v
  simp only at h19v HQ
  subst h19v
  obtain ⟨hs1, hd1, q0, q1, q2, q6, q7, q8, q9, q10, q11, q12, q13, q14, q15, q16, q17, q18, q19, q20, q21, q22, q23, q24, q89⟩ := hF
  obtain ⟨u, hu⟩ := frame_aa t' hs1
  simp only at hd1 q0 q1 q2 q6 q7 q8 q9 q10 q11 q12 q13 q14 q15 q16 q17 q18 q19 q20 q21 q22 q23 q24 q89
  subst hu hd1
  have e0 : u 0 = v0 := q0
  have e1 : u 1 = v1 := q1
  have e2 : u 2 = v2 := q2
  have e6 : u 6 = v6 := q6
  have e7 : u 7 = v7 := q7
  have e8 : u 8 = v8 := q8
  have e9 : u 9 = v9 := q9
  have e10 : u 10 = v10 := q10
  have e11 : u 11 = v11 := q11
  have e12 : u 12 = v12 := q12
  have e13 : u 13 = v13 := q13
  have e14 : u 14 = v14 := q14
  have e15 : u 15 = v15 := q15
  have e16 : u 16 = v16 := q16
  have e17 : u 17 = v17 := q17
  have e18 : u 18 = v18 := q18
  have e19 : u 19 = .int .i64 (x : Int) := q19
  have e20 : u 20 = v20 := q20
  have e21 : u 21 = v21 := q21
  have e22 : u 22 = v22 := q22
  have e23 : u 23 = v23 := q23
  have e24 : u 24 = v24 := q24
  have e89 : u 89 = v89 := q89
  rw [e0, e1, e2, e6, e7, e8, e9, e10, e11, e12, e13, e14, e15, e16, e17, e18, e19, e20, e21, e22, e23, e24, e89]
  clear q0 e0 q1 e1 q2 e2 q6 e6 q7 e7 q8 e8 q9 e9 q10 e10 q11 e11 q12 e12 q13 e13 q14 e14 q15 e15 q16 e16 q17 e17 q18 e18 q19 e19 q20 e20 q21 e21 q22 e22 q23 e23 q24 e24 q89 e89 hs1
  simp only [Try.f4, Option.getD_some, regOf] at hc
  injection hc with hc
  subst hc
  have hd : decide ((0 : Int) < (x : Int)) = decide (0 < x) := by by_cases e : 0 < x <;> simp [e]
  go_wp2
  exact HQ.out _ ⟨rfl, rfl, rfl, rfl, rfl, rfl, rfl, rfl, rfl, rfl, rfl, rfl, rfl, rfl, rfl, rfl, rfl, rfl, rfl, rfl, rfl, rfl, rfl, rfl, rfl⟩ (by first | rfl | (simp; done))
set_option maxHeartbeats 8000000 in
set_option maxRecDepth 100000 in
theorem aa_r25 {K : Act → World → Prop} {c : Code} (hc : regOf (Try.f4.body.getD .skip) 25 = some c) (a : Act) {v : Vaa} {wq : World} {x : Nat} (hF : Faa a v) (h19v : v.v19 = .int .i64 (x : Int)) (hQ : ∀ a', Faa a' v → a'.tmps.getD 91 undef = .bool (decide (0 < x)) → K a' wq) :
    Code.wp Try.prog c (Exit.then K fun _ _ _ => False) a wq := by
  have HQ := hide hQ
  clear hQ
  obtain ⟨t', d'⟩ := a
  obtain ⟨v0, v1, v2, v6, v7, v8, v9, v10, v11, v12, v13, v14, v15, v16, v17, v18, v19, v20, v21, v22, v23, v24, v89⟩ := v
  simp only at h19v HQ
  subst h19v
  obtain ⟨hs1, hd1, q0, q1, q2, q6, q7, q8, q9, q10, q11, q12, q13, q14, q15, q16, q17, q18, q19, q20, q21, q22, q23, q24, q89⟩ := hF
  obtain ⟨u, hu⟩ := frame_aa t' hs1
  simp only at hd1 q0 q1 q2 q6 q7 q8 q9 q10 q11 q12 q13 q14 q15 q16 q17 q18 q19 q20 q21 q22 q23 q24 q89
  subst hu hd1
  have e0 : u 0 = v0 := q0
  have e1 : u 1 = v1 := q1
  have e2 : u 2 = v2 := q2
  have e6 : u 6 = v6 := q6
  have e7 : u 7 = v7 := q7
  have e8 : u 8 = v8 := q8
  have e9 : u 9 = v9 := q9
  have e10 : u 10 = v10 := q10
  have e11 : u 11 = v11 := q11
  have e12 : u 12 = v12 := q12
  have e13 : u 13 = v13 := q13
  have e14 : u 14 = v14 := q14
  have e15 : u 15 = v15 := q15
  have e16 : u 16 = v16 := q16
  have e17 : u 17 = v17 := q17
  have e18 : u 18 = v18 := q18
  have e19 : u 19 = .int .i64 (x : Int) := q19
  have e20 : u 20 = v20 := q20
  have e21 : u 21 = v21 := q21
  have e22 : u 22 = v22 := q22
  have e23 : u 23 = v23 := q23
  have e24 : u 24 = v24 := q24
  have e89 : u 89 = v89 := q89
  rw [e0, e1, e2, e6, e7, e8, e9, e10, e11, e12, e13, e14, e15, e16, e17, e18, e19, e20, e21, e22, e23, e24, e89]
  clear q0 e0 q1 e1 q2 e2 q6 e6 q7 e7 q8 e8 q9 e9 q10 e10 q11 e11 q12 e12 q13 e13 q14 e14 q15 e15 q16 e16 q17 e17 q18 e18 q19 e19 q20 e20 q21 e21 q22 e22 q23 e23 q24 e24 q89 e89 hs1
  simp only [Try.f4, Option.getD_some, regOf] at hc
  injection hc with hc
  subst hc
  have hd : decide ((0 : Int) < (x : Int)) = decide (0 < x) := by by_cases e : 0 < x <;> simp [e]
  go_wp2
  exact HQ.out _ ⟨rfl, rfl, rfl, rfl, rfl, rfl, rfl, rfl, rfl, rfl, rfl, rfl, rfl, rfl, rfl, rfl, rfl, rfl, rfl, rfl, rfl, rfl, rfl, rfl, rfl⟩ (by first | rfl | (simp; done))
set_option maxHeartbeats 8000000 in
set_option maxRecDepth 100000 in
theorem aa_r32 {K : Act → World → Prop} {c : Code} (hc : regOf (Try.f4.body.getD .skip) 32 = some c) (a : Act) {v : Vaa} {wq : World} {g m oc tg wi at0 su n cp k0 tc0 tc : Nat} {ao to0 ta : Option Addr} {a0 : Addr} {w3 : World} (hF : Faa a v) (h15v : v.v15 = .slice (some ⟨tg, 0, none⟩) m m) (h19v : v.v19 = .int .i64 (wi : Int)) (h20v : v.v20 = .int .i64 (at0 : Int)) (h11v : v.v11 = .slice (some ⟨g, 0, none⟩) m oc) (h21v : v.v21 = .slice ao n cp) (hm : 0 < m) (c0 : wq.cell? ⟨g, 0, none⟩ = some (.pointer (some a0))) (hw : wi < m) (c1 : wq.cell? ⟨tg, wi, none⟩ = some (.slice to0 k0 tc0)) (hr : (Builtin.append_ #[55, 55] 55 #[.slice to0 k0 tc0, .slice (some ⟨wq.heap.size, 0, none⟩) 1 1]).run Try.prog (wq.drew.alloc (.cells #[.int .i64 (at0 : Int), .int .i64 (su : Int), .slice ao n cp] 57)) = .ok (.slice ta (k0 + 1) tc) w3) (c3 : ∃ v, w3.cell? ⟨tg, wi, none⟩ = some v) (f3 : w3.frozen? ⟨tg, wi, none⟩ = false) (hS : Calls Try.prog 28 #[.pointer (some a0)] wq.drew fun e w' => e = .returned (.int .i64 (su : Int)) ∧ w' = wq.drew)
    (hQ : ∀ a', Faa a' v → K a' (w3.setCell ⟨tg, wi, none⟩ (.slice ta (k0 + 1) tc))) :
    Code.wp Try.prog c (Exit.then K fun _ _ _ => False) a wq := by
  have HQ := hide hQ
  clear hQ
  obtain ⟨t', d'⟩ := a
  obtain ⟨v0, v1, v2, v6, v7, v8, v9, v10, v11, v12, v13, v14, v15, v16, v17, v18, v19, v20, v21, v22, v23, v24, v89⟩ := v
  simp only at h15v h19v h20v h11v h21v HQ
  subst h15v h19v h20v h11v h21v
  obtain ⟨hs1, hd1, q0, q1, q2, q6, q7, q8, q9, q10, q11, q12, q13, q14, q15, q16, q17, q18, q19, q20, q21, q22, q23, q24, q89⟩ := hF
  obtain ⟨u, hu⟩ := frame_aa t' hs1
  simp only at hd1 q0 q1 q2 q6 q7 q8 q9 q10 q11 q12 q13 q14 q15 q16 q17 q18 q19 q20 q21 q22 q23 q24 q89
  subst hu hd1
  have e0 : u 0 = v0 := q0
  have e1 : u 1 = v1 := q1
  have e2 : u 2 = v2 := q2
  have e6 : u 6 = v6 := q6
  have e7 : u 7 = v7 := q7
  have e8 : u 8 = v8 := q8
  have e9 : u 9 = v9 := q9
  have e10 : u 10 = v10 := q10
  have e11 : u 11 = .slice (some ⟨g, 0, none⟩) m oc := q11
  have e12 : u 12 = v12 := q12
  have e13 : u 13 = v13 := q13
  have e14 : u 14 = v14 := q14
  have e15 : u 15 = .slice (some ⟨tg, 0, none⟩) m m := q15
  have e16 : u 16 = v16 := q16
  have e17 : u 17 = v17 := q17
  have e18 : u 18 = v18 := q18
  have e19 : u 19 = .int .i64 (wi : Int) := q19
  have e20 : u 20 = .int .i64 (at0 : Int) := q20
  have e21 : u 21 = .slice ao n cp := q21
  have e22 : u 22 = v22 := q22
  have e23 : u 23 = v23 := q23
  have e24 : u 24 = v24 := q24
  have e89 : u 89 = v89 := q89
  rw [e0, e1, e2, e6, e7, e8, e9, e10, e11, e12, e13, e14, e15, e16, e17, e18, e19, e20, e21, e22, e23, e24, e89]
  clear q0 e0 q1 e1 q2 e2 q6 e6 q7 e7 q8 e8 q9 e9 q10 e10 q11 e11 q12 e12 q13 e13 q14 e14 q15 e15 q16 e16 q17 e17 q18 e18 q19 e19 q20 e20 q21 e21 q22 e22 q23 e23 q24 e24 q89 e89 hs1
  simp only [Try.f4, Option.getD_some, regOf] at hc
  injection hc with hc
  subst hc
  have HA := hide hr
  have HS := hide hS
  clear hr hS
  obtain ⟨v3, c3⟩ := c3
  have i0 : (0 : Int) ≤ 0 := Int.le_refl _
  have i1 : (0 : Int) < (m : Int) := by omega
  have j0 : (0 : Int) ≤ (wi : Int) := by omega
  have j1 : (wi : Int) < (m : Int) := by omega
  refine wp_region_any rfl ?_
  refine wpAny_staged (ns := 198) (uses := (fun i => match i with | 0 => [126] | 1 => [127] | 2 => [128] | 3 => [129] | 4 => [130] | 5 => [131] | 6 => [132] | 7 => [133] | 8 => [134] | 9 => [135] | 10 => [136] | 11 => [137] | 12 => [138] | 13 => [139] | 14 => [140] | 15 => [141] | _ => [])) (by kernel_rfl) (by kernel_rfl) (fun l a w => ((fun (x y z : Bool) (W : World) => (x = false → W = wq.drew) ∧ (x = true → y = false → W = wq.drew.alloc (.cells #[.int .i64 (at0 : Int), .int .i64 (su : Int), .slice ao n cp] 57)) ∧ (y = true → z = false → W = w3) ∧ (z = true → W = w3.setCell ⟨tg, wi, none⟩ (.slice ta (k0 + 1) tc)))) (l 13) (l 14) (l 16) w) ⟨(fun _ => rfl), (fun e => by cases e), (fun e => by cases e), (fun e => by cases e)⟩ (fun i => match i with | 0 => fun σ => σ 126 = .slice (some ⟨tg, 0, none⟩) m m | 1 => fun σ => σ 127 = .int .i64 (wi : Int) | 2 => fun σ => σ 128 = .slice (some ⟨tg, 0, none⟩) m m | 3 => fun σ => σ 129 = .int .i64 (wi : Int) | 4 => fun σ => σ 130 = .pointer (some ⟨tg, wi, none⟩) | 5 => fun σ => σ 131 = .slice to0 k0 tc0 | 6 => fun σ => σ 132 = .int .i64 (at0 : Int) | 7 => fun σ => σ 133 = .slice (some ⟨g, 0, none⟩) m oc | 8 => fun σ => σ 134 = .pointer (some ⟨g, 0, none⟩) | 9 => fun σ => σ 135 = .pointer (some a0) | 10 => fun σ => σ 136 = .int .i64 (su : Int) | 11 => fun σ => σ 137 = .slice ao n cp | 12 => fun σ => σ 138 = .agg #[.int .i64 (at0 : Int), .int .i64 (su : Int), .slice ao n cp] | 13 => fun σ => σ 139 = .slice (some ⟨wq.heap.size, 0, none⟩) 1 1 | 14 => fun σ => σ 140 = .slice ta (k0 + 1) tc | 15 => fun σ => σ 141 = .pointer (some ⟨tg, wi, none⟩) | 16 => fun _ => True | _ => fun _ => True) ?phc ?pstep ?pdone
  case phc =>
    intro i s s' hx h
    rcases i with _ | i; · exact (hx _ (List.mem_singleton.2 rfl)).symm.trans h
    rcases i with _ | i; · exact (hx _ (List.mem_singleton.2 rfl)).symm.trans h
    rcases i with _ | i; · exact (hx _ (List.mem_singleton.2 rfl)).symm.trans h
    rcases i with _ | i; · exact (hx _ (List.mem_singleton.2 rfl)).symm.trans h
    rcases i with _ | i; · exact (hx _ (List.mem_singleton.2 rfl)).symm.trans h
    rcases i with _ | i; · exact (hx _ (List.mem_singleton.2 rfl)).symm.trans h
    rcases i with _ | i; · exact (hx _ (List.mem_singleton.2 rfl)).symm.trans h
    rcases i with _ | i; · exact (hx _ (List.mem_singleton.2 rfl)).symm.trans h
    rcases i with _ | i; · exact (hx _ (List.mem_singleton.2 rfl)).symm.trans h
    rcases i with _ | i; · exact (hx _ (List.mem_singleton.2 rfl)).symm.trans h
    rcases i with _ | i; · exact (hx _ (List.mem_singleton.2 rfl)).symm.trans h
    rcases i with _ | i; · exact (hx _ (List.mem_singleton.2 rfl)).symm.trans h
    rcases i with _ | i; · exact (hx _ (List.mem_singleton.2 rfl)).symm.trans h
    rcases i with _ | i; · exact (hx _ (List.mem_singleton.2 rfl)).symm.trans h
    rcases i with _ | i; · exact (hx _ (List.mem_singleton.2 rfl)).symm.trans h
    rcases i with _ | i; · exact (hx _ (List.mem_singleton.2 rfl)).symm.trans h
    rcases i with _ | i; · exact h
    exact h
  case pstep =>
    intro i o ho a' w' l hl hr hq hsa hS hd
    match i, ho, hl, hr, hq with
    | 0, ho, hl, hr, hq =>
      obtain rfl := Option.some.inj ho
      try dsimp only at hd
      have g15 : a'.tmps.getD 15 undef = .slice (some ⟨tg, 0, none⟩) m m := hsa.rest 15 (by rfl)
      have hT : ((fun (x y z : Bool) (W : World) => (x = false → W = wq.drew) ∧ (x = true → y = false → W = wq.drew.alloc (.cells #[.int .i64 (at0 : Int), .int .i64 (su : Int), .slice ao n cp] 57)) ∧ (y = true → z = false → W = w3) ∧ (z = true → W = w3.setCell ⟨tg, wi, none⟩ (.slice ta (k0 + 1) tc)))) (l 13) (l 14) false w' := by have h := hS; rw [hq 16 (by kernel_rfl)] at h; exact h
      refine wpOp_of rfl rfl ?_
      have HT9 := hide hT
      clear hT hS
      refine op_run (v := .slice (some ⟨tg, 0, none⟩) m m) (w' := w') ?_ ⟨_, rfl, ?_, (by show ((fun (x y z : Bool) (W : World) => (x = false → W = wq.drew) ∧ (x = true → y = false → W = wq.drew.alloc (.cells #[.int .i64 (at0 : Int), .int .i64 (su : Int), .slice ao n cp] 57)) ∧ (y = true → z = false → W = w3) ∧ (z = true → W = w3.setCell ⟨tg, wi, none⟩ (.slice ta (k0 + 1) tc)))) _ _ _ _; rw [updL_other l (show 13 ≠ 0 by decide), updL_other l (show 14 ≠ 0 by decide), updL_other l (show 16 ≠ 0 by decide)]; rw [hq 16 (by kernel_rfl)]; exact HT9.out)⟩
      · simp only [execOp, Act.eval, g15]; first | (go_simp; done) | rfl
      · try dsimp only
        exact (slots_put (ns := 198) (hsa.size.trans rfl) (by decide))
    | 1, ho, hl, hr, hq =>
      obtain rfl := Option.some.inj ho
      try dsimp only at hd
      have g19 : a'.tmps.getD 19 undef = .int .i64 (wi : Int) := hsa.rest 19 (by rfl)
      have hT : ((fun (x y z : Bool) (W : World) => (x = false → W = wq.drew) ∧ (x = true → y = false → W = wq.drew.alloc (.cells #[.int .i64 (at0 : Int), .int .i64 (su : Int), .slice ao n cp] 57)) ∧ (y = true → z = false → W = w3) ∧ (z = true → W = w3.setCell ⟨tg, wi, none⟩ (.slice ta (k0 + 1) tc)))) (l 13) (l 14) false w' := by have h := hS; rw [hq 16 (by kernel_rfl)] at h; exact h
      refine wpOp_of rfl rfl ?_
      have HT9 := hide hT
      clear hT hS
      refine op_run (v := .int .i64 (wi : Int)) (w' := w') ?_ ⟨_, rfl, ?_, (by show ((fun (x y z : Bool) (W : World) => (x = false → W = wq.drew) ∧ (x = true → y = false → W = wq.drew.alloc (.cells #[.int .i64 (at0 : Int), .int .i64 (su : Int), .slice ao n cp] 57)) ∧ (y = true → z = false → W = w3) ∧ (z = true → W = w3.setCell ⟨tg, wi, none⟩ (.slice ta (k0 + 1) tc)))) _ _ _ _; rw [updL_other l (show 13 ≠ 1 by decide), updL_other l (show 14 ≠ 1 by decide), updL_other l (show 16 ≠ 1 by decide)]; rw [hq 16 (by kernel_rfl)]; exact HT9.out)⟩
      · simp only [execOp, Act.eval, g19]; first | (go_simp; done) | rfl
      · try dsimp only
        exact (slots_put (ns := 198) (hsa.size.trans rfl) (by decide))
    | 2, ho, hl, hr, hq =>
      obtain rfl := Option.some.inj ho
      try dsimp only at hd
      have g15 : a'.tmps.getD 15 undef = .slice (some ⟨tg, 0, none⟩) m m := hsa.rest 15 (by rfl)
      have hT : ((fun (x y z : Bool) (W : World) => (x = false → W = wq.drew) ∧ (x = true → y = false → W = wq.drew.alloc (.cells #[.int .i64 (at0 : Int), .int .i64 (su : Int), .slice ao n cp] 57)) ∧ (y = true → z = false → W = w3) ∧ (z = true → W = w3.setCell ⟨tg, wi, none⟩ (.slice ta (k0 + 1) tc)))) (l 13) false false w' := by have h := hS; rw [hq 14 (by kernel_rfl), hq 16 (by kernel_rfl)] at h; exact h
      refine wpOp_of rfl rfl ?_
      have HT9 := hide hT
      clear hT hS
      refine op_run (v := .slice (some ⟨tg, 0, none⟩) m m) (w' := w') ?_ ⟨_, rfl, ?_, (by show ((fun (x y z : Bool) (W : World) => (x = false → W = wq.drew) ∧ (x = true → y = false → W = wq.drew.alloc (.cells #[.int .i64 (at0 : Int), .int .i64 (su : Int), .slice ao n cp] 57)) ∧ (y = true → z = false → W = w3) ∧ (z = true → W = w3.setCell ⟨tg, wi, none⟩ (.slice ta (k0 + 1) tc)))) _ _ _ _; rw [updL_other l (show 13 ≠ 2 by decide), updL_other l (show 14 ≠ 2 by decide), updL_other l (show 16 ≠ 2 by decide)]; rw [hq 14 (by kernel_rfl), hq 16 (by kernel_rfl)]; exact HT9.out)⟩
      · simp only [execOp, Act.eval, g15]; first | (go_simp; done) | rfl
      · try dsimp only
        exact (slots_put (ns := 198) (hsa.size.trans rfl) (by decide))
    | 3, ho, hl, hr, hq =>
      obtain rfl := Option.some.inj ho
      try dsimp only at hd
      have g19 : a'.tmps.getD 19 undef = .int .i64 (wi : Int) := hsa.rest 19 (by rfl)
      have hT : ((fun (x y z : Bool) (W : World) => (x = false → W = wq.drew) ∧ (x = true → y = false → W = wq.drew.alloc (.cells #[.int .i64 (at0 : Int), .int .i64 (su : Int), .slice ao n cp] 57)) ∧ (y = true → z = false → W = w3) ∧ (z = true → W = w3.setCell ⟨tg, wi, none⟩ (.slice ta (k0 + 1) tc)))) (l 13) false false w' := by have h := hS; rw [hq 14 (by kernel_rfl), hq 16 (by kernel_rfl)] at h; exact h
      refine wpOp_of rfl rfl ?_
      have HT9 := hide hT
      clear hT hS
      refine op_run (v := .int .i64 (wi : Int)) (w' := w') ?_ ⟨_, rfl, ?_, (by show ((fun (x y z : Bool) (W : World) => (x = false → W = wq.drew) ∧ (x = true → y = false → W = wq.drew.alloc (.cells #[.int .i64 (at0 : Int), .int .i64 (su : Int), .slice ao n cp] 57)) ∧ (y = true → z = false → W = w3) ∧ (z = true → W = w3.setCell ⟨tg, wi, none⟩ (.slice ta (k0 + 1) tc)))) _ _ _ _; rw [updL_other l (show 13 ≠ 3 by decide), updL_other l (show 14 ≠ 3 by decide), updL_other l (show 16 ≠ 3 by decide)]; rw [hq 14 (by kernel_rfl), hq 16 (by kernel_rfl)]; exact HT9.out)⟩
      · simp only [execOp, Act.eval, g19]; first | (go_simp; done) | rfl
      · try dsimp only
        exact (slots_put (ns := 198) (hsa.size.trans rfl) (by decide))
    | 4, ho, hl, hr, hq =>
      obtain rfl := Option.some.inj ho
      try dsimp only at hd
      have d2 : a'.tmps.getD 128 undef = .slice (some ⟨tg, 0, none⟩) m m := hd 2 (by rfl)
      have d3 : a'.tmps.getD 129 undef = .int .i64 (wi : Int) := hd 3 (by rfl)
      have hT : ((fun (x y z : Bool) (W : World) => (x = false → W = wq.drew) ∧ (x = true → y = false → W = wq.drew.alloc (.cells #[.int .i64 (at0 : Int), .int .i64 (su : Int), .slice ao n cp] 57)) ∧ (y = true → z = false → W = w3) ∧ (z = true → W = w3.setCell ⟨tg, wi, none⟩ (.slice ta (k0 + 1) tc)))) (l 13) false false w' := by have h := hS; rw [hq 14 (by kernel_rfl), hq 16 (by kernel_rfl)] at h; exact h
      refine wpOp_of rfl rfl ?_
      have HT9 := hide hT
      clear hT hS
      refine op_run (v := .pointer (some ⟨tg, wi, none⟩)) (w' := w') ?_ ⟨_, rfl, ?_, (by show ((fun (x y z : Bool) (W : World) => (x = false → W = wq.drew) ∧ (x = true → y = false → W = wq.drew.alloc (.cells #[.int .i64 (at0 : Int), .int .i64 (su : Int), .slice ao n cp] 57)) ∧ (y = true → z = false → W = w3) ∧ (z = true → W = w3.setCell ⟨tg, wi, none⟩ (.slice ta (k0 + 1) tc)))) _ _ _ _; rw [updL_other l (show 13 ≠ 4 by decide), updL_other l (show 14 ≠ 4 by decide), updL_other l (show 16 ≠ 4 by decide)]; rw [hq 14 (by kernel_rfl), hq 16 (by kernel_rfl)]; exact HT9.out)⟩
      · simp only [execOp, Act.eval, d2, d3]; first | (go_simp; done) | rfl
      · try dsimp only
        exact (slots_put (ns := 198) (hsa.size.trans rfl) (by decide))
    | 5, ho, hl, hr, hq =>
      obtain rfl := Option.some.inj ho
      try dsimp only at hd
      have d4 : a'.tmps.getD 130 undef = .pointer (some ⟨tg, wi, none⟩) := hd 4 (by rfl)
      have hT : ((fun (x y z : Bool) (W : World) => (x = false → W = wq.drew) ∧ (x = true → y = false → W = wq.drew.alloc (.cells #[.int .i64 (at0 : Int), .int .i64 (su : Int), .slice ao n cp] 57)) ∧ (y = true → z = false → W = w3) ∧ (z = true → W = w3.setCell ⟨tg, wi, none⟩ (.slice ta (k0 + 1) tc)))) (l 13) false false w' := by have h := hS; rw [hq 14 (by kernel_rfl), hq 16 (by kernel_rfl)] at h; exact h
      refine wpOp_of rfl rfl ?_
      have y : w'.cell? ⟨tg, wi, none⟩ = some (.slice to0 k0 tc0) := by
        cases hb13 : l 13 with
        | false => rw [hb13] at hT; rw [hT.1 rfl]; exact c1
        | true => rw [hb13] at hT; rw [hT.2.1 rfl rfl]; exact Lib.cell?_alloc_some _ c1
      have HT9 := hide hT
      clear hT hS
      refine op_run (v := .slice to0 k0 tc0) (w' := w') ?_ ⟨_, rfl, ?_, (by show ((fun (x y z : Bool) (W : World) => (x = false → W = wq.drew) ∧ (x = true → y = false → W = wq.drew.alloc (.cells #[.int .i64 (at0 : Int), .int .i64 (su : Int), .slice ao n cp] 57)) ∧ (y = true → z = false → W = w3) ∧ (z = true → W = w3.setCell ⟨tg, wi, none⟩ (.slice ta (k0 + 1) tc)))) _ _ _ _; rw [updL_other l (show 13 ≠ 5 by decide), updL_other l (show 14 ≠ 5 by decide), updL_other l (show 16 ≠ 5 by decide)]; rw [hq 14 (by kernel_rfl), hq 16 (by kernel_rfl)]; exact HT9.out)⟩
      · simp only [execOp, Act.eval, d4, y]; first | (go_simp; done) | rfl
      · try dsimp only
        exact (slots_put (ns := 198) (hsa.size.trans rfl) (by decide))
    | 6, ho, hl, hr, hq =>
      obtain rfl := Option.some.inj ho
      try dsimp only at hd
      have g20 : a'.tmps.getD 20 undef = .int .i64 (at0 : Int) := hsa.rest 20 (by rfl)
      have hT : ((fun (x y z : Bool) (W : World) => (x = false → W = wq.drew) ∧ (x = true → y = false → W = wq.drew.alloc (.cells #[.int .i64 (at0 : Int), .int .i64 (su : Int), .slice ao n cp] 57)) ∧ (y = true → z = false → W = w3) ∧ (z = true → W = w3.setCell ⟨tg, wi, none⟩ (.slice ta (k0 + 1) tc)))) false false false w' := by have h := hS; rw [hq 13 (by kernel_rfl), hq 14 (by kernel_rfl), hq 16 (by kernel_rfl)] at h; exact h
      refine wpOp_of rfl rfl ?_
      have HT9 := hide hT
      clear hT hS
      refine op_run (v := .int .i64 (at0 : Int)) (w' := w') ?_ ⟨_, rfl, ?_, (by show ((fun (x y z : Bool) (W : World) => (x = false → W = wq.drew) ∧ (x = true → y = false → W = wq.drew.alloc (.cells #[.int .i64 (at0 : Int), .int .i64 (su : Int), .slice ao n cp] 57)) ∧ (y = true → z = false → W = w3) ∧ (z = true → W = w3.setCell ⟨tg, wi, none⟩ (.slice ta (k0 + 1) tc)))) _ _ _ _; rw [updL_other l (show 13 ≠ 6 by decide), updL_other l (show 14 ≠ 6 by decide), updL_other l (show 16 ≠ 6 by decide)]; rw [hq 13 (by kernel_rfl), hq 14 (by kernel_rfl), hq 16 (by kernel_rfl)]; exact HT9.out)⟩
      · simp only [execOp, Act.eval, g20]; first | (go_simp; done) | rfl
      · try dsimp only
        exact (slots_put (ns := 198) (hsa.size.trans rfl) (by decide))
    | 7, ho, hl, hr, hq =>
      obtain rfl := Option.some.inj ho
      try dsimp only at hd
      have g11 : a'.tmps.getD 11 undef = .slice (some ⟨g, 0, none⟩) m oc := hsa.rest 11 (by rfl)
      have hT : ((fun (x y z : Bool) (W : World) => (x = false → W = wq.drew) ∧ (x = true → y = false → W = wq.drew.alloc (.cells #[.int .i64 (at0 : Int), .int .i64 (su : Int), .slice ao n cp] 57)) ∧ (y = true → z = false → W = w3) ∧ (z = true → W = w3.setCell ⟨tg, wi, none⟩ (.slice ta (k0 + 1) tc)))) false false false w' := by have h := hS; rw [hq 13 (by kernel_rfl), hq 14 (by kernel_rfl), hq 16 (by kernel_rfl)] at h; exact h
      refine wpOp_of rfl rfl ?_
      have HT9 := hide hT
      clear hT hS
      refine op_run (v := .slice (some ⟨g, 0, none⟩) m oc) (w' := w') ?_ ⟨_, rfl, ?_, (by show ((fun (x y z : Bool) (W : World) => (x = false → W = wq.drew) ∧ (x = true → y = false → W = wq.drew.alloc (.cells #[.int .i64 (at0 : Int), .int .i64 (su : Int), .slice ao n cp] 57)) ∧ (y = true → z = false → W = w3) ∧ (z = true → W = w3.setCell ⟨tg, wi, none⟩ (.slice ta (k0 + 1) tc)))) _ _ _ _; rw [updL_other l (show 13 ≠ 7 by decide), updL_other l (show 14 ≠ 7 by decide), updL_other l (show 16 ≠ 7 by decide)]; rw [hq 13 (by kernel_rfl), hq 14 (by kernel_rfl), hq 16 (by kernel_rfl)]; exact HT9.out)⟩
      · simp only [execOp, Act.eval, g11]; first | (go_simp; done) | rfl
      · try dsimp only
        exact (slots_put (ns := 198) (hsa.size.trans rfl) (by decide))
    | 8, ho, hl, hr, hq =>
      obtain rfl := Option.some.inj ho
      try dsimp only at hd
      have d7 : a'.tmps.getD 133 undef = .slice (some ⟨g, 0, none⟩) m oc := hd 7 (by rfl)
      have hT : ((fun (x y z : Bool) (W : World) => (x = false → W = wq.drew) ∧ (x = true → y = false → W = wq.drew.alloc (.cells #[.int .i64 (at0 : Int), .int .i64 (su : Int), .slice ao n cp] 57)) ∧ (y = true → z = false → W = w3) ∧ (z = true → W = w3.setCell ⟨tg, wi, none⟩ (.slice ta (k0 + 1) tc)))) false false false w' := by have h := hS; rw [hq 13 (by kernel_rfl), hq 14 (by kernel_rfl), hq 16 (by kernel_rfl)] at h; exact h
      refine wpOp_of rfl rfl ?_
      have HT9 := hide hT
      clear hT hS
      refine op_run (v := .pointer (some ⟨g, 0, none⟩)) (w' := w') ?_ ⟨_, rfl, ?_, (by show ((fun (x y z : Bool) (W : World) => (x = false → W = wq.drew) ∧ (x = true → y = false → W = wq.drew.alloc (.cells #[.int .i64 (at0 : Int), .int .i64 (su : Int), .slice ao n cp] 57)) ∧ (y = true → z = false → W = w3) ∧ (z = true → W = w3.setCell ⟨tg, wi, none⟩ (.slice ta (k0 + 1) tc)))) _ _ _ _; rw [updL_other l (show 13 ≠ 8 by decide), updL_other l (show 14 ≠ 8 by decide), updL_other l (show 16 ≠ 8 by decide)]; rw [hq 13 (by kernel_rfl), hq 14 (by kernel_rfl), hq 16 (by kernel_rfl)]; exact HT9.out)⟩
      · simp only [execOp, Act.eval, d7]; first | (go_simp; done) | rfl
      · try dsimp only
        exact (slots_put (ns := 198) (hsa.size.trans rfl) (by decide))
    | 9, ho, hl, hr, hq =>
      obtain rfl := Option.some.inj ho
      try dsimp only at hd
      have d8 : a'.tmps.getD 134 undef = .pointer (some ⟨g, 0, none⟩) := hd 8 (by rfl)
      have hT : ((fun (x y z : Bool) (W : World) => (x = false → W = wq.drew) ∧ (x = true → y = false → W = wq.drew.alloc (.cells #[.int .i64 (at0 : Int), .int .i64 (su : Int), .slice ao n cp] 57)) ∧ (y = true → z = false → W = w3) ∧ (z = true → W = w3.setCell ⟨tg, wi, none⟩ (.slice ta (k0 + 1) tc)))) false false false w' := by have h := hS; rw [hq 13 (by kernel_rfl), hq 14 (by kernel_rfl), hq 16 (by kernel_rfl)] at h; exact h
      refine wpOp_of rfl rfl ?_
      have y : w'.cell? ⟨g, 0, none⟩ = some (.pointer (some a0)) := by rw [hT.1 rfl]; exact c0
      have HT9 := hide hT
      clear hT hS
      refine op_run (v := .pointer (some a0)) (w' := w') ?_ ⟨_, rfl, ?_, (by show ((fun (x y z : Bool) (W : World) => (x = false → W = wq.drew) ∧ (x = true → y = false → W = wq.drew.alloc (.cells #[.int .i64 (at0 : Int), .int .i64 (su : Int), .slice ao n cp] 57)) ∧ (y = true → z = false → W = w3) ∧ (z = true → W = w3.setCell ⟨tg, wi, none⟩ (.slice ta (k0 + 1) tc)))) _ _ _ _; rw [updL_other l (show 13 ≠ 9 by decide), updL_other l (show 14 ≠ 9 by decide), updL_other l (show 16 ≠ 9 by decide)]; rw [hq 13 (by kernel_rfl), hq 14 (by kernel_rfl), hq 16 (by kernel_rfl)]; exact HT9.out)⟩
      · simp only [execOp, Act.eval, d8, y]; first | (go_simp; done) | rfl
      · try dsimp only
        exact (slots_put (ns := 198) (hsa.size.trans rfl) (by decide))
    | 10, ho, hl, hr, hq =>
      obtain rfl := Option.some.inj ho
      try dsimp only at hd
      have d9 : a'.tmps.getD 135 undef = .pointer (some a0) := hd 9 (by rfl)
      have hT : ((fun (x y z : Bool) (W : World) => (x = false → W = wq.drew) ∧ (x = true → y = false → W = wq.drew.alloc (.cells #[.int .i64 (at0 : Int), .int .i64 (su : Int), .slice ao n cp] 57)) ∧ (y = true → z = false → W = w3) ∧ (z = true → W = w3.setCell ⟨tg, wi, none⟩ (.slice ta (k0 + 1) tc)))) false false false w' := by have h := hS; rw [hq 13 (by kernel_rfl), hq 14 (by kernel_rfl), hq 16 (by kernel_rfl)] at h; exact h
      refine wpOp_of rfl rfl ?_
      obtain rfl := hT.1 rfl
      refine op_call 28 _ _ rfl (enters_of Try.func28 (by kernel_rfl) rfl) [.pointer (some a0)] (by simp only [List.map, Act.eval, d9]) HS.out ?_
      rintro e w'' ⟨rfl, rfl⟩
      refine ⟨_, rfl, _, rfl, (slots_put (ns := 198) (hsa.size.trans rfl) (by decide)), (by show ((fun (x y z : Bool) (W : World) => (x = false → W = wq.drew) ∧ (x = true → y = false → W = wq.drew.alloc (.cells #[.int .i64 (at0 : Int), .int .i64 (su : Int), .slice ao n cp] 57)) ∧ (y = true → z = false → W = w3) ∧ (z = true → W = w3.setCell ⟨tg, wi, none⟩ (.slice ta (k0 + 1) tc)))) _ _ _ _; rw [updL_other l (show 13 ≠ 10 by decide), updL_other l (show 14 ≠ 10 by decide), updL_other l (show 16 ≠ 10 by decide)]; rw [hq 13 (by kernel_rfl), hq 14 (by kernel_rfl), hq 16 (by kernel_rfl)]; exact hT)⟩
    | 11, ho, hl, hr, hq =>
      obtain rfl := Option.some.inj ho
      try dsimp only at hd
      have g21 : a'.tmps.getD 21 undef = .slice ao n cp := hsa.rest 21 (by rfl)
      have hT : ((fun (x y z : Bool) (W : World) => (x = false → W = wq.drew) ∧ (x = true → y = false → W = wq.drew.alloc (.cells #[.int .i64 (at0 : Int), .int .i64 (su : Int), .slice ao n cp] 57)) ∧ (y = true → z = false → W = w3) ∧ (z = true → W = w3.setCell ⟨tg, wi, none⟩ (.slice ta (k0 + 1) tc)))) false false false w' := by have h := hS; rw [hq 13 (by kernel_rfl), hq 14 (by kernel_rfl), hq 16 (by kernel_rfl)] at h; exact h
      refine wpOp_of rfl rfl ?_
      have HT9 := hide hT
      clear hT hS
      refine op_run (v := .slice ao n cp) (w' := w') ?_ ⟨_, rfl, ?_, (by show ((fun (x y z : Bool) (W : World) => (x = false → W = wq.drew) ∧ (x = true → y = false → W = wq.drew.alloc (.cells #[.int .i64 (at0 : Int), .int .i64 (su : Int), .slice ao n cp] 57)) ∧ (y = true → z = false → W = w3) ∧ (z = true → W = w3.setCell ⟨tg, wi, none⟩ (.slice ta (k0 + 1) tc)))) _ _ _ _; rw [updL_other l (show 13 ≠ 11 by decide), updL_other l (show 14 ≠ 11 by decide), updL_other l (show 16 ≠ 11 by decide)]; rw [hq 13 (by kernel_rfl), hq 14 (by kernel_rfl), hq 16 (by kernel_rfl)]; exact HT9.out)⟩
      · simp only [execOp, Act.eval, g21]; first | (go_simp; done) | rfl
      · try dsimp only
        exact (slots_put (ns := 198) (hsa.size.trans rfl) (by decide))
    | 12, ho, hl, hr, hq =>
      obtain rfl := Option.some.inj ho
      try dsimp only at hd
      have d6 : a'.tmps.getD 132 undef = .int .i64 (at0 : Int) := hd 6 (by rfl)
      have d10 : a'.tmps.getD 136 undef = .int .i64 (su : Int) := hd 10 (by rfl)
      have d11 : a'.tmps.getD 137 undef = .slice ao n cp := hd 11 (by rfl)
      have hT : ((fun (x y z : Bool) (W : World) => (x = false → W = wq.drew) ∧ (x = true → y = false → W = wq.drew.alloc (.cells #[.int .i64 (at0 : Int), .int .i64 (su : Int), .slice ao n cp] 57)) ∧ (y = true → z = false → W = w3) ∧ (z = true → W = w3.setCell ⟨tg, wi, none⟩ (.slice ta (k0 + 1) tc)))) false false false w' := by have h := hS; rw [hq 13 (by kernel_rfl), hq 14 (by kernel_rfl), hq 16 (by kernel_rfl)] at h; exact h
      refine wpOp_of rfl rfl ?_
      have HT9 := hide hT
      clear hT hS
      refine op_run (v := .agg #[.int .i64 (at0 : Int), .int .i64 (su : Int), .slice ao n cp]) (w' := w') ?_ ⟨_, rfl, ?_, (by show ((fun (x y z : Bool) (W : World) => (x = false → W = wq.drew) ∧ (x = true → y = false → W = wq.drew.alloc (.cells #[.int .i64 (at0 : Int), .int .i64 (su : Int), .slice ao n cp] 57)) ∧ (y = true → z = false → W = w3) ∧ (z = true → W = w3.setCell ⟨tg, wi, none⟩ (.slice ta (k0 + 1) tc)))) _ _ _ _; rw [updL_other l (show 13 ≠ 12 by decide), updL_other l (show 14 ≠ 12 by decide), updL_other l (show 16 ≠ 12 by decide)]; rw [hq 13 (by kernel_rfl), hq 14 (by kernel_rfl), hq 16 (by kernel_rfl)]; exact HT9.out)⟩
      · simp only [execOp, Act.eval, List.map_toArray, List.map_cons, List.map_nil, d6, d10, d11]; first | (go_simp; done) | rfl
      · try dsimp only
        exact (slots_put (ns := 198) (hsa.size.trans rfl) (by decide))
    | 13, ho, hl, hr, hq =>
      obtain rfl := Option.some.inj ho
      try dsimp only at hd
      have d12 : a'.tmps.getD 138 undef = .agg #[.int .i64 (at0 : Int), .int .i64 (su : Int), .slice ao n cp] := hd 12 (by rfl)
      have hT : ((fun (x y z : Bool) (W : World) => (x = false → W = wq.drew) ∧ (x = true → y = false → W = wq.drew.alloc (.cells #[.int .i64 (at0 : Int), .int .i64 (su : Int), .slice ao n cp] 57)) ∧ (y = true → z = false → W = w3) ∧ (z = true → W = w3.setCell ⟨tg, wi, none⟩ (.slice ta (k0 + 1) tc)))) false false false w' := by have h := hS; rw [hl, hq 14 (by kernel_rfl), hq 16 (by kernel_rfl)] at h; exact h
      refine wpOp_of rfl rfl ?_
      obtain rfl := hT.1 rfl
      refine op_run (v := .slice (some ⟨wq.heap.size, 0, none⟩) 1 1) (w' := wq.drew.alloc (.cells #[.int .i64 (at0 : Int), .int .i64 (su : Int), .slice ao n cp] 57)) ?_ ⟨_, rfl, (slots_put (ns := 198) (hsa.size.trans rfl) (by decide)), (by show ((fun (x y z : Bool) (W : World) => (x = false → W = wq.drew) ∧ (x = true → y = false → W = wq.drew.alloc (.cells #[.int .i64 (at0 : Int), .int .i64 (su : Int), .slice ao n cp] 57)) ∧ (y = true → z = false → W = w3) ∧ (z = true → W = w3.setCell ⟨tg, wi, none⟩ (.slice ta (k0 + 1) tc)))) _ _ _ _; rw [updL_same, updL_other l (show 14 ≠ 13 by decide), updL_other l (show 16 ≠ 13 by decide)]; rw [hq 14 (by kernel_rfl), hq 16 (by kernel_rfl)]; exact ⟨(fun e => by cases e), (fun _ _ => rfl), (fun e => by cases e), (fun e => by cases e)⟩)⟩
      simp only [execOp, Act.eval, List.map_toArray, List.map_cons, List.map_nil, d12]; first | (go_simp; done) | rfl
    | 14, ho, hl, hr, hq =>
      obtain rfl := Option.some.inj ho
      try dsimp only at hd
      have d5 : a'.tmps.getD 131 undef = .slice to0 k0 tc0 := hd 5 (by rfl)
      have d13 : a'.tmps.getD 139 undef = .slice (some ⟨wq.heap.size, 0, none⟩) 1 1 := hd 13 (by rfl)
      have hT : ((fun (x y z : Bool) (W : World) => (x = false → W = wq.drew) ∧ (x = true → y = false → W = wq.drew.alloc (.cells #[.int .i64 (at0 : Int), .int .i64 (su : Int), .slice ao n cp] 57)) ∧ (y = true → z = false → W = w3) ∧ (z = true → W = w3.setCell ⟨tg, wi, none⟩ (.slice ta (k0 + 1) tc)))) true false false w' := by have h := hS; rw [hr 13 (by kernel_rfl), hl, hq 16 (by kernel_rfl)] at h; exact h
      refine wpOp_of rfl rfl ?_
      obtain rfl := hT.2.1 rfl rfl
      refine op_run (v := .slice ta (k0 + 1) tc) (w' := w3) ?_ ⟨_, rfl, (slots_put (ns := 198) (hsa.size.trans rfl) (by decide)), (by show ((fun (x y z : Bool) (W : World) => (x = false → W = wq.drew) ∧ (x = true → y = false → W = wq.drew.alloc (.cells #[.int .i64 (at0 : Int), .int .i64 (su : Int), .slice ao n cp] 57)) ∧ (y = true → z = false → W = w3) ∧ (z = true → W = w3.setCell ⟨tg, wi, none⟩ (.slice ta (k0 + 1) tc)))) _ _ _ _; rw [updL_other l (show 13 ≠ 14 by decide), updL_same, updL_other l (show 16 ≠ 14 by decide)]; rw [hr 13 (by kernel_rfl), hq 16 (by kernel_rfl)]; exact ⟨(fun e => by cases e), (fun _ e => by cases e), (fun _ _ => rfl), (fun e => by cases e)⟩)⟩
      simp only [execOp, Act.eval, resolve, invoke, builtin, Sem.run_bind, Sem.run_pure, Result.andThen_ok, List.map_toArray, List.map_cons, List.map_nil, HA.out, d5, d13]
    | 15, ho, hl, hr, hq =>
      obtain rfl := Option.some.inj ho
      try dsimp only at hd
      have d0 : a'.tmps.getD 126 undef = .slice (some ⟨tg, 0, none⟩) m m := hd 0 (by rfl)
      have d1 : a'.tmps.getD 127 undef = .int .i64 (wi : Int) := hd 1 (by rfl)
      have hT : ((fun (x y z : Bool) (W : World) => (x = false → W = wq.drew) ∧ (x = true → y = false → W = wq.drew.alloc (.cells #[.int .i64 (at0 : Int), .int .i64 (su : Int), .slice ao n cp] 57)) ∧ (y = true → z = false → W = w3) ∧ (z = true → W = w3.setCell ⟨tg, wi, none⟩ (.slice ta (k0 + 1) tc)))) (l 13) (l 14) false w' := by have h := hS; rw [hq 16 (by kernel_rfl)] at h; exact h
      refine wpOp_of rfl rfl ?_
      have HT9 := hide hT
      clear hT hS
      refine op_run (v := .pointer (some ⟨tg, wi, none⟩)) (w' := w') ?_ ⟨_, rfl, ?_, (by show ((fun (x y z : Bool) (W : World) => (x = false → W = wq.drew) ∧ (x = true → y = false → W = wq.drew.alloc (.cells #[.int .i64 (at0 : Int), .int .i64 (su : Int), .slice ao n cp] 57)) ∧ (y = true → z = false → W = w3) ∧ (z = true → W = w3.setCell ⟨tg, wi, none⟩ (.slice ta (k0 + 1) tc)))) _ _ _ _; rw [updL_other l (show 13 ≠ 15 by decide), updL_other l (show 14 ≠ 15 by decide), updL_other l (show 16 ≠ 15 by decide)]; rw [hq 16 (by kernel_rfl)]; exact HT9.out)⟩
      · simp only [execOp, Act.eval, d0, d1]; first | (go_simp; done) | rfl
      · try dsimp only
        exact (slots_put (ns := 198) (hsa.size.trans rfl) (by decide))
    | 16, ho, hl, hr, hq =>
      obtain rfl := Option.some.inj ho
      try dsimp only at hd
      have d14 : a'.tmps.getD 140 undef = .slice ta (k0 + 1) tc := hd 14 (by rfl)
      have d15 : a'.tmps.getD 141 undef = .pointer (some ⟨tg, wi, none⟩) := hd 15 (by rfl)
      have hT : ((fun (x y z : Bool) (W : World) => (x = false → W = wq.drew) ∧ (x = true → y = false → W = wq.drew.alloc (.cells #[.int .i64 (at0 : Int), .int .i64 (su : Int), .slice ao n cp] 57)) ∧ (y = true → z = false → W = w3) ∧ (z = true → W = w3.setCell ⟨tg, wi, none⟩ (.slice ta (k0 + 1) tc)))) true true false w' := by have h := hS; rw [hr 13 (by kernel_rfl), hr 14 (by kernel_rfl), hl] at h; exact h
      refine wpOp_of rfl rfl ?_
      have hw9 := hT.2.2.1 rfl rfl
      subst w'
      refine op_skip (w' := w3.setCell ⟨tg, wi, none⟩ (.slice ta (k0 + 1) tc)) ?_ ⟨undef, rfl, trivial, (by show ((fun (x y z : Bool) (W : World) => (x = false → W = wq.drew) ∧ (x = true → y = false → W = wq.drew.alloc (.cells #[.int .i64 (at0 : Int), .int .i64 (su : Int), .slice ao n cp] 57)) ∧ (y = true → z = false → W = w3) ∧ (z = true → W = w3.setCell ⟨tg, wi, none⟩ (.slice ta (k0 + 1) tc)))) _ _ _ _; rw [updL_other l (show 13 ≠ 16 by decide), updL_other l (show 14 ≠ 16 by decide), updL_same]; rw [hr 13 (by kernel_rfl), hr 14 (by kernel_rfl)]; exact ⟨(fun e => by cases e), (fun _ e => by cases e), (fun _ e => by cases e), (fun _ => rfl)⟩)⟩
      simp only [execOp, Act.eval, d14, d15]; first | (go_simp; done) | rfl
    | (n + 17), ho, _, _, _ => exact absurd ho (by simp)
  case pdone =>
    intro a' w' l hl hsa hS hd
    have hT : ((fun (x y z : Bool) (W : World) => (x = false → W = wq.drew) ∧ (x = true → y = false → W = wq.drew.alloc (.cells #[.int .i64 (at0 : Int), .int .i64 (su : Int), .slice ao n cp] 57)) ∧ (y = true → z = false → W = w3) ∧ (z = true → W = w3.setCell ⟨tg, wi, none⟩ (.slice ta (k0 + 1) tc)))) true true true w' := by have h := hS; rw [hl 13 (by decide), hl 14 (by decide), hl 16 (by decide)] at h; exact h
    have d0 : a'.tmps.getD 126 undef = .slice (some ⟨tg, 0, none⟩) m m := hd 0 (by decide)
    have d1 : a'.tmps.getD 127 undef = .int .i64 (wi : Int) := hd 1 (by decide)
    have d2 : a'.tmps.getD 128 undef = .slice (some ⟨tg, 0, none⟩) m m := hd 2 (by decide)
    have d3 : a'.tmps.getD 129 undef = .int .i64 (wi : Int) := hd 3 (by decide)
    have d4 : a'.tmps.getD 130 undef = .pointer (some ⟨tg, wi, none⟩) := hd 4 (by decide)
    have d5 : a'.tmps.getD 131 undef = .slice to0 k0 tc0 := hd 5 (by decide)
    have d6 : a'.tmps.getD 132 undef = .int .i64 (at0 : Int) := hd 6 (by decide)
    have d7 : a'.tmps.getD 133 undef = .slice (some ⟨g, 0, none⟩) m oc := hd 7 (by decide)
    have d8 : a'.tmps.getD 134 undef = .pointer (some ⟨g, 0, none⟩) := hd 8 (by decide)
    have d9 : a'.tmps.getD 135 undef = .pointer (some a0) := hd 9 (by decide)
    have d10 : a'.tmps.getD 136 undef = .int .i64 (su : Int) := hd 10 (by decide)
    have d11 : a'.tmps.getD 137 undef = .slice ao n cp := hd 11 (by decide)
    have d12 : a'.tmps.getD 138 undef = .agg #[.int .i64 (at0 : Int), .int .i64 (su : Int), .slice ao n cp] := hd 12 (by decide)
    have d13 : a'.tmps.getD 139 undef = .slice (some ⟨wq.heap.size, 0, none⟩) 1 1 := hd 13 (by decide)
    have d14 : a'.tmps.getD 140 undef = .slice ta (k0 + 1) tc := hd 14 (by decide)
    have d15 : a'.tmps.getD 141 undef = .pointer (some ⟨tg, wi, none⟩) := hd 15 (by decide)
    rw [hT.2.2.2 rfl]
    exact HQ.out a' ⟨hsa.size.trans rfl, hsa.defers.trans rfl, hsa.rest 0 (by rfl), hsa.rest 1 (by rfl), hsa.rest 2 (by rfl), hsa.rest 6 (by rfl), hsa.rest 7 (by rfl), hsa.rest 8 (by rfl), hsa.rest 9 (by rfl), hsa.rest 10 (by rfl), hsa.rest 11 (by rfl), hsa.rest 12 (by rfl), hsa.rest 13 (by rfl), hsa.rest 14 (by rfl), hsa.rest 15 (by rfl), hsa.rest 16 (by rfl), hsa.rest 17 (by rfl), hsa.rest 18 (by rfl), hsa.rest 19 (by rfl), hsa.rest 20 (by rfl), hsa.rest 21 (by rfl), hsa.rest 22 (by rfl), hsa.rest 23 (by rfl), hsa.rest 24 (by rfl), hsa.rest 89 (by rfl)⟩
set_option maxHeartbeats 8000000 in
set_option maxRecDepth 100000 in
theorem aa_r34 {K : Act → World → Prop} {c : Code} (hc : regOf (Try.f4.body.getD .skip) 34 = some c) (a : Act) {v : Vaa} {wq : World} {tg m wi k0 tc0 : Nat} {to0 : Option Addr} (hF : Faa a v) (h15v : v.v15 = .slice (some ⟨tg, 0, none⟩) m m) (h19v : v.v19 = .int .i64 (wi : Int)) (hw : wi < m) (c1 : wq.cell? ⟨tg, wi, none⟩ = some (.slice to0 k0 tc0)) (hQ : ∀ a', Faa a' v → a'.tmps.getD 149 undef = .bool (decide (0 < k0)) → K a' wq) :
    Code.wp Try.prog c (Exit.then K fun _ _ _ => False) a wq := by
  have HQ := hide hQ
  clear hQ
  obtain ⟨t', d'⟩ := a
  obtain ⟨v0, v1, v2, v6, v7, v8, v9, v10, v11, v12, v13, v14, v15, v16, v17, v18, v19, v20, v21, v22, v23, v24, v89⟩ := v
  simp only at h15v h19v HQ
  subst h15v h19v
  obtain ⟨hs1, hd1, q0, q1, q2, q6, q7, q8, q9, q10, q11, q12, q13, q14, q15, q16, q17, q18, q19, q20, q21, q22, q23, q24, q89⟩ := hF
  obtain ⟨u, hu⟩ := frame_aa t' hs1
  simp only at hd1 q0 q1 q2 q6 q7 q8 q9 q10 q11 q12 q13 q14 q15 q16 q17 q18 q19 q20 q21 q22 q23 q24 q89
  subst hu hd1
  have e0 : u 0 = v0 := q0
  have e1 : u 1 = v1 := q1
  have e2 : u 2 = v2 := q2
  have e6 : u 6 = v6 := q6
  have e7 : u 7 = v7 := q7
  have e8 : u 8 = v8 := q8
  have e9 : u 9 = v9 := q9
  have e10 : u 10 = v10 := q10
  have e11 : u 11 = v11 := q11
  have e12 : u 12 = v12 := q12
  have e13 : u 13 = v13 := q13
  have e14 : u 14 = v14 := q14
  have e15 : u 15 = .slice (some ⟨tg, 0, none⟩) m m := q15
  have e16 : u 16 = v16 := q16
  have e17 : u 17 = v17 := q17
  have e18 : u 18 = v18 := q18
  have e19 : u 19 = .int .i64 (wi : Int) := q19
  have e20 : u 20 = v20 := q20
  have e21 : u 21 = v21 := q21
  have e22 : u 22 = v22 := q22
  have e23 : u 23 = v23 := q23
  have e24 : u 24 = v24 := q24
  have e89 : u 89 = v89 := q89
  rw [e0, e1, e2, e6, e7, e8, e9, e10, e11, e12, e13, e14, e15, e16, e17, e18, e19, e20, e21, e22, e23, e24, e89]
  clear q0 e0 q1 e1 q2 e2 q6 e6 q7 e7 q8 e8 q9 e9 q10 e10 q11 e11 q12 e12 q13 e13 q14 e14 q15 e15 q16 e16 q17 e17 q18 e18 q19 e19 q20 e20 q21 e21 q22 e22 q23 e23 q24 e24 q89 e89 hs1
  simp only [Try.f4, Option.getD_some, regOf] at hc
  injection hc with hc
  subst hc
  have j0 : (0 : Int) ≤ (wi : Int) := by omega
  have j1 : (wi : Int) < (m : Int) := by omega
  have hd : decide ((0 : Int) < (k0 : Int)) = decide (0 < k0) := by by_cases e : 0 < k0 <;> simp [e]
  go_wp2
  exact HQ.out _ ⟨rfl, rfl, rfl, rfl, rfl, rfl, rfl, rfl, rfl, rfl, rfl, rfl, rfl, rfl, rfl, rfl, rfl, rfl, rfl, rfl, rfl, rfl, rfl, rfl, rfl⟩ (by first | rfl | (simp; done))
set_option maxHeartbeats 8000000 in
set_option maxRecDepth 100000 in
theorem aa_r35 {K : Act → World → Prop} {c : Code} (hc : regOf (Try.f4.body.getD .skip) 35 = some c) (a : Act) {v : Vaa} {wq : World} {tg m wi cb eb k0 tc0 pk at0 su n cp : Nat} {ao : Option Addr} {d : TU} (hF : Faa a v) (h15v : v.v15 = .slice (some ⟨tg, 0, none⟩) m m) (h19v : v.v19 = .int .i64 (wi : Int)) (h18v : v.v18 = .pointer (some ⟨cb, 0, none⟩)) (hC : wq.heap[cb]? = some (.cells #[.int .i64 d.kind, .int .i64 d.who, .int .i64 d.n, .int .i64 d.i, .string d.s] 54 (0, 0))) (hw : wi < m) (hpk : pk < k0) (c1 : wq.cell? ⟨tg, wi, none⟩ = some (.slice (some ⟨eb, 0, none⟩) k0 tc0)) (e0 : wq.cell? ⟨eb, pk * 3, none⟩ = some (.int .i64 (at0 : Int))) (e1 : wq.cell? ⟨eb, pk * 3 + 1, none⟩ = some (.int .i64 (su : Int))) (e2 : wq.cell? ⟨eb, pk * 3 + 2, none⟩ = some (.slice ao n cp)) (hP : ∀ W, Calls Try.prog 12 #[.int .i64 d.i, .int .i64 (k0 : Int)] W fun e w' => e = .returned (.int .i64 (pk : Int)) ∧ w' = W)
    (hQ : ∀ a' w1, Faa a' { v with v22 := .pointer (some ⟨wq.heap.size, 0, none⟩) } → w1.heap[wq.heap.size]? = some (.cells #[.int .i64 (at0 : Int), .int .i64 (su : Int), .slice ao n cp] 57 (0, 0)) → Below wq.heap.size wq w1 → K a' w1) :
    Code.wp Try.prog c (Exit.then K fun _ _ _ => False) a wq := by
  have HQ := hide hQ
  clear hQ
  obtain ⟨t', d'⟩ := a
  obtain ⟨v0, v1, v2, v6, v7, v8, v9, v10, v11, v12, v13, v14, v15, v16, v17, v18, v19, v20, v21, v22, v23, v24, v89⟩ := v
  simp only at h15v h19v h18v HQ
  subst h15v h19v h18v
  obtain ⟨hs1, hd1, q0, q1, q2, q6, q7, q8, q9, q10, q11, q12, q13, q14, q15, q16, q17, q18, q19, q20, q21, q22, q23, q24, q89⟩ := hF
  obtain ⟨u, hu⟩ := frame_aa t' hs1
  simp only at hd1 q0 q1 q2 q6 q7 q8 q9 q10 q11 q12 q13 q14 q15 q16 q17 q18 q19 q20 q21 q22 q23 q24 q89
  subst hu hd1
  have e0 : u 0 = v0 := q0
  have e1 : u 1 = v1 := q1
  have e2 : u 2 = v2 := q2
  have e6 : u 6 = v6 := q6
  have e7 : u 7 = v7 := q7
  have e8 : u 8 = v8 := q8
  have e9 : u 9 = v9 := q9
  have e10 : u 10 = v10 := q10
  have e11 : u 11 = v11 := q11
  have e12 : u 12 = v12 := q12
  have e13 : u 13 = v13 := q13
  have e14 : u 14 = v14 := q14
  have e15 : u 15 = .slice (some ⟨tg, 0, none⟩) m m := q15
  have e16 : u 16 = v16 := q16
  have e17 : u 17 = v17 := q17
  have e18 : u 18 = .pointer (some ⟨cb, 0, none⟩) := q18
  have e19 : u 19 = .int .i64 (wi : Int) := q19
  have e20 : u 20 = v20 := q20
  have e21 : u 21 = v21 := q21
  have e22 : u 22 = v22 := q22
  have e23 : u 23 = v23 := q23
  have e24 : u 24 = v24 := q24
  have e89 : u 89 = v89 := q89
  rw [e0, e1, e2, e6, e7, e8, e9, e10, e11, e12, e13, e14, e15, e16, e17, e18, e19, e20, e21, e22, e23, e24, e89]
  clear q0 e0 q1 e1 q2 e2 q6 e6 q7 e7 q8 e8 q9 e9 q10 e10 q11 e11 q12 e12 q13 e13 q14 e14 q15 e15 q16 e16 q17 e17 q18 e18 q19 e19 q20 e20 q21 e21 q22 e22 q23 e23 q24 e24 q89 e89 hs1
  simp only [Try.f4, Option.getD_some, regOf] at hc
  injection hc with hc
  subst hc
  have HP := hide hP
  clear hP
  have c9 := box_cell hC 3 rfl
  clear hC
  have j0 : (0 : Int) ≤ (wi : Int) := by omega
  have j1 : (wi : Int) < (m : Int) := by omega
  have i0 : (0 : Int) ≤ (pk : Int) := by omega
  have i1 : (pk : Int) < (k0 : Int) := by omega
  refine wp_region_any rfl ?_
  refine wpAny_staged (ns := 198) (uses := (fun i => match i with | 0 => [150] | 1 => [151] | 2 => [152] | 3 => [153] | 4 => [154] | 5 => [155] | 6 => [156] | 7 => [157] | 8 => [158] | 9 => [159] | 10 => [160] | 11 => [161] | 12 => [162] | 13 => [163] | 14 => [22] | _ => [])) (by kernel_rfl) (by kernel_rfl) (fun l a w => ((fun (x y : Bool) (W : World) => (x = false → W = wq.drew) ∧ (x = true → y = false → W = wq.drew.alloc (.cells #[.int .i64 0, .int .i64 0, .slice none 0 0] 57)) ∧ (y = true → W = ((((wq.drew.alloc (.cells #[.int .i64 0, .int .i64 0, .slice none 0 0] 57)).setCell ⟨wq.heap.size, 0, none⟩ (.int .i64 (at0 : Int))).setCell ⟨wq.heap.size, 1, none⟩ (.int .i64 (su : Int))).setCell ⟨wq.heap.size, 2, none⟩ (.slice ao n cp))))) (l 14) (l 15) w) ⟨(fun _ => rfl), (fun e => by cases e), (fun e => by cases e)⟩ (fun i => match i with | 0 => fun σ => σ 150 = .slice (some ⟨tg, 0, none⟩) m m | 1 => fun σ => σ 151 = .int .i64 (wi : Int) | 2 => fun σ => σ 152 = .pointer (some ⟨tg, wi, none⟩) | 3 => fun σ => σ 153 = .slice (some ⟨eb, 0, none⟩) k0 tc0 | 4 => fun σ => σ 154 = .pointer (some ⟨cb, 3, none⟩) | 5 => fun σ => σ 155 = .int .i64 d.i | 6 => fun σ => σ 156 = .slice (some ⟨tg, 0, none⟩) m m | 7 => fun σ => σ 157 = .int .i64 (wi : Int) | 8 => fun σ => σ 158 = .pointer (some ⟨tg, wi, none⟩) | 9 => fun σ => σ 159 = .slice (some ⟨eb, 0, none⟩) k0 tc0 | 10 => fun σ => σ 160 = .int .i64 (k0 : Int) | 11 => fun σ => σ 161 = .int .i64 (pk : Int) | 12 => fun σ => σ 162 = .pointer (some ⟨eb, pk * 3, none⟩) | 13 => fun σ => σ 163 = .agg #[.int .i64 (at0 : Int), .int .i64 (su : Int), .slice ao n cp] | 14 => fun σ => σ 22 = .pointer (some ⟨wq.heap.size, 0, none⟩) | 15 => fun _ => True | _ => fun _ => True) ?phc ?pstep ?pdone
  case phc =>
    intro i s s' hx h
    rcases i with _ | i; · exact (hx _ (List.mem_singleton.2 rfl)).symm.trans h
    rcases i with _ | i; · exact (hx _ (List.mem_singleton.2 rfl)).symm.trans h
    rcases i with _ | i; · exact (hx _ (List.mem_singleton.2 rfl)).symm.trans h
    rcases i with _ | i; · exact (hx _ (List.mem_singleton.2 rfl)).symm.trans h
    rcases i with _ | i; · exact (hx _ (List.mem_singleton.2 rfl)).symm.trans h
    rcases i with _ | i; · exact (hx _ (List.mem_singleton.2 rfl)).symm.trans h
    rcases i with _ | i; · exact (hx _ (List.mem_singleton.2 rfl)).symm.trans h
    rcases i with _ | i; · exact (hx _ (List.mem_singleton.2 rfl)).symm.trans h
    rcases i with _ | i; · exact (hx _ (List.mem_singleton.2 rfl)).symm.trans h
    rcases i with _ | i; · exact (hx _ (List.mem_singleton.2 rfl)).symm.trans h
    rcases i with _ | i; · exact (hx _ (List.mem_singleton.2 rfl)).symm.trans h
    rcases i with _ | i; · exact (hx _ (List.mem_singleton.2 rfl)).symm.trans h
    rcases i with _ | i; · exact (hx _ (List.mem_singleton.2 rfl)).symm.trans h
    rcases i with _ | i; · exact (hx _ (List.mem_singleton.2 rfl)).symm.trans h
    rcases i with _ | i; · exact (hx _ (List.mem_singleton.2 rfl)).symm.trans h
    rcases i with _ | i; · exact h
    exact h
  case pstep =>
    intro i o ho a' w' l hl hr hq hsa hS hd
    match i, ho, hl, hr, hq with
    | 0, ho, hl, hr, hq =>
      obtain rfl := Option.some.inj ho
      try dsimp only at hd
      have g15 : a'.tmps.getD 15 undef = .slice (some ⟨tg, 0, none⟩) m m := hsa.rest 15 (by rfl)
      have hT : ((fun (x y : Bool) (W : World) => (x = false → W = wq.drew) ∧ (x = true → y = false → W = wq.drew.alloc (.cells #[.int .i64 0, .int .i64 0, .slice none 0 0] 57)) ∧ (y = true → W = ((((wq.drew.alloc (.cells #[.int .i64 0, .int .i64 0, .slice none 0 0] 57)).setCell ⟨wq.heap.size, 0, none⟩ (.int .i64 (at0 : Int))).setCell ⟨wq.heap.size, 1, none⟩ (.int .i64 (su : Int))).setCell ⟨wq.heap.size, 2, none⟩ (.slice ao n cp))))) (l 14) false w' := by have h := hS; rw [hq 15 (by kernel_rfl)] at h; exact h
      refine wpOp_of rfl rfl ?_
      have HT9 := hide hT
      clear hT hS
      refine op_run (v := .slice (some ⟨tg, 0, none⟩) m m) (w' := w') ?_ ⟨_, rfl, ?_, (by show ((fun (x y : Bool) (W : World) => (x = false → W = wq.drew) ∧ (x = true → y = false → W = wq.drew.alloc (.cells #[.int .i64 0, .int .i64 0, .slice none 0 0] 57)) ∧ (y = true → W = ((((wq.drew.alloc (.cells #[.int .i64 0, .int .i64 0, .slice none 0 0] 57)).setCell ⟨wq.heap.size, 0, none⟩ (.int .i64 (at0 : Int))).setCell ⟨wq.heap.size, 1, none⟩ (.int .i64 (su : Int))).setCell ⟨wq.heap.size, 2, none⟩ (.slice ao n cp))))) _ _ _; rw [updL_other l (show 14 ≠ 0 by decide), updL_other l (show 15 ≠ 0 by decide)]; rw [hq 15 (by kernel_rfl)]; exact HT9.out)⟩
      · simp only [execOp, Act.eval, g15]; first | (go_simp; done) | rfl
      · try dsimp only
        exact (slots_put (ns := 198) (hsa.size.trans rfl) (by decide))
    | 1, ho, hl, hr, hq =>
      obtain rfl := Option.some.inj ho
      try dsimp only at hd
      have g19 : a'.tmps.getD 19 undef = .int .i64 (wi : Int) := hsa.rest 19 (by rfl)
      have hT : ((fun (x y : Bool) (W : World) => (x = false → W = wq.drew) ∧ (x = true → y = false → W = wq.drew.alloc (.cells #[.int .i64 0, .int .i64 0, .slice none 0 0] 57)) ∧ (y = true → W = ((((wq.drew.alloc (.cells #[.int .i64 0, .int .i64 0, .slice none 0 0] 57)).setCell ⟨wq.heap.size, 0, none⟩ (.int .i64 (at0 : Int))).setCell ⟨wq.heap.size, 1, none⟩ (.int .i64 (su : Int))).setCell ⟨wq.heap.size, 2, none⟩ (.slice ao n cp))))) (l 14) false w' := by have h := hS; rw [hq 15 (by kernel_rfl)] at h; exact h
      refine wpOp_of rfl rfl ?_
      have HT9 := hide hT
      clear hT hS
      refine op_run (v := .int .i64 (wi : Int)) (w' := w') ?_ ⟨_, rfl, ?_, (by show ((fun (x y : Bool) (W : World) => (x = false → W = wq.drew) ∧ (x = true → y = false → W = wq.drew.alloc (.cells #[.int .i64 0, .int .i64 0, .slice none 0 0] 57)) ∧ (y = true → W = ((((wq.drew.alloc (.cells #[.int .i64 0, .int .i64 0, .slice none 0 0] 57)).setCell ⟨wq.heap.size, 0, none⟩ (.int .i64 (at0 : Int))).setCell ⟨wq.heap.size, 1, none⟩ (.int .i64 (su : Int))).setCell ⟨wq.heap.size, 2, none⟩ (.slice ao n cp))))) _ _ _; rw [updL_other l (show 14 ≠ 1 by decide), updL_other l (show 15 ≠ 1 by decide)]; rw [hq 15 (by kernel_rfl)]; exact HT9.out)⟩
      · simp only [execOp, Act.eval, g19]; first | (go_simp; done) | rfl
      · try dsimp only
        exact (slots_put (ns := 198) (hsa.size.trans rfl) (by decide))
    | 2, ho, hl, hr, hq =>
      obtain rfl := Option.some.inj ho
      try dsimp only at hd
      have d0 : a'.tmps.getD 150 undef = .slice (some ⟨tg, 0, none⟩) m m := hd 0 (by rfl)
      have d1 : a'.tmps.getD 151 undef = .int .i64 (wi : Int) := hd 1 (by rfl)
      have hT : ((fun (x y : Bool) (W : World) => (x = false → W = wq.drew) ∧ (x = true → y = false → W = wq.drew.alloc (.cells #[.int .i64 0, .int .i64 0, .slice none 0 0] 57)) ∧ (y = true → W = ((((wq.drew.alloc (.cells #[.int .i64 0, .int .i64 0, .slice none 0 0] 57)).setCell ⟨wq.heap.size, 0, none⟩ (.int .i64 (at0 : Int))).setCell ⟨wq.heap.size, 1, none⟩ (.int .i64 (su : Int))).setCell ⟨wq.heap.size, 2, none⟩ (.slice ao n cp))))) (l 14) false w' := by have h := hS; rw [hq 15 (by kernel_rfl)] at h; exact h
      refine wpOp_of rfl rfl ?_
      have HT9 := hide hT
      clear hT hS
      refine op_run (v := .pointer (some ⟨tg, wi, none⟩)) (w' := w') ?_ ⟨_, rfl, ?_, (by show ((fun (x y : Bool) (W : World) => (x = false → W = wq.drew) ∧ (x = true → y = false → W = wq.drew.alloc (.cells #[.int .i64 0, .int .i64 0, .slice none 0 0] 57)) ∧ (y = true → W = ((((wq.drew.alloc (.cells #[.int .i64 0, .int .i64 0, .slice none 0 0] 57)).setCell ⟨wq.heap.size, 0, none⟩ (.int .i64 (at0 : Int))).setCell ⟨wq.heap.size, 1, none⟩ (.int .i64 (su : Int))).setCell ⟨wq.heap.size, 2, none⟩ (.slice ao n cp))))) _ _ _; rw [updL_other l (show 14 ≠ 2 by decide), updL_other l (show 15 ≠ 2 by decide)]; rw [hq 15 (by kernel_rfl)]; exact HT9.out)⟩
      · simp only [execOp, Act.eval, d0, d1]; first | (go_simp; done) | rfl
      · try dsimp only
        exact (slots_put (ns := 198) (hsa.size.trans rfl) (by decide))
    | 3, ho, hl, hr, hq =>
      obtain rfl := Option.some.inj ho
      try dsimp only at hd
      have d2 : a'.tmps.getD 152 undef = .pointer (some ⟨tg, wi, none⟩) := hd 2 (by rfl)
      have hT : ((fun (x y : Bool) (W : World) => (x = false → W = wq.drew) ∧ (x = true → y = false → W = wq.drew.alloc (.cells #[.int .i64 0, .int .i64 0, .slice none 0 0] 57)) ∧ (y = true → W = ((((wq.drew.alloc (.cells #[.int .i64 0, .int .i64 0, .slice none 0 0] 57)).setCell ⟨wq.heap.size, 0, none⟩ (.int .i64 (at0 : Int))).setCell ⟨wq.heap.size, 1, none⟩ (.int .i64 (su : Int))).setCell ⟨wq.heap.size, 2, none⟩ (.slice ao n cp))))) (l 14) false w' := by have h := hS; rw [hq 15 (by kernel_rfl)] at h; exact h
      refine wpOp_of rfl rfl ?_
      have y : w'.cell? ⟨tg, wi, none⟩ = some (.slice (some ⟨eb, 0, none⟩) k0 tc0) := by
        cases hb14 : l 14 with
        | false => rw [hb14] at hT; rw [hT.1 rfl]; exact c1
        | true => rw [hb14] at hT; rw [hT.2.1 rfl rfl]; exact Lib.cell?_alloc_some _ c1
      have HT9 := hide hT
      clear hT hS
      refine op_run (v := .slice (some ⟨eb, 0, none⟩) k0 tc0) (w' := w') ?_ ⟨_, rfl, ?_, (by show ((fun (x y : Bool) (W : World) => (x = false → W = wq.drew) ∧ (x = true → y = false → W = wq.drew.alloc (.cells #[.int .i64 0, .int .i64 0, .slice none 0 0] 57)) ∧ (y = true → W = ((((wq.drew.alloc (.cells #[.int .i64 0, .int .i64 0, .slice none 0 0] 57)).setCell ⟨wq.heap.size, 0, none⟩ (.int .i64 (at0 : Int))).setCell ⟨wq.heap.size, 1, none⟩ (.int .i64 (su : Int))).setCell ⟨wq.heap.size, 2, none⟩ (.slice ao n cp))))) _ _ _; rw [updL_other l (show 14 ≠ 3 by decide), updL_other l (show 15 ≠ 3 by decide)]; rw [hq 15 (by kernel_rfl)]; exact HT9.out)⟩
      · simp only [execOp, Act.eval, d2, y]; first | (go_simp; done) | rfl
      · try dsimp only
        exact (slots_put (ns := 198) (hsa.size.trans rfl) (by decide))
    | 4, ho, hl, hr, hq =>
      obtain rfl := Option.some.inj ho
      try dsimp only at hd
      have g18 : a'.tmps.getD 18 undef = .pointer (some ⟨cb, 0, none⟩) := hsa.rest 18 (by rfl)
      have hT : ((fun (x y : Bool) (W : World) => (x = false → W = wq.drew) ∧ (x = true → y = false → W = wq.drew.alloc (.cells #[.int .i64 0, .int .i64 0, .slice none 0 0] 57)) ∧ (y = true → W = ((((wq.drew.alloc (.cells #[.int .i64 0, .int .i64 0, .slice none 0 0] 57)).setCell ⟨wq.heap.size, 0, none⟩ (.int .i64 (at0 : Int))).setCell ⟨wq.heap.size, 1, none⟩ (.int .i64 (su : Int))).setCell ⟨wq.heap.size, 2, none⟩ (.slice ao n cp))))) (l 14) false w' := by have h := hS; rw [hq 15 (by kernel_rfl)] at h; exact h
      refine wpOp_of rfl rfl ?_
      have HT9 := hide hT
      clear hT hS
      refine op_run (v := .pointer (some ⟨cb, 3, none⟩)) (w' := w') ?_ ⟨_, rfl, ?_, (by show ((fun (x y : Bool) (W : World) => (x = false → W = wq.drew) ∧ (x = true → y = false → W = wq.drew.alloc (.cells #[.int .i64 0, .int .i64 0, .slice none 0 0] 57)) ∧ (y = true → W = ((((wq.drew.alloc (.cells #[.int .i64 0, .int .i64 0, .slice none 0 0] 57)).setCell ⟨wq.heap.size, 0, none⟩ (.int .i64 (at0 : Int))).setCell ⟨wq.heap.size, 1, none⟩ (.int .i64 (su : Int))).setCell ⟨wq.heap.size, 2, none⟩ (.slice ao n cp))))) _ _ _; rw [updL_other l (show 14 ≠ 4 by decide), updL_other l (show 15 ≠ 4 by decide)]; rw [hq 15 (by kernel_rfl)]; exact HT9.out)⟩
      · simp only [execOp, Act.eval, g18]; first | (go_simp; done) | rfl
      · try dsimp only
        exact (slots_put (ns := 198) (hsa.size.trans rfl) (by decide))
    | 5, ho, hl, hr, hq =>
      obtain rfl := Option.some.inj ho
      try dsimp only at hd
      have d4 : a'.tmps.getD 154 undef = .pointer (some ⟨cb, 3, none⟩) := hd 4 (by rfl)
      have hT : ((fun (x y : Bool) (W : World) => (x = false → W = wq.drew) ∧ (x = true → y = false → W = wq.drew.alloc (.cells #[.int .i64 0, .int .i64 0, .slice none 0 0] 57)) ∧ (y = true → W = ((((wq.drew.alloc (.cells #[.int .i64 0, .int .i64 0, .slice none 0 0] 57)).setCell ⟨wq.heap.size, 0, none⟩ (.int .i64 (at0 : Int))).setCell ⟨wq.heap.size, 1, none⟩ (.int .i64 (su : Int))).setCell ⟨wq.heap.size, 2, none⟩ (.slice ao n cp))))) (l 14) false w' := by have h := hS; rw [hq 15 (by kernel_rfl)] at h; exact h
      refine wpOp_of rfl rfl ?_
      have y : w'.cell? ⟨cb, 3, none⟩ = some (.int .i64 d.i) := by
        cases hb14 : l 14 with
        | false => rw [hb14] at hT; rw [hT.1 rfl]; exact c9
        | true => rw [hb14] at hT; rw [hT.2.1 rfl rfl]; exact Lib.cell?_alloc_some _ c9
      have HT9 := hide hT
      clear hT hS
      refine op_run (v := .int .i64 d.i) (w' := w') ?_ ⟨_, rfl, ?_, (by show ((fun (x y : Bool) (W : World) => (x = false → W = wq.drew) ∧ (x = true → y = false → W = wq.drew.alloc (.cells #[.int .i64 0, .int .i64 0, .slice none 0 0] 57)) ∧ (y = true → W = ((((wq.drew.alloc (.cells #[.int .i64 0, .int .i64 0, .slice none 0 0] 57)).setCell ⟨wq.heap.size, 0, none⟩ (.int .i64 (at0 : Int))).setCell ⟨wq.heap.size, 1, none⟩ (.int .i64 (su : Int))).setCell ⟨wq.heap.size, 2, none⟩ (.slice ao n cp))))) _ _ _; rw [updL_other l (show 14 ≠ 5 by decide), updL_other l (show 15 ≠ 5 by decide)]; rw [hq 15 (by kernel_rfl)]; exact HT9.out)⟩
      · simp only [execOp, Act.eval, d4, y]; first | (go_simp; done) | rfl
      · try dsimp only
        exact (slots_put (ns := 198) (hsa.size.trans rfl) (by decide))
    | 6, ho, hl, hr, hq =>
      obtain rfl := Option.some.inj ho
      try dsimp only at hd
      have g15 : a'.tmps.getD 15 undef = .slice (some ⟨tg, 0, none⟩) m m := hsa.rest 15 (by rfl)
      have hT : ((fun (x y : Bool) (W : World) => (x = false → W = wq.drew) ∧ (x = true → y = false → W = wq.drew.alloc (.cells #[.int .i64 0, .int .i64 0, .slice none 0 0] 57)) ∧ (y = true → W = ((((wq.drew.alloc (.cells #[.int .i64 0, .int .i64 0, .slice none 0 0] 57)).setCell ⟨wq.heap.size, 0, none⟩ (.int .i64 (at0 : Int))).setCell ⟨wq.heap.size, 1, none⟩ (.int .i64 (su : Int))).setCell ⟨wq.heap.size, 2, none⟩ (.slice ao n cp))))) (l 14) false w' := by have h := hS; rw [hq 15 (by kernel_rfl)] at h; exact h
      refine wpOp_of rfl rfl ?_
      have HT9 := hide hT
      clear hT hS
      refine op_run (v := .slice (some ⟨tg, 0, none⟩) m m) (w' := w') ?_ ⟨_, rfl, ?_, (by show ((fun (x y : Bool) (W : World) => (x = false → W = wq.drew) ∧ (x = true → y = false → W = wq.drew.alloc (.cells #[.int .i64 0, .int .i64 0, .slice none 0 0] 57)) ∧ (y = true → W = ((((wq.drew.alloc (.cells #[.int .i64 0, .int .i64 0, .slice none 0 0] 57)).setCell ⟨wq.heap.size, 0, none⟩ (.int .i64 (at0 : Int))).setCell ⟨wq.heap.size, 1, none⟩ (.int .i64 (su : Int))).setCell ⟨wq.heap.size, 2, none⟩ (.slice ao n cp))))) _ _ _; rw [updL_other l (show 14 ≠ 6 by decide), updL_other l (show 15 ≠ 6 by decide)]; rw [hq 15 (by kernel_rfl)]; exact HT9.out)⟩
      · simp only [execOp, Act.eval, g15]; first | (go_simp; done) | rfl
      · try dsimp only
        exact (slots_put (ns := 198) (hsa.size.trans rfl) (by decide))
    | 7, ho, hl, hr, hq =>
      obtain rfl := Option.some.inj ho
      try dsimp only at hd
      have g19 : a'.tmps.getD 19 undef = .int .i64 (wi : Int) := hsa.rest 19 (by rfl)
      have hT : ((fun (x y : Bool) (W : World) => (x = false → W = wq.drew) ∧ (x = true → y = false → W = wq.drew.alloc (.cells #[.int .i64 0, .int .i64 0, .slice none 0 0] 57)) ∧ (y = true → W = ((((wq.drew.alloc (.cells #[.int .i64 0, .int .i64 0, .slice none 0 0] 57)).setCell ⟨wq.heap.size, 0, none⟩ (.int .i64 (at0 : Int))).setCell ⟨wq.heap.size, 1, none⟩ (.int .i64 (su : Int))).setCell ⟨wq.heap.size, 2, none⟩ (.slice ao n cp))))) (l 14) false w' := by have h := hS; rw [hq 15 (by kernel_rfl)] at h; exact h
      refine wpOp_of rfl rfl ?_
      have HT9 := hide hT
      clear hT hS
      refine op_run (v := .int .i64 (wi : Int)) (w' := w') ?_ ⟨_, rfl, ?_, (by show ((fun (x y : Bool) (W : World) => (x = false → W = wq.drew) ∧ (x = true → y = false → W = wq.drew.alloc (.cells #[.int .i64 0, .int .i64 0, .slice none 0 0] 57)) ∧ (y = true → W = ((((wq.drew.alloc (.cells #[.int .i64 0, .int .i64 0, .slice none 0 0] 57)).setCell ⟨wq.heap.size, 0, none⟩ (.int .i64 (at0 : Int))).setCell ⟨wq.heap.size, 1, none⟩ (.int .i64 (su : Int))).setCell ⟨wq.heap.size, 2, none⟩ (.slice ao n cp))))) _ _ _; rw [updL_other l (show 14 ≠ 7 by decide), updL_other l (show 15 ≠ 7 by decide)]; rw [hq 15 (by kernel_rfl)]; exact HT9.out)⟩
      · simp only [execOp, Act.eval, g19]; first | (go_simp; done) | rfl
      · try dsimp only
        exact (slots_put (ns := 198) (hsa.size.trans rfl) (by decide))
    | 8, ho, hl, hr, hq =>
      obtain rfl := Option.some.inj ho
      try dsimp only at hd
      have d6 : a'.tmps.getD 156 undef = .slice (some ⟨tg, 0, none⟩) m m := hd 6 (by rfl)
      have d7 : a'.tmps.getD 157 undef = .int .i64 (wi : Int) := hd 7 (by rfl)
      have hT : ((fun (x y : Bool) (W : World) => (x = false → W = wq.drew) ∧ (x = true → y = false → W = wq.drew.alloc (.cells #[.int .i64 0, .int .i64 0, .slice none 0 0] 57)) ∧ (y = true → W = ((((wq.drew.alloc (.cells #[.int .i64 0, .int .i64 0, .slice none 0 0] 57)).setCell ⟨wq.heap.size, 0, none⟩ (.int .i64 (at0 : Int))).setCell ⟨wq.heap.size, 1, none⟩ (.int .i64 (su : Int))).setCell ⟨wq.heap.size, 2, none⟩ (.slice ao n cp))))) (l 14) false w' := by have h := hS; rw [hq 15 (by kernel_rfl)] at h; exact h
      refine wpOp_of rfl rfl ?_
      have HT9 := hide hT
      clear hT hS
      refine op_run (v := .pointer (some ⟨tg, wi, none⟩)) (w' := w') ?_ ⟨_, rfl, ?_, (by show ((fun (x y : Bool) (W : World) => (x = false → W = wq.drew) ∧ (x = true → y = false → W = wq.drew.alloc (.cells #[.int .i64 0, .int .i64 0, .slice none 0 0] 57)) ∧ (y = true → W = ((((wq.drew.alloc (.cells #[.int .i64 0, .int .i64 0, .slice none 0 0] 57)).setCell ⟨wq.heap.size, 0, none⟩ (.int .i64 (at0 : Int))).setCell ⟨wq.heap.size, 1, none⟩ (.int .i64 (su : Int))).setCell ⟨wq.heap.size, 2, none⟩ (.slice ao n cp))))) _ _ _; rw [updL_other l (show 14 ≠ 8 by decide), updL_other l (show 15 ≠ 8 by decide)]; rw [hq 15 (by kernel_rfl)]; exact HT9.out)⟩
      · simp only [execOp, Act.eval, d6, d7]; first | (go_simp; done) | rfl
      · try dsimp only
        exact (slots_put (ns := 198) (hsa.size.trans rfl) (by decide))
    | 9, ho, hl, hr, hq =>
      obtain rfl := Option.some.inj ho
      try dsimp only at hd
      have d8 : a'.tmps.getD 158 undef = .pointer (some ⟨tg, wi, none⟩) := hd 8 (by rfl)
      have hT : ((fun (x y : Bool) (W : World) => (x = false → W = wq.drew) ∧ (x = true → y = false → W = wq.drew.alloc (.cells #[.int .i64 0, .int .i64 0, .slice none 0 0] 57)) ∧ (y = true → W = ((((wq.drew.alloc (.cells #[.int .i64 0, .int .i64 0, .slice none 0 0] 57)).setCell ⟨wq.heap.size, 0, none⟩ (.int .i64 (at0 : Int))).setCell ⟨wq.heap.size, 1, none⟩ (.int .i64 (su : Int))).setCell ⟨wq.heap.size, 2, none⟩ (.slice ao n cp))))) (l 14) false w' := by have h := hS; rw [hq 15 (by kernel_rfl)] at h; exact h
      refine wpOp_of rfl rfl ?_
      have y : w'.cell? ⟨tg, wi, none⟩ = some (.slice (some ⟨eb, 0, none⟩) k0 tc0) := by
        cases hb14 : l 14 with
        | false => rw [hb14] at hT; rw [hT.1 rfl]; exact c1
        | true => rw [hb14] at hT; rw [hT.2.1 rfl rfl]; exact Lib.cell?_alloc_some _ c1
      have HT9 := hide hT
      clear hT hS
      refine op_run (v := .slice (some ⟨eb, 0, none⟩) k0 tc0) (w' := w') ?_ ⟨_, rfl, ?_, (by show ((fun (x y : Bool) (W : World) => (x = false → W = wq.drew) ∧ (x = true → y = false → W = wq.drew.alloc (.cells #[.int .i64 0, .int .i64 0, .slice none 0 0] 57)) ∧ (y = true → W = ((((wq.drew.alloc (.cells #[.int .i64 0, .int .i64 0, .slice none 0 0] 57)).setCell ⟨wq.heap.size, 0, none⟩ (.int .i64 (at0 : Int))).setCell ⟨wq.heap.size, 1, none⟩ (.int .i64 (su : Int))).setCell ⟨wq.heap.size, 2, none⟩ (.slice ao n cp))))) _ _ _; rw [updL_other l (show 14 ≠ 9 by decide), updL_other l (show 15 ≠ 9 by decide)]; rw [hq 15 (by kernel_rfl)]; exact HT9.out)⟩
      · simp only [execOp, Act.eval, d8, y]; first | (go_simp; done) | rfl
      · try dsimp only
        exact (slots_put (ns := 198) (hsa.size.trans rfl) (by decide))
    | 10, ho, hl, hr, hq =>
      obtain rfl := Option.some.inj ho
      try dsimp only at hd
      have d9 : a'.tmps.getD 159 undef = .slice (some ⟨eb, 0, none⟩) k0 tc0 := hd 9 (by rfl)
      have hT : ((fun (x y : Bool) (W : World) => (x = false → W = wq.drew) ∧ (x = true → y = false → W = wq.drew.alloc (.cells #[.int .i64 0, .int .i64 0, .slice none 0 0] 57)) ∧ (y = true → W = ((((wq.drew.alloc (.cells #[.int .i64 0, .int .i64 0, .slice none 0 0] 57)).setCell ⟨wq.heap.size, 0, none⟩ (.int .i64 (at0 : Int))).setCell ⟨wq.heap.size, 1, none⟩ (.int .i64 (su : Int))).setCell ⟨wq.heap.size, 2, none⟩ (.slice ao n cp))))) (l 14) false w' := by have h := hS; rw [hq 15 (by kernel_rfl)] at h; exact h
      refine wpOp_of rfl rfl ?_
      have HT9 := hide hT
      clear hT hS
      refine op_run (v := .int .i64 (k0 : Int)) (w' := w') ?_ ⟨_, rfl, ?_, (by show ((fun (x y : Bool) (W : World) => (x = false → W = wq.drew) ∧ (x = true → y = false → W = wq.drew.alloc (.cells #[.int .i64 0, .int .i64 0, .slice none 0 0] 57)) ∧ (y = true → W = ((((wq.drew.alloc (.cells #[.int .i64 0, .int .i64 0, .slice none 0 0] 57)).setCell ⟨wq.heap.size, 0, none⟩ (.int .i64 (at0 : Int))).setCell ⟨wq.heap.size, 1, none⟩ (.int .i64 (su : Int))).setCell ⟨wq.heap.size, 2, none⟩ (.slice ao n cp))))) _ _ _; rw [updL_other l (show 14 ≠ 10 by decide), updL_other l (show 15 ≠ 10 by decide)]; rw [hq 15 (by kernel_rfl)]; exact HT9.out)⟩
      · simp only [execOp, Act.eval, d9]; first | (go_simp; done) | rfl
      · try dsimp only
        exact (slots_put (ns := 198) (hsa.size.trans rfl) (by decide))
    | 11, ho, hl, hr, hq =>
      obtain rfl := Option.some.inj ho
      try dsimp only at hd
      have d5 : a'.tmps.getD 155 undef = .int .i64 d.i := hd 5 (by rfl)
      have d10 : a'.tmps.getD 160 undef = .int .i64 (k0 : Int) := hd 10 (by rfl)
      have hT : ((fun (x y : Bool) (W : World) => (x = false → W = wq.drew) ∧ (x = true → y = false → W = wq.drew.alloc (.cells #[.int .i64 0, .int .i64 0, .slice none 0 0] 57)) ∧ (y = true → W = ((((wq.drew.alloc (.cells #[.int .i64 0, .int .i64 0, .slice none 0 0] 57)).setCell ⟨wq.heap.size, 0, none⟩ (.int .i64 (at0 : Int))).setCell ⟨wq.heap.size, 1, none⟩ (.int .i64 (su : Int))).setCell ⟨wq.heap.size, 2, none⟩ (.slice ao n cp))))) (l 14) false w' := by have h := hS; rw [hq 15 (by kernel_rfl)] at h; exact h
      refine wpOp_of rfl rfl ?_
      refine op_call 12 _ _ rfl (enters_of Try.func12 (by kernel_rfl) rfl) [.int .i64 d.i, .int .i64 (k0 : Int)] (by simp only [List.map, Act.eval, d5, d10]) (HP.out w') ?_
      rintro e w'' ⟨rfl, rfl⟩
      refine ⟨_, rfl, _, rfl, (slots_put (ns := 198) (hsa.size.trans rfl) (by decide)), (by show ((fun (x y : Bool) (W : World) => (x = false → W = wq.drew) ∧ (x = true → y = false → W = wq.drew.alloc (.cells #[.int .i64 0, .int .i64 0, .slice none 0 0] 57)) ∧ (y = true → W = ((((wq.drew.alloc (.cells #[.int .i64 0, .int .i64 0, .slice none 0 0] 57)).setCell ⟨wq.heap.size, 0, none⟩ (.int .i64 (at0 : Int))).setCell ⟨wq.heap.size, 1, none⟩ (.int .i64 (su : Int))).setCell ⟨wq.heap.size, 2, none⟩ (.slice ao n cp))))) _ _ _; rw [updL_other l (show 14 ≠ 11 by decide), updL_other l (show 15 ≠ 11 by decide)]; rw [hq 15 (by kernel_rfl)]; exact hT)⟩
    | 12, ho, hl, hr, hq =>
      obtain rfl := Option.some.inj ho
      try dsimp only at hd
      have d3 : a'.tmps.getD 153 undef = .slice (some ⟨eb, 0, none⟩) k0 tc0 := hd 3 (by rfl)
      have d11 : a'.tmps.getD 161 undef = .int .i64 (pk : Int) := hd 11 (by rfl)
      have hT : ((fun (x y : Bool) (W : World) => (x = false → W = wq.drew) ∧ (x = true → y = false → W = wq.drew.alloc (.cells #[.int .i64 0, .int .i64 0, .slice none 0 0] 57)) ∧ (y = true → W = ((((wq.drew.alloc (.cells #[.int .i64 0, .int .i64 0, .slice none 0 0] 57)).setCell ⟨wq.heap.size, 0, none⟩ (.int .i64 (at0 : Int))).setCell ⟨wq.heap.size, 1, none⟩ (.int .i64 (su : Int))).setCell ⟨wq.heap.size, 2, none⟩ (.slice ao n cp))))) (l 14) false w' := by have h := hS; rw [hq 15 (by kernel_rfl)] at h; exact h
      refine wpOp_of rfl rfl ?_
      have HT9 := hide hT
      clear hT hS
      refine op_run (v := .pointer (some ⟨eb, pk * 3, none⟩)) (w' := w') ?_ ⟨_, rfl, ?_, (by show ((fun (x y : Bool) (W : World) => (x = false → W = wq.drew) ∧ (x = true → y = false → W = wq.drew.alloc (.cells #[.int .i64 0, .int .i64 0, .slice none 0 0] 57)) ∧ (y = true → W = ((((wq.drew.alloc (.cells #[.int .i64 0, .int .i64 0, .slice none 0 0] 57)).setCell ⟨wq.heap.size, 0, none⟩ (.int .i64 (at0 : Int))).setCell ⟨wq.heap.size, 1, none⟩ (.int .i64 (su : Int))).setCell ⟨wq.heap.size, 2, none⟩ (.slice ao n cp))))) _ _ _; rw [updL_other l (show 14 ≠ 12 by decide), updL_other l (show 15 ≠ 12 by decide)]; rw [hq 15 (by kernel_rfl)]; exact HT9.out)⟩
      · simp only [execOp, Act.eval, d3, d11]; first | (go_simp; done) | rfl
      · try dsimp only
        exact (slots_put (ns := 198) (hsa.size.trans rfl) (by decide))
    | 13, ho, hl, hr, hq =>
      obtain rfl := Option.some.inj ho
      try dsimp only at hd
      have d12 : a'.tmps.getD 162 undef = .pointer (some ⟨eb, pk * 3, none⟩) := hd 12 (by rfl)
      have hT : ((fun (x y : Bool) (W : World) => (x = false → W = wq.drew) ∧ (x = true → y = false → W = wq.drew.alloc (.cells #[.int .i64 0, .int .i64 0, .slice none 0 0] 57)) ∧ (y = true → W = ((((wq.drew.alloc (.cells #[.int .i64 0, .int .i64 0, .slice none 0 0] 57)).setCell ⟨wq.heap.size, 0, none⟩ (.int .i64 (at0 : Int))).setCell ⟨wq.heap.size, 1, none⟩ (.int .i64 (su : Int))).setCell ⟨wq.heap.size, 2, none⟩ (.slice ao n cp))))) (l 14) false w' := by have h := hS; rw [hq 15 (by kernel_rfl)] at h; exact h
      refine wpOp_of rfl rfl ?_
      have y0 : w'.cell? ⟨eb, pk * 3, none⟩ = some (.int .i64 (at0 : Int)) := by
        cases hb14 : l 14 with
        | false => rw [hb14] at hT; rw [hT.1 rfl]; exact e0
        | true => rw [hb14] at hT; rw [hT.2.1 rfl rfl]; exact Lib.cell?_alloc_some _ e0
      have y1 : w'.cell? ⟨eb, pk * 3 + 1, none⟩ = some (.int .i64 (su : Int)) := by
        cases hb14 : l 14 with
        | false => rw [hb14] at hT; rw [hT.1 rfl]; exact e1
        | true => rw [hb14] at hT; rw [hT.2.1 rfl rfl]; exact Lib.cell?_alloc_some _ e1
      have y2 : w'.cell? ⟨eb, pk * 3 + 2, none⟩ = some (.slice ao n cp) := by
        cases hb14 : l 14 with
        | false => rw [hb14] at hT; rw [hT.1 rfl]; exact e2
        | true => rw [hb14] at hT; rw [hT.2.1 rfl rfl]; exact Lib.cell?_alloc_some _ e2
      have HT9 := hide hT
      clear hT hS
      refine op_run (v := .agg #[.int .i64 (at0 : Int), .int .i64 (su : Int), .slice ao n cp]) (w' := w') ?_ ⟨_, rfl, ?_, (by show ((fun (x y : Bool) (W : World) => (x = false → W = wq.drew) ∧ (x = true → y = false → W = wq.drew.alloc (.cells #[.int .i64 0, .int .i64 0, .slice none 0 0] 57)) ∧ (y = true → W = ((((wq.drew.alloc (.cells #[.int .i64 0, .int .i64 0, .slice none 0 0] 57)).setCell ⟨wq.heap.size, 0, none⟩ (.int .i64 (at0 : Int))).setCell ⟨wq.heap.size, 1, none⟩ (.int .i64 (su : Int))).setCell ⟨wq.heap.size, 2, none⟩ (.slice ao n cp))))) _ _ _; rw [updL_other l (show 14 ≠ 13 by decide), updL_other l (show 15 ≠ 13 by decide)]; rw [hq 15 (by kernel_rfl)]; exact HT9.out)⟩
      · simp only [execOp, Act.eval, d12, y0, y1, y2]; first | (go_simp; done) | rfl
      · try dsimp only
        exact (slots_put (ns := 198) (hsa.size.trans rfl) (by decide))
    | 14, ho, hl, hr, hq =>
      obtain rfl := Option.some.inj ho
      try dsimp only at hd
      have hT : ((fun (x y : Bool) (W : World) => (x = false → W = wq.drew) ∧ (x = true → y = false → W = wq.drew.alloc (.cells #[.int .i64 0, .int .i64 0, .slice none 0 0] 57)) ∧ (y = true → W = ((((wq.drew.alloc (.cells #[.int .i64 0, .int .i64 0, .slice none 0 0] 57)).setCell ⟨wq.heap.size, 0, none⟩ (.int .i64 (at0 : Int))).setCell ⟨wq.heap.size, 1, none⟩ (.int .i64 (su : Int))).setCell ⟨wq.heap.size, 2, none⟩ (.slice ao n cp))))) false false w' := by have h := hS; rw [hl, hq 15 (by kernel_rfl)] at h; exact h
      refine wpOp_of rfl rfl ?_
      obtain rfl := hT.1 rfl
      refine op_run (v := .pointer (some ⟨wq.heap.size, 0, none⟩)) (w' := wq.drew.alloc (.cells #[.int .i64 0, .int .i64 0, .slice none 0 0] 57)) ?_ ⟨_, rfl, (slots_put (ns := 198) (hsa.size.trans rfl) (by decide)), (by show ((fun (x y : Bool) (W : World) => (x = false → W = wq.drew) ∧ (x = true → y = false → W = wq.drew.alloc (.cells #[.int .i64 0, .int .i64 0, .slice none 0 0] 57)) ∧ (y = true → W = ((((wq.drew.alloc (.cells #[.int .i64 0, .int .i64 0, .slice none 0 0] 57)).setCell ⟨wq.heap.size, 0, none⟩ (.int .i64 (at0 : Int))).setCell ⟨wq.heap.size, 1, none⟩ (.int .i64 (su : Int))).setCell ⟨wq.heap.size, 2, none⟩ (.slice ao n cp))))) _ _ _; rw [updL_same, updL_other l (show 15 ≠ 14 by decide)]; rw [hq 15 (by kernel_rfl)]; exact ⟨(fun e => by cases e), (fun _ _ => rfl), (fun e => by cases e)⟩)⟩
      simp only [execOp, Act.eval]; first | (go_simp; done) | rfl
    | 15, ho, hl, hr, hq =>
      obtain rfl := Option.some.inj ho
      try dsimp only at hd
      have d13 : a'.tmps.getD 163 undef = .agg #[.int .i64 (at0 : Int), .int .i64 (su : Int), .slice ao n cp] := hd 13 (by rfl)
      have d14 : a'.tmps.getD 22 undef = .pointer (some ⟨wq.heap.size, 0, none⟩) := hd 14 (by rfl)
      have hT : ((fun (x y : Bool) (W : World) => (x = false → W = wq.drew) ∧ (x = true → y = false → W = wq.drew.alloc (.cells #[.int .i64 0, .int .i64 0, .slice none 0 0] 57)) ∧ (y = true → W = ((((wq.drew.alloc (.cells #[.int .i64 0, .int .i64 0, .slice none 0 0] 57)).setCell ⟨wq.heap.size, 0, none⟩ (.int .i64 (at0 : Int))).setCell ⟨wq.heap.size, 1, none⟩ (.int .i64 (su : Int))).setCell ⟨wq.heap.size, 2, none⟩ (.slice ao n cp))))) true false w' := by have h := hS; rw [hr 14 (by kernel_rfl), hl] at h; exact h
      refine wpOp_of rfl rfl ?_
      obtain rfl := hT.2.1 rfl rfl
      have hn := heap_alloc_new wq.drew (.cells #[.int .i64 0, .int .i64 0, .slice none 0 0] 57)
      have n0 := box_cell hn 0 rfl
      have n1 := box_cell hn 1 rfl
      have n2 := box_cell hn 2 rfl
      have p0 := box_free hn 0
      have p1 := box_free hn 1
      have p2 := box_free hn 2
      refine op_skip (w' := ((((wq.drew.alloc (.cells #[.int .i64 0, .int .i64 0, .slice none 0 0] 57)).setCell ⟨wq.heap.size, 0, none⟩ (.int .i64 (at0 : Int))).setCell ⟨wq.heap.size, 1, none⟩ (.int .i64 (su : Int))).setCell ⟨wq.heap.size, 2, none⟩ (.slice ao n cp))) ?_ ⟨undef, rfl, trivial, (by show ((fun (x y : Bool) (W : World) => (x = false → W = wq.drew) ∧ (x = true → y = false → W = wq.drew.alloc (.cells #[.int .i64 0, .int .i64 0, .slice none 0 0] 57)) ∧ (y = true → W = ((((wq.drew.alloc (.cells #[.int .i64 0, .int .i64 0, .slice none 0 0] 57)).setCell ⟨wq.heap.size, 0, none⟩ (.int .i64 (at0 : Int))).setCell ⟨wq.heap.size, 1, none⟩ (.int .i64 (su : Int))).setCell ⟨wq.heap.size, 2, none⟩ (.slice ao n cp))))) _ _ _; rw [updL_other l (show 14 ≠ 15 by decide), updL_same]; rw [hr 14 (by kernel_rfl)]; exact ⟨(fun e => by cases e), (fun _ e => by cases e), (fun _ => rfl)⟩)⟩
      simp only [execOp, Act.eval, d13, d14]; first | (go_simp; done) | rfl
    | (n + 16), ho, _, _, _ => exact absurd ho (by simp)
  case pdone =>
    intro a' w' l hl hsa hS hd
    have hT : ((fun (x y : Bool) (W : World) => (x = false → W = wq.drew) ∧ (x = true → y = false → W = wq.drew.alloc (.cells #[.int .i64 0, .int .i64 0, .slice none 0 0] 57)) ∧ (y = true → W = ((((wq.drew.alloc (.cells #[.int .i64 0, .int .i64 0, .slice none 0 0] 57)).setCell ⟨wq.heap.size, 0, none⟩ (.int .i64 (at0 : Int))).setCell ⟨wq.heap.size, 1, none⟩ (.int .i64 (su : Int))).setCell ⟨wq.heap.size, 2, none⟩ (.slice ao n cp))))) true true w' := by have h := hS; rw [hl 14 (by decide), hl 15 (by decide)] at h; exact h
    have d0 : a'.tmps.getD 150 undef = .slice (some ⟨tg, 0, none⟩) m m := hd 0 (by decide)
    have d1 : a'.tmps.getD 151 undef = .int .i64 (wi : Int) := hd 1 (by decide)
    have d2 : a'.tmps.getD 152 undef = .pointer (some ⟨tg, wi, none⟩) := hd 2 (by decide)
    have d3 : a'.tmps.getD 153 undef = .slice (some ⟨eb, 0, none⟩) k0 tc0 := hd 3 (by decide)
    have d4 : a'.tmps.getD 154 undef = .pointer (some ⟨cb, 3, none⟩) := hd 4 (by decide)
    have d5 : a'.tmps.getD 155 undef = .int .i64 d.i := hd 5 (by decide)
    have d6 : a'.tmps.getD 156 undef = .slice (some ⟨tg, 0, none⟩) m m := hd 6 (by decide)
    have d7 : a'.tmps.getD 157 undef = .int .i64 (wi : Int) := hd 7 (by decide)
    have d8 : a'.tmps.getD 158 undef = .pointer (some ⟨tg, wi, none⟩) := hd 8 (by decide)
    have d9 : a'.tmps.getD 159 undef = .slice (some ⟨eb, 0, none⟩) k0 tc0 := hd 9 (by decide)
    have d10 : a'.tmps.getD 160 undef = .int .i64 (k0 : Int) := hd 10 (by decide)
    have d11 : a'.tmps.getD 161 undef = .int .i64 (pk : Int) := hd 11 (by decide)
    have d12 : a'.tmps.getD 162 undef = .pointer (some ⟨eb, pk * 3, none⟩) := hd 12 (by decide)
    have d13 : a'.tmps.getD 163 undef = .agg #[.int .i64 (at0 : Int), .int .i64 (su : Int), .slice ao n cp] := hd 13 (by decide)
    have d14 : a'.tmps.getD 22 undef = .pointer (some ⟨wq.heap.size, 0, none⟩) := hd 14 (by decide)
    have hn := heap_alloc_new wq.drew (.cells #[.int .i64 0, .int .i64 0, .slice none 0 0] 57)
    rw [hT.2.2 rfl]
    refine HQ.out a' _ ⟨hsa.size.trans rfl, hsa.defers.trans rfl, hsa.rest 0 (by rfl), hsa.rest 1 (by rfl), hsa.rest 2 (by rfl), hsa.rest 6 (by rfl), hsa.rest 7 (by rfl), hsa.rest 8 (by rfl), hsa.rest 9 (by rfl), hsa.rest 10 (by rfl), hsa.rest 11 (by rfl), hsa.rest 12 (by rfl), hsa.rest 13 (by rfl), hsa.rest 14 (by rfl), hsa.rest 15 (by rfl), hsa.rest 16 (by rfl), hsa.rest 17 (by rfl), hsa.rest 18 (by rfl), hsa.rest 19 (by rfl), hsa.rest 20 (by rfl), hsa.rest 21 (by rfl), d14, hsa.rest 23 (by rfl), hsa.rest 24 (by rfl), hsa.rest 89 (by rfl)⟩ ?_ ?_
    · exact xset (xset (xset hn))
    · exact ((((Below.refl wq.heap.size wq).drew.alloc (Nat.le_refl _) _).setCell (Nat.le_refl _) _).setCell (Nat.le_refl _) _).setCell (Nat.le_refl _) _
set_option maxHeartbeats 8000000 in
set_option maxRecDepth 100000 in
theorem aa_r36 {K : Act → World → Prop} {c : Code} (hc : regOf (Try.f4.body.getD .skip) 36 = some c) (a : Act) {v : Vaa} {wq : World}  (hF : Faa a v) (hQ : ∀ a', Faa a' { v with v23 := .int .i64 ((0 : Nat) : Int) } → K a' wq) :
    Code.wp Try.prog c (Exit.then K fun _ _ _ => False) a wq := by
  have HQ := hide hQ
  clear hQ
  obtain ⟨t', d'⟩ := a
  obtain ⟨v0, v1, v2, v6, v7, v8, v9, v10, v11, v12, v13, v14, v15, v16, v17, v18, v19, v20, v21, v22, v23, v24, v89⟩ := v
  obtain ⟨hs1, hd1, q0, q1, q2, q6, q7, q8, q9, q10, q11, q12, q13, q14, q15, q16, q17, q18, q19, q20, q21, q22, q23, q24, q89⟩ := hF
  obtain ⟨u, hu⟩ := frame_aa t' hs1
  simp only at hd1 q0 q1 q2 q6 q7 q8 q9 q10 q11 q12 q13 q14 q15 q16 q17 q18 q19 q20 q21 q22 q23 q24 q89
  subst hu hd1
  have e0 : u 0 = v0 := q0
  have e1 : u 1 = v1 := q1
  have e2 : u 2 = v2 := q2
  have e6 : u 6 = v6 := q6
  have e7 : u 7 = v7 := q7
  have e8 : u 8 = v8 := q8
  have e9 : u 9 = v9 := q9
  have e10 : u 10 = v10 := q10
  have e11 : u 11 = v11 := q11
  have e12 : u 12 = v12 := q12
  have e13 : u 13 = v13 := q13
  have e14 : u 14 = v14 := q14
  have e15 : u 15 = v15 := q15
  have e16 : u 16 = v16 := q16
  have e17 : u 17 = v17 := q17
  have e18 : u 18 = v18 := q18
  have e19 : u 19 = v19 := q19
  have e20 : u 20 = v20 := q20
  have e21 : u 21 = v21 := q21
  have e22 : u 22 = v22 := q22
  have e23 : u 23 = v23 := q23
  have e24 : u 24 = v24 := q24
  have e89 : u 89 = v89 := q89
  rw [e0, e1, e2, e6, e7, e8, e9, e10, e11, e12, e13, e14, e15, e16, e17, e18, e19, e20, e21, e22, e23, e24, e89]
  clear q0 e0 q1 e1 q2 e2 q6 e6 q7 e7 q8 e8 q9 e9 q10 e10 q11 e11 q12 e12 q13 e13 q14 e14 q15 e15 q16 e16 q17 e17 q18 e18 q19 e19 q20 e20 q21 e21 q22 e22 q23 e23 q24 e24 q89 e89 hs1
  simp only [Try.f4, Option.getD_some, regOf] at hc
  injection hc with hc
  subst hc
  go_wp2
  exact HQ.out _ ⟨rfl, rfl, rfl, rfl, rfl, rfl, rfl, rfl, rfl, rfl, rfl, rfl, rfl, rfl, rfl, rfl, rfl, rfl, rfl, rfl, rfl, rfl, rfl, rfl, rfl⟩
set_option maxHeartbeats 8000000 in
set_option maxRecDepth 100000 in
theorem aa_r37 {K : Act → World → Prop} {c : Code} (hc : regOf (Try.f4.body.getD .skip) 37 = some c) (a : Act) {v : Vaa} {wq : World} {xb at0 su n cp k : Nat} {ao : Option Addr} (hF : Faa a v) (h22v : v.v22 = .pointer (some ⟨xb, 0, none⟩)) (h23v : v.v23 = .int .i64 (k : Int)) (hX : wq.heap[xb]? = some (.cells #[.int .i64 (at0 : Int), .int .i64 (su : Int), .slice ao n cp] 57 (0, 0))) (hQ : ∀ a', Faa a' v → a'.tmps.getD 168 undef = .bool (decide ((k : Int) < (n : Int))) → K a' wq) :
    Code.wp Try.prog c (Exit.then K fun _ _ _ => False) a wq := by
  have HQ := hide hQ
  clear hQ
  obtain ⟨t', d'⟩ := a
  obtain ⟨v0, v1, v2, v6, v7, v8, v9, v10, v11, v12, v13, v14, v15, v16, v17, v18, v19, v20, v21, v22, v23, v24, v89⟩ := v
  simp only at h22v h23v HQ
  subst h22v h23v
  obtain ⟨hs1, hd1, q0, q1, q2, q6, q7, q8, q9, q10, q11, q12, q13, q14, q15, q16, q17, q18, q19, q20, q21, q22, q23, q24, q89⟩ := hF
  obtain ⟨u, hu⟩ := frame_aa t' hs1
  simp only at hd1 q0 q1 q2 q6 q7 q8 q9 q10 q11 q12 q13 q14 q15 q16 q17 q18 q19 q20 q21 q22 q23 q24 q89
  subst hu hd1
  have e0 : u 0 = v0 := q0
  have e1 : u 1 = v1 := q1
  have e2 : u 2 = v2 := q2
  have e6 : u 6 = v6 := q6
  have e7 : u 7 = v7 := q7
  have e8 : u 8 = v8 := q8
  have e9 : u 9 = v9 := q9
  have e10 : u 10 = v10 := q10
  have e11 : u 11 = v11 := q11
  have e12 : u 12 = v12 := q12
  have e13 : u 13 = v13 := q13
  have e14 : u 14 = v14 := q14
  have e15 : u 15 = v15 := q15
  have e16 : u 16 = v16 := q16
  have e17 : u 17 = v17 := q17
  have e18 : u 18 = v18 := q18
  have e19 : u 19 = v19 := q19
  have e20 : u 20 = v20 := q20
  have e21 : u 21 = v21 := q21
  have e22 : u 22 = .pointer (some ⟨xb, 0, none⟩) := q22
  have e23 : u 23 = .int .i64 (k : Int) := q23
  have e24 : u 24 = v24 := q24
  have e89 : u 89 = v89 := q89
  rw [e0, e1, e2, e6, e7, e8, e9, e10, e11, e12, e13, e14, e15, e16, e17, e18, e19, e20, e21, e22, e23, e24, e89]
  clear q0 e0 q1 e1 q2 e2 q6 e6 q7 e7 q8 e8 q9 e9 q10 e10 q11 e11 q12 e12 q13 e13 q14 e14 q15 e15 q16 e16 q17 e17 q18 e18 q19 e19 q20 e20 q21 e21 q22 e22 q23 e23 q24 e24 q89 e89 hs1
  simp only [Try.f4, Option.getD_some, regOf] at hc
  injection hc with hc
  subst hc
  have z2 := box_cell hX 2 rfl
  clear hX
  go_wp2
  exact HQ.out _ ⟨rfl, rfl, rfl, rfl, rfl, rfl, rfl, rfl, rfl, rfl, rfl, rfl, rfl, rfl, rfl, rfl, rfl, rfl, rfl, rfl, rfl, rfl, rfl, rfl, rfl⟩ (by first | rfl | (simp; done))
set_option maxHeartbeats 8000000 in
set_option maxRecDepth 100000 in
theorem aa_r39 {K : Act → World → Prop} {c : Code} (hc : regOf (Try.f4.body.getD .skip) 39 = some c) (a : Act) {v : Vaa} {wq : World} {R : World → Prop} {g m oc wi xb at0 su tb tf n cp k : Nat} {a1 : Addr} {s : ByteArray} {r : Bool} (hF : Faa a v) (h11v : v.v11 = .slice (some ⟨g, 0, none⟩) m oc) (h19v : v.v19 = .int .i64 (wi : Int)) (h22v : v.v22 = .pointer (some ⟨xb, 0, none⟩)) (h23v : v.v23 = .int .i64 (k : Int)) (hX : wq.heap[xb]? = some (.cells #[.int .i64 (at0 : Int), .int .i64 (su : Int), .slice (some ⟨tb, tf, none⟩) n cp] 57 (0, 0))) (hw : wi < m) (c0 : wq.cell? ⟨g, wi, none⟩ = some (.pointer (some a1))) (hkn : k < n) (hat : at0 ≤ 1000000) (hkk : k ≤ 1000000) (c1 : wq.cell? ⟨tb, tf + k, none⟩ = some (.string s)) (hE : Calls Try.prog 15 #[.pointer (some a1), .int .i64 ((at0 : Int) + (k : Int)), .string s] wq.drew fun e w' => e = .returned (.bool r) ∧ R w')
    (hQ : ∀ a' w1, Faa a' v → R w1 → K a' w1) :
    Code.wp Try.prog c (Exit.then K fun _ _ _ => False) a wq := by
  have HQ := hide hQ
  clear hQ
  obtain ⟨t', d'⟩ := a
  obtain ⟨v0, v1, v2, v6, v7, v8, v9, v10, v11, v12, v13, v14, v15, v16, v17, v18, v19, v20, v21, v22, v23, v24, v89⟩ := v
  simp only at h11v h19v h22v h23v HQ
  subst h11v h19v h22v h23v
  obtain ⟨hs1, hd1, q0, q1, q2, q6, q7, q8, q9, q10, q11, q12, q13, q14, q15, q16, q17, q18, q19, q20, q21, q22, q23, q24, q89⟩ := hF
  obtain ⟨u, hu⟩ := frame_aa t' hs1
  simp only at hd1 q0 q1 q2 q6 q7 q8 q9 q10 q11 q12 q13 q14 q15 q16 q17 q18 q19 q20 q21 q22 q23 q24 q89
  subst hu hd1
  have e0 : u 0 = v0 := q0
  have e1 : u 1 = v1 := q1
  have e2 : u 2 = v2 := q2
  have e6 : u 6 = v6 := q6
  have e7 : u 7 = v7 := q7
  have e8 : u 8 = v8 := q8
  have e9 : u 9 = v9 := q9
  have e10 : u 10 = v10 := q10
  have e11 : u 11 = .slice (some ⟨g, 0, none⟩) m oc := q11
  have e12 : u 12 = v12 := q12
  have e13 : u 13 = v13 := q13
  have e14 : u 14 = v14 := q14
  have e15 : u 15 = v15 := q15
  have e16 : u 16 = v16 := q16
  have e17 : u 17 = v17 := q17
  have e18 : u 18 = v18 := q18
  have e19 : u 19 = .int .i64 (wi : Int) := q19
  have e20 : u 20 = v20 := q20
  have e21 : u 21 = v21 := q21
  have e22 : u 22 = .pointer (some ⟨xb, 0, none⟩) := q22
  have e23 : u 23 = .int .i64 (k : Int) := q23
  have e24 : u 24 = v24 := q24
  have e89 : u 89 = v89 := q89
  rw [e0, e1, e2, e6, e7, e8, e9, e10, e11, e12, e13, e14, e15, e16, e17, e18, e19, e20, e21, e22, e23, e24, e89]
  clear q0 e0 q1 e1 q2 e2 q6 e6 q7 e7 q8 e8 q9 e9 q10 e10 q11 e11 q12 e12 q13 e13 q14 e14 q15 e15 q16 e16 q17 e17 q18 e18 q19 e19 q20 e20 q21 e21 q22 e22 q23 e23 q24 e24 q89 e89 hs1
  simp only [Try.f4, Option.getD_some, regOf] at hc
  injection hc with hc
  subst hc
  have HE := hide hE
  clear hE
  have j0 : (0 : Int) ≤ (wi : Int) := by omega
  have j1 : (wi : Int) < (m : Int) := by omega
  have i0 : (0 : Int) ≤ (k : Int) := by omega
  have i1 : (k : Int) < (n : Int) := by omega
  refine wp_region_any rfl ?_
  refine wpAny_staged (ns := 198) (uses := (fun i => match i with | 0 => [171] | 1 => [172] | 2 => [173] | 3 => [174] | 4 => [175] | 5 => [176] | 6 => [177] | 7 => [178] | 8 => [179] | 9 => [180] | 10 => [181] | 11 => [182] | 12 => [183] | 13 => [184] | _ => [])) (by kernel_rfl) (by kernel_rfl) (fun l a w => ((fun (x : Bool) (w : World) => (x = false → w = wq.drew) ∧ (x = true → R w))) (l 13) w) ⟨fun _ => rfl, fun e => by cases e⟩ (fun i => match i with | 0 => fun σ => σ 171 = .slice (some ⟨g, 0, none⟩) m oc | 1 => fun σ => σ 172 = .int .i64 (wi : Int) | 2 => fun σ => σ 173 = .pointer (some ⟨g, wi, none⟩) | 3 => fun σ => σ 174 = .pointer (some a1) | 4 => fun σ => σ 175 = .pointer (some ⟨xb, 0, none⟩) | 5 => fun σ => σ 176 = .int .i64 (at0 : Int) | 6 => fun σ => σ 177 = .int .i64 (k : Int) | 7 => fun σ => σ 178 = .int .i64 ((at0 : Int) + (k : Int)) | 8 => fun σ => σ 179 = .pointer (some ⟨xb, 2, none⟩) | 9 => fun σ => σ 180 = .slice (some ⟨tb, tf, none⟩) n cp | 10 => fun σ => σ 181 = .int .i64 (k : Int) | 11 => fun σ => σ 182 = .pointer (some ⟨tb, tf + k, none⟩) | 12 => fun σ => σ 183 = .string s | 13 => fun σ => σ 184 = .bool r | _ => fun _ => True) ?phc ?pstep ?pdone
  case phc =>
    intro i s s' hx h
    rcases i with _ | i; · exact (hx _ (List.mem_singleton.2 rfl)).symm.trans h
    rcases i with _ | i; · exact (hx _ (List.mem_singleton.2 rfl)).symm.trans h
    rcases i with _ | i; · exact (hx _ (List.mem_singleton.2 rfl)).symm.trans h
    rcases i with _ | i; · exact (hx _ (List.mem_singleton.2 rfl)).symm.trans h
    rcases i with _ | i; · exact (hx _ (List.mem_singleton.2 rfl)).symm.trans h
    rcases i with _ | i; · exact (hx _ (List.mem_singleton.2 rfl)).symm.trans h
    rcases i with _ | i; · exact (hx _ (List.mem_singleton.2 rfl)).symm.trans h
    rcases i with _ | i; · exact (hx _ (List.mem_singleton.2 rfl)).symm.trans h
    rcases i with _ | i; · exact (hx _ (List.mem_singleton.2 rfl)).symm.trans h
    rcases i with _ | i; · exact (hx _ (List.mem_singleton.2 rfl)).symm.trans h
    rcases i with _ | i; · exact (hx _ (List.mem_singleton.2 rfl)).symm.trans h
    rcases i with _ | i; · exact (hx _ (List.mem_singleton.2 rfl)).symm.trans h
    rcases i with _ | i; · exact (hx _ (List.mem_singleton.2 rfl)).symm.trans h
    rcases i with _ | i; · exact (hx _ (List.mem_singleton.2 rfl)).symm.trans h
    exact h
  case pstep =>
    intro i o ho a' w' l hl hr hq hsa hS hd
    match i, ho, hl, hr, hq with
    | 0, ho, hl, hr, hq =>
      obtain rfl := Option.some.inj ho
      try dsimp only at hd
      have g11 : a'.tmps.getD 11 undef = .slice (some ⟨g, 0, none⟩) m oc := hsa.rest 11 (by rfl)
      have hT : ((fun (x : Bool) (w : World) => (x = false → w = wq.drew) ∧ (x = true → R w))) false w' := by have h := hS; rw [hq 13 (by kernel_rfl)] at h; exact h
      refine wpOp_of rfl rfl ?_
      have HT9 := hide hT
      clear hT hS
      refine op_run (v := .slice (some ⟨g, 0, none⟩) m oc) (w' := w') ?_ ⟨_, rfl, ?_, (by show ((fun (x : Bool) (w : World) => (x = false → w = wq.drew) ∧ (x = true → R w))) _ _; rw [updL_other l (show 13 ≠ 0 by decide)]; rw [hq 13 (by kernel_rfl)]; exact HT9.out)⟩
      · simp only [execOp, Act.eval, g11]; first | (go_simp; done) | rfl
      · try dsimp only
        exact (slots_put (ns := 198) (hsa.size.trans rfl) (by decide))
    | 1, ho, hl, hr, hq =>
      obtain rfl := Option.some.inj ho
      try dsimp only at hd
      have g19 : a'.tmps.getD 19 undef = .int .i64 (wi : Int) := hsa.rest 19 (by rfl)
      have hT : ((fun (x : Bool) (w : World) => (x = false → w = wq.drew) ∧ (x = true → R w))) false w' := by have h := hS; rw [hq 13 (by kernel_rfl)] at h; exact h
      refine wpOp_of rfl rfl ?_
      have HT9 := hide hT
      clear hT hS
      refine op_run (v := .int .i64 (wi : Int)) (w' := w') ?_ ⟨_, rfl, ?_, (by show ((fun (x : Bool) (w : World) => (x = false → w = wq.drew) ∧ (x = true → R w))) _ _; rw [updL_other l (show 13 ≠ 1 by decide)]; rw [hq 13 (by kernel_rfl)]; exact HT9.out)⟩
      · simp only [execOp, Act.eval, g19]; first | (go_simp; done) | rfl
      · try dsimp only
        exact (slots_put (ns := 198) (hsa.size.trans rfl) (by decide))
    | 2, ho, hl, hr, hq =>
      obtain rfl := Option.some.inj ho
      try dsimp only at hd
      have d0 : a'.tmps.getD 171 undef = .slice (some ⟨g, 0, none⟩) m oc := hd 0 (by rfl)
      have d1 : a'.tmps.getD 172 undef = .int .i64 (wi : Int) := hd 1 (by rfl)
      have hT : ((fun (x : Bool) (w : World) => (x = false → w = wq.drew) ∧ (x = true → R w))) false w' := by have h := hS; rw [hq 13 (by kernel_rfl)] at h; exact h
      refine wpOp_of rfl rfl ?_
      have HT9 := hide hT
      clear hT hS
      refine op_run (v := .pointer (some ⟨g, wi, none⟩)) (w' := w') ?_ ⟨_, rfl, ?_, (by show ((fun (x : Bool) (w : World) => (x = false → w = wq.drew) ∧ (x = true → R w))) _ _; rw [updL_other l (show 13 ≠ 2 by decide)]; rw [hq 13 (by kernel_rfl)]; exact HT9.out)⟩
      · simp only [execOp, Act.eval, d0, d1]; first | (go_simp; done) | rfl
      · try dsimp only
        exact (slots_put (ns := 198) (hsa.size.trans rfl) (by decide))
    | 3, ho, hl, hr, hq =>
      obtain rfl := Option.some.inj ho
      try dsimp only at hd
      have d2 : a'.tmps.getD 173 undef = .pointer (some ⟨g, wi, none⟩) := hd 2 (by rfl)
      have hT : ((fun (x : Bool) (w : World) => (x = false → w = wq.drew) ∧ (x = true → R w))) false w' := by have h := hS; rw [hq 13 (by kernel_rfl)] at h; exact h
      refine wpOp_of rfl rfl ?_
      have z : w'.cell? ⟨g, wi, none⟩ = some (.pointer (some a1)) := by rw [hT.1 rfl]; exact c0
      have HT9 := hide hT
      clear hT hS
      refine op_run (v := .pointer (some a1)) (w' := w') ?_ ⟨_, rfl, ?_, (by show ((fun (x : Bool) (w : World) => (x = false → w = wq.drew) ∧ (x = true → R w))) _ _; rw [updL_other l (show 13 ≠ 3 by decide)]; rw [hq 13 (by kernel_rfl)]; exact HT9.out)⟩
      · simp only [execOp, Act.eval, d2, z]; first | (go_simp; done) | rfl
      · try dsimp only
        exact (slots_put (ns := 198) (hsa.size.trans rfl) (by decide))
    | 4, ho, hl, hr, hq =>
      obtain rfl := Option.some.inj ho
      try dsimp only at hd
      have g22 : a'.tmps.getD 22 undef = .pointer (some ⟨xb, 0, none⟩) := hsa.rest 22 (by rfl)
      have hT : ((fun (x : Bool) (w : World) => (x = false → w = wq.drew) ∧ (x = true → R w))) false w' := by have h := hS; rw [hq 13 (by kernel_rfl)] at h; exact h
      refine wpOp_of rfl rfl ?_
      have HT9 := hide hT
      clear hT hS
      refine op_run (v := .pointer (some ⟨xb, 0, none⟩)) (w' := w') ?_ ⟨_, rfl, ?_, (by show ((fun (x : Bool) (w : World) => (x = false → w = wq.drew) ∧ (x = true → R w))) _ _; rw [updL_other l (show 13 ≠ 4 by decide)]; rw [hq 13 (by kernel_rfl)]; exact HT9.out)⟩
      · simp only [execOp, Act.eval, g22]; first | (go_simp; done) | rfl
      · try dsimp only
        exact (slots_put (ns := 198) (hsa.size.trans rfl) (by decide))
    | 5, ho, hl, hr, hq =>
      obtain rfl := Option.some.inj ho
      try dsimp only at hd
      have d4 : a'.tmps.getD 175 undef = .pointer (some ⟨xb, 0, none⟩) := hd 4 (by rfl)
      have hT : ((fun (x : Bool) (w : World) => (x = false → w = wq.drew) ∧ (x = true → R w))) false w' := by have h := hS; rw [hq 13 (by kernel_rfl)] at h; exact h
      refine wpOp_of rfl rfl ?_
      have z : w'.cell? ⟨xb, 0, none⟩ = some (.int .i64 (at0 : Int)) := by rw [hT.1 rfl]; exact (box_cell hX 0 rfl)
      have HT9 := hide hT
      clear hT hS
      refine op_run (v := .int .i64 (at0 : Int)) (w' := w') ?_ ⟨_, rfl, ?_, (by show ((fun (x : Bool) (w : World) => (x = false → w = wq.drew) ∧ (x = true → R w))) _ _; rw [updL_other l (show 13 ≠ 5 by decide)]; rw [hq 13 (by kernel_rfl)]; exact HT9.out)⟩
      · simp only [execOp, Act.eval, d4, z]; first | (go_simp; done) | rfl
      · try dsimp only
        exact (slots_put (ns := 198) (hsa.size.trans rfl) (by decide))
    | 6, ho, hl, hr, hq =>
      obtain rfl := Option.some.inj ho
      try dsimp only at hd
      have g23 : a'.tmps.getD 23 undef = .int .i64 (k : Int) := hsa.rest 23 (by rfl)
      have hT : ((fun (x : Bool) (w : World) => (x = false → w = wq.drew) ∧ (x = true → R w))) false w' := by have h := hS; rw [hq 13 (by kernel_rfl)] at h; exact h
      refine wpOp_of rfl rfl ?_
      have HT9 := hide hT
      clear hT hS
      refine op_run (v := .int .i64 (k : Int)) (w' := w') ?_ ⟨_, rfl, ?_, (by show ((fun (x : Bool) (w : World) => (x = false → w = wq.drew) ∧ (x = true → R w))) _ _; rw [updL_other l (show 13 ≠ 6 by decide)]; rw [hq 13 (by kernel_rfl)]; exact HT9.out)⟩
      · simp only [execOp, Act.eval, g23]; first | (go_simp; done) | rfl
      · try dsimp only
        exact (slots_put (ns := 198) (hsa.size.trans rfl) (by decide))
    | 7, ho, hl, hr, hq =>
      obtain rfl := Option.some.inj ho
      try dsimp only at hd
      have d5 : a'.tmps.getD 176 undef = .int .i64 (at0 : Int) := hd 5 (by rfl)
      have d6 : a'.tmps.getD 177 undef = .int .i64 (k : Int) := hd 6 (by rfl)
      have hT : ((fun (x : Bool) (w : World) => (x = false → w = wq.drew) ∧ (x = true → R w))) false w' := by have h := hS; rw [hq 13 (by kernel_rfl)] at h; exact h
      refine wpOp_of rfl rfl ?_
      have HT9 := hide hT
      clear hT hS
      refine op_run (v := .int .i64 ((at0 : Int) + (k : Int))) (w' := w') ?_ ⟨_, rfl, ?_, (by show ((fun (x : Bool) (w : World) => (x = false → w = wq.drew) ∧ (x = true → R w))) _ _; rw [updL_other l (show 13 ≠ 7 by decide)]; rw [hq 13 (by kernel_rfl)]; exact HT9.out)⟩
      · simp only [execOp, Act.eval, d5, d6]; first | (go_simp; done) | (go_simp; rw [IntKind.wrap_i64]; omega)
      · try dsimp only
        exact (slots_put (ns := 198) (hsa.size.trans rfl) (by decide))
    | 8, ho, hl, hr, hq =>
      obtain rfl := Option.some.inj ho
      try dsimp only at hd
      have g22 : a'.tmps.getD 22 undef = .pointer (some ⟨xb, 0, none⟩) := hsa.rest 22 (by rfl)
      have hT : ((fun (x : Bool) (w : World) => (x = false → w = wq.drew) ∧ (x = true → R w))) false w' := by have h := hS; rw [hq 13 (by kernel_rfl)] at h; exact h
      refine wpOp_of rfl rfl ?_
      have HT9 := hide hT
      clear hT hS
      refine op_run (v := .pointer (some ⟨xb, 2, none⟩)) (w' := w') ?_ ⟨_, rfl, ?_, (by show ((fun (x : Bool) (w : World) => (x = false → w = wq.drew) ∧ (x = true → R w))) _ _; rw [updL_other l (show 13 ≠ 8 by decide)]; rw [hq 13 (by kernel_rfl)]; exact HT9.out)⟩
      · simp only [execOp, Act.eval, g22]; first | (go_simp; done) | rfl
      · try dsimp only
        exact (slots_put (ns := 198) (hsa.size.trans rfl) (by decide))
    | 9, ho, hl, hr, hq =>
      obtain rfl := Option.some.inj ho
      try dsimp only at hd
      have d8 : a'.tmps.getD 179 undef = .pointer (some ⟨xb, 2, none⟩) := hd 8 (by rfl)
      have hT : ((fun (x : Bool) (w : World) => (x = false → w = wq.drew) ∧ (x = true → R w))) false w' := by have h := hS; rw [hq 13 (by kernel_rfl)] at h; exact h
      refine wpOp_of rfl rfl ?_
      have z : w'.cell? ⟨xb, 2, none⟩ = some (.slice (some ⟨tb, tf, none⟩) n cp) := by rw [hT.1 rfl]; exact (box_cell hX 2 rfl)
      have HT9 := hide hT
      clear hT hS
      refine op_run (v := .slice (some ⟨tb, tf, none⟩) n cp) (w' := w') ?_ ⟨_, rfl, ?_, (by show ((fun (x : Bool) (w : World) => (x = false → w = wq.drew) ∧ (x = true → R w))) _ _; rw [updL_other l (show 13 ≠ 9 by decide)]; rw [hq 13 (by kernel_rfl)]; exact HT9.out)⟩
      · simp only [execOp, Act.eval, d8, z]; first | (go_simp; done) | rfl
      · try dsimp only
        exact (slots_put (ns := 198) (hsa.size.trans rfl) (by decide))
    | 10, ho, hl, hr, hq =>
      obtain rfl := Option.some.inj ho
      try dsimp only at hd
      have g23 : a'.tmps.getD 23 undef = .int .i64 (k : Int) := hsa.rest 23 (by rfl)
      have hT : ((fun (x : Bool) (w : World) => (x = false → w = wq.drew) ∧ (x = true → R w))) false w' := by have h := hS; rw [hq 13 (by kernel_rfl)] at h; exact h
      refine wpOp_of rfl rfl ?_
      have HT9 := hide hT
      clear hT hS
      refine op_run (v := .int .i64 (k : Int)) (w' := w') ?_ ⟨_, rfl, ?_, (by show ((fun (x : Bool) (w : World) => (x = false → w = wq.drew) ∧ (x = true → R w))) _ _; rw [updL_other l (show 13 ≠ 10 by decide)]; rw [hq 13 (by kernel_rfl)]; exact HT9.out)⟩
      · simp only [execOp, Act.eval, g23]; first | (go_simp; done) | rfl
      · try dsimp only
        exact (slots_put (ns := 198) (hsa.size.trans rfl) (by decide))
    | 11, ho, hl, hr, hq =>
      obtain rfl := Option.some.inj ho
      try dsimp only at hd
      have d9 : a'.tmps.getD 180 undef = .slice (some ⟨tb, tf, none⟩) n cp := hd 9 (by rfl)
      have d10 : a'.tmps.getD 181 undef = .int .i64 (k : Int) := hd 10 (by rfl)
      have hT : ((fun (x : Bool) (w : World) => (x = false → w = wq.drew) ∧ (x = true → R w))) false w' := by have h := hS; rw [hq 13 (by kernel_rfl)] at h; exact h
      refine wpOp_of rfl rfl ?_
      have HT9 := hide hT
      clear hT hS
      refine op_run (v := .pointer (some ⟨tb, tf + k, none⟩)) (w' := w') ?_ ⟨_, rfl, ?_, (by show ((fun (x : Bool) (w : World) => (x = false → w = wq.drew) ∧ (x = true → R w))) _ _; rw [updL_other l (show 13 ≠ 11 by decide)]; rw [hq 13 (by kernel_rfl)]; exact HT9.out)⟩
      · simp only [execOp, Act.eval, d9, d10]; first | (go_simp; done) | rfl
      · try dsimp only
        exact (slots_put (ns := 198) (hsa.size.trans rfl) (by decide))
    | 12, ho, hl, hr, hq =>
      obtain rfl := Option.some.inj ho
      try dsimp only at hd
      have d11 : a'.tmps.getD 182 undef = .pointer (some ⟨tb, tf + k, none⟩) := hd 11 (by rfl)
      have hT : ((fun (x : Bool) (w : World) => (x = false → w = wq.drew) ∧ (x = true → R w))) false w' := by have h := hS; rw [hq 13 (by kernel_rfl)] at h; exact h
      refine wpOp_of rfl rfl ?_
      have z : w'.cell? ⟨tb, tf + k, none⟩ = some (.string s) := by rw [hT.1 rfl]; exact c1
      have HT9 := hide hT
      clear hT hS
      refine op_run (v := .string s) (w' := w') ?_ ⟨_, rfl, ?_, (by show ((fun (x : Bool) (w : World) => (x = false → w = wq.drew) ∧ (x = true → R w))) _ _; rw [updL_other l (show 13 ≠ 12 by decide)]; rw [hq 13 (by kernel_rfl)]; exact HT9.out)⟩
      · simp only [execOp, Act.eval, d11, z]; first | (go_simp; done) | rfl
      · try dsimp only
        exact (slots_put (ns := 198) (hsa.size.trans rfl) (by decide))
    | 13, ho, hl, hr, hq =>
      obtain rfl := Option.some.inj ho
      try dsimp only at hd
      have d3 : a'.tmps.getD 174 undef = .pointer (some a1) := hd 3 (by rfl)
      have d7 : a'.tmps.getD 178 undef = .int .i64 ((at0 : Int) + (k : Int)) := hd 7 (by rfl)
      have d12 : a'.tmps.getD 183 undef = .string s := hd 12 (by rfl)
      have hT : ((fun (x : Bool) (w : World) => (x = false → w = wq.drew) ∧ (x = true → R w))) false w' := by have h := hS; rw [hl] at h; exact h
      refine wpOp_of rfl rfl ?_
      obtain rfl := hT.1 rfl
      refine op_call 15 _ _ rfl (enters_of Try.func15 (by kernel_rfl) rfl) [.pointer (some a1), .int .i64 ((at0 : Int) + (k : Int)), .string s] (by simp only [List.map, Act.eval, d3, d7, d12]) HE.out ?_
      rintro e w'' ⟨rfl, r1⟩
      refine ⟨_, rfl, _, rfl, (slots_put (ns := 198) (hsa.size.trans rfl) (by decide)), (by show ((fun (x : Bool) (w : World) => (x = false → w = wq.drew) ∧ (x = true → R w))) _ _; rw [updL_same]; exact ⟨(fun e => by cases e), fun _ => r1⟩)⟩
    | (n + 14), ho, _, _, _ => exact absurd ho (by simp)
  case pdone =>
    intro a' w' l hl hsa hS hd
    have hT : ((fun (x : Bool) (w : World) => (x = false → w = wq.drew) ∧ (x = true → R w))) true w' := by have h := hS; rw [hl 13 (by decide)] at h; exact h
    have d0 : a'.tmps.getD 171 undef = .slice (some ⟨g, 0, none⟩) m oc := hd 0 (by decide)
    have d1 : a'.tmps.getD 172 undef = .int .i64 (wi : Int) := hd 1 (by decide)
    have d2 : a'.tmps.getD 173 undef = .pointer (some ⟨g, wi, none⟩) := hd 2 (by decide)
    have d3 : a'.tmps.getD 174 undef = .pointer (some a1) := hd 3 (by decide)
    have d4 : a'.tmps.getD 175 undef = .pointer (some ⟨xb, 0, none⟩) := hd 4 (by decide)
    have d5 : a'.tmps.getD 176 undef = .int .i64 (at0 : Int) := hd 5 (by decide)
    have d6 : a'.tmps.getD 177 undef = .int .i64 (k : Int) := hd 6 (by decide)
    have d7 : a'.tmps.getD 178 undef = .int .i64 ((at0 : Int) + (k : Int)) := hd 7 (by decide)
    have d8 : a'.tmps.getD 179 undef = .pointer (some ⟨xb, 2, none⟩) := hd 8 (by decide)
    have d9 : a'.tmps.getD 180 undef = .slice (some ⟨tb, tf, none⟩) n cp := hd 9 (by decide)
    have d10 : a'.tmps.getD 181 undef = .int .i64 (k : Int) := hd 10 (by decide)
    have d11 : a'.tmps.getD 182 undef = .pointer (some ⟨tb, tf + k, none⟩) := hd 11 (by decide)
    have d12 : a'.tmps.getD 183 undef = .string s := hd 12 (by decide)
    have d13 : a'.tmps.getD 184 undef = .bool r := hd 13 (by decide)
    exact HQ.out a' w' ⟨hsa.size.trans rfl, hsa.defers.trans rfl, hsa.rest 0 (by rfl), hsa.rest 1 (by rfl), hsa.rest 2 (by rfl), hsa.rest 6 (by rfl), hsa.rest 7 (by rfl), hsa.rest 8 (by rfl), hsa.rest 9 (by rfl), hsa.rest 10 (by rfl), hsa.rest 11 (by rfl), hsa.rest 12 (by rfl), hsa.rest 13 (by rfl), hsa.rest 14 (by rfl), hsa.rest 15 (by rfl), hsa.rest 16 (by rfl), hsa.rest 17 (by rfl), hsa.rest 18 (by rfl), hsa.rest 19 (by rfl), hsa.rest 20 (by rfl), hsa.rest 21 (by rfl), hsa.rest 22 (by rfl), hsa.rest 23 (by rfl), hsa.rest 24 (by rfl), hsa.rest 89 (by rfl)⟩ (hT.2 rfl)
set_option maxHeartbeats 8000000 in
set_option maxRecDepth 100000 in
theorem aa_r38 {K : Act → World → Prop} {c : Code} (hc : regOf (Try.f4.body.getD .skip) 38 = some c) (a : Act) {v : Vaa} {wq : World} {k : Nat} (hF : Faa a v) (h23v : v.v23 = .int .i64 (k : Int)) (hk : k ≤ 1000000) (hQ : ∀ a', Faa a' { v with v23 := .int .i64 ((k + 1 : Nat) : Int) } → K a' wq) :
    Code.wp Try.prog c (Exit.then K fun _ _ _ => False) a wq := by
  have HQ := hide hQ
  clear hQ
  obtain ⟨t', d'⟩ := a
  obtain ⟨v0, v1, v2, v6, v7, v8, v9, v10, v11, v12, v13, v14, v15, v16, v17, v18, v19, v20, v21, v22, v23, v24, v89⟩ := v
  simp only at h23v HQ
  subst h23v
  obtain ⟨hs1, hd1, q0, q1, q2, q6, q7, q8, q9, q10, q11, q12, q13, q14, q15, q16, q17, q18, q19, q20, q21, q22, q23, q24, q89⟩ := hF
  obtain ⟨u, hu⟩ := frame_aa t' hs1
  simp only at hd1 q0 q1 q2 q6 q7 q8 q9 q10 q11 q12 q13 q14 q15 q16 q17 q18 q19 q20 q21 q22 q23 q24 q89
  subst hu hd1
  have e0 : u 0 = v0 := q0
  have e1 : u 1 = v1 := q1
  have e2 : u 2 = v2 := q2
  have e6 : u 6 = v6 := q6
  have e7 : u 7 = v7 := q7
  have e8 : u 8 = v8 := q8
  have e9 : u 9 = v9 := q9
  have e10 : u 10 = v10 := q10
  have e11 : u 11 = v11 := q11
  have e12 : u 12 = v12 := q12
  have e13 : u 13 = v13 := q13
  have e14 : u 14 = v14 := q14
  have e15 : u 15 = v15 := q15
  have e16 : u 16 = v16 := q16
  have e17 : u 17 = v17 := q17
  have e18 : u 18 = v18 := q18
  have e19 : u 19 = v19 := q19
  have e20 : u 20 = v20 := q20
  have e21 : u 21 = v21 := q21
  have e22 : u 22 = v22 := q22
  have e23 : u 23 = .int .i64 (k : Int) := q23
  have e24 : u 24 = v24 := q24
  have e89 : u 89 = v89 := q89
  rw [e0, e1, e2, e6, e7, e8, e9, e10, e11, e12, e13, e14, e15, e16, e17, e18, e19, e20, e21, e22, e23, e24, e89]
  clear q0 e0 q1 e1 q2 e2 q6 e6 q7 e7 q8 e8 q9 e9 q10 e10 q11 e11 q12 e12 q13 e13 q14 e14 q15 e15 q16 e16 q17 e17 q18 e18 q19 e19 q20 e20 q21 e21 q22 e22 q23 e23 q24 e24 q89 e89 hs1
  simp only [Try.f4, Option.getD_some, regOf] at hc
  injection hc with hc
  subst hc
  have hc : ((k + 1 : Nat) : Int) = (k : Int) + 1 := by omega
  rw [hc] at HQ
  go_wp2
  exact HQ.out _ ⟨rfl, rfl, rfl, rfl, rfl, rfl, rfl, rfl, rfl, rfl, rfl, rfl, rfl, rfl, rfl, rfl, rfl, rfl, rfl, rfl, rfl, rfl, rfl, rfl, rfl⟩
set_option maxHeartbeats 8000000 in
set_option maxRecDepth 100000 in
theorem aa_r40 {K : Act → World → Prop} {c : Code} (hc : regOf (Try.f4.body.getD .skip) 40 = some c) (a : Act) {v : Vaa} {wq : World} {R : World → Prop} {g m oc wi xb at0 su n cp : Nat} {ao : Option Addr} {a1 : Addr} {r : Bool} (hF : Faa a v) (h11v : v.v11 = .slice (some ⟨g, 0, none⟩) m oc) (h19v : v.v19 = .int .i64 (wi : Int)) (h22v : v.v22 = .pointer (some ⟨xb, 0, none⟩)) (hX : wq.heap[xb]? = some (.cells #[.int .i64 (at0 : Int), .int .i64 (su : Int), .slice ao n cp] 57 (0, 0))) (hw : wi < m) (c0 : wq.cell? ⟨g, wi, none⟩ = some (.pointer (some a1))) (hE : Calls Try.prog 19 #[.pointer (some a1), .int .i64 (su : Int)] wq.drew fun e w' => e = .returned (.bool r) ∧ R w')
    (hQ : ∀ a' w1, Faa a' v → R w1 → K a' w1) :
    Code.wp Try.prog c (Exit.then K fun _ _ _ => False) a wq := by
  have HQ := hide hQ
  clear hQ
  obtain ⟨t', d'⟩ := a
  obtain ⟨v0, v1, v2, v6, v7, v8, v9, v10, v11, v12, v13, v14, v15, v16, v17, v18, v19, v20, v21, v22, v23, v24, v89⟩ := v
  simp only at h11v h19v h22v HQ
  subst h11v h19v h22v
  obtain ⟨hs1, hd1, q0, q1, q2, q6, q7, q8, q9, q10, q11, q12, q13, q14, q15, q16, q17, q18, q19, q20, q21, q22, q23, q24, q89⟩ := hF
  obtain ⟨u, hu⟩ := frame_aa t' hs1
  simp only at hd1 q0 q1 q2 q6 q7 q8 q9 q10 q11 q12 q13 q14 q15 q16 q17 q18 q19 q20 q21 q22 q23 q24 q89
  subst hu hd1
  have e0 : u 0 = v0 := q0
  have e1 : u 1 = v1 := q1
  have e2 : u 2 = v2 := q2
  have e6 : u 6 = v6 := q6
  have e7 : u 7 = v7 := q7
  have e8 : u 8 = v8 := q8
  have e9 : u 9 = v9 := q9
  have e10 : u 10 = v10 := q10
  have e11 : u 11 = .slice (some ⟨g, 0, none⟩) m oc := q11
  have e12 : u 12 = v12 := q12
  have e13 : u 13 = v13 := q13
  have e14 : u 14 = v14 := q14
  have e15 : u 15 = v15 := q15
  have e16 : u 16 = v16 := q16
  have e17 : u 17 = v17 := q17
  have e18 : u 18 = v18 := q18
  have e19 : u 19 = .int .i64 (wi : Int) := q19
  have e20 : u 20 = v20 := q20
  have e21 : u 21 = v21 := q21
  have e22 : u 22 = .pointer (some ⟨xb, 0, none⟩) := q22
  have e23 : u 23 = v23 := q23
  have e24 : u 24 = v24 := q24
  have e89 : u 89 = v89 := q89
  rw [e0, e1, e2, e6, e7, e8, e9, e10, e11, e12, e13, e14, e15, e16, e17, e18, e19, e20, e21, e22, e23, e24, e89]
  clear q0 e0 q1 e1 q2 e2 q6 e6 q7 e7 q8 e8 q9 e9 q10 e10 q11 e11 q12 e12 q13 e13 q14 e14 q15 e15 q16 e16 q17 e17 q18 e18 q19 e19 q20 e20 q21 e21 q22 e22 q23 e23 q24 e24 q89 e89 hs1
  simp only [Try.f4, Option.getD_some, regOf] at hc
  injection hc with hc
  subst hc
  have HE := hide hE
  clear hE
  have j0 : (0 : Int) ≤ (wi : Int) := by omega
  have j1 : (wi : Int) < (m : Int) := by omega
  refine wp_region_any rfl ?_
  refine wpAny_staged (ns := 198) (uses := (fun i => match i with | 0 => [185] | 1 => [186] | 2 => [187] | 3 => [188] | 4 => [189] | 5 => [190] | 6 => [191] | _ => [])) (by kernel_rfl) (by kernel_rfl) (fun l a w => ((fun (x : Bool) (w : World) => (x = false → w = wq.drew) ∧ (x = true → R w))) (l 6) w) ⟨fun _ => rfl, fun e => by cases e⟩ (fun i => match i with | 0 => fun σ => σ 185 = .slice (some ⟨g, 0, none⟩) m oc | 1 => fun σ => σ 186 = .int .i64 (wi : Int) | 2 => fun σ => σ 187 = .pointer (some ⟨g, wi, none⟩) | 3 => fun σ => σ 188 = .pointer (some a1) | 4 => fun σ => σ 189 = .pointer (some ⟨xb, 1, none⟩) | 5 => fun σ => σ 190 = .int .i64 (su : Int) | 6 => fun σ => σ 191 = .bool r | _ => fun _ => True) ?phc ?pstep ?pdone
  case phc =>
    intro i s s' hx h
    rcases i with _ | i; · exact (hx _ (List.mem_singleton.2 rfl)).symm.trans h
    rcases i with _ | i; · exact (hx _ (List.mem_singleton.2 rfl)).symm.trans h
    rcases i with _ | i; · exact (hx _ (List.mem_singleton.2 rfl)).symm.trans h
    rcases i with _ | i; · exact (hx _ (List.mem_singleton.2 rfl)).symm.trans h
    rcases i with _ | i; · exact (hx _ (List.mem_singleton.2 rfl)).symm.trans h
    rcases i with _ | i; · exact (hx _ (List.mem_singleton.2 rfl)).symm.trans h
    rcases i with _ | i; · exact (hx _ (List.mem_singleton.2 rfl)).symm.trans h
    exact h
  case pstep =>
    intro i o ho a' w' l hl hr hq hsa hS hd
    match i, ho, hl, hr, hq with
    | 0, ho, hl, hr, hq =>
      obtain rfl := Option.some.inj ho
      try dsimp only at hd
      have g11 : a'.tmps.getD 11 undef = .slice (some ⟨g, 0, none⟩) m oc := hsa.rest 11 (by rfl)
      have hT : ((fun (x : Bool) (w : World) => (x = false → w = wq.drew) ∧ (x = true → R w))) false w' := by have h := hS; rw [hq 6 (by kernel_rfl)] at h; exact h
      refine wpOp_of rfl rfl ?_
      have HT9 := hide hT
      clear hT hS
      refine op_run (v := .slice (some ⟨g, 0, none⟩) m oc) (w' := w') ?_ ⟨_, rfl, ?_, (by show ((fun (x : Bool) (w : World) => (x = false → w = wq.drew) ∧ (x = true → R w))) _ _; rw [updL_other l (show 6 ≠ 0 by decide)]; rw [hq 6 (by kernel_rfl)]; exact HT9.out)⟩
      · simp only [execOp, Act.eval, g11]; first | (go_simp; done) | rfl
      · try dsimp only
        exact (slots_put (ns := 198) (hsa.size.trans rfl) (by decide))
    | 1, ho, hl, hr, hq =>
      obtain rfl := Option.some.inj ho
      try dsimp only at hd
      have g19 : a'.tmps.getD 19 undef = .int .i64 (wi : Int) := hsa.rest 19 (by rfl)
      have hT : ((fun (x : Bool) (w : World) => (x = false → w = wq.drew) ∧ (x = true → R w))) false w' := by have h := hS; rw [hq 6 (by kernel_rfl)] at h; exact h
      refine wpOp_of rfl rfl ?_
      have HT9 := hide hT
      clear hT hS
      refine op_run (v := .int .i64 (wi : Int)) (w' := w') ?_ ⟨_, rfl, ?_, (by show ((fun (x : Bool) (w : World) => (x = false → w = wq.drew) ∧ (x = true → R w))) _ _; rw [updL_other l (show 6 ≠ 1 by decide)]; rw [hq 6 (by kernel_rfl)]; exact HT9.out)⟩
      · simp only [execOp, Act.eval, g19]; first | (go_simp; done) | rfl
      · try dsimp only
        exact (slots_put (ns := 198) (hsa.size.trans rfl) (by decide))
    | 2, ho, hl, hr, hq =>
      obtain rfl := Option.some.inj ho
      try dsimp only at hd
      have d0 : a'.tmps.getD 185 undef = .slice (some ⟨g, 0, none⟩) m oc := hd 0 (by rfl)
      have d1 : a'.tmps.getD 186 undef = .int .i64 (wi : Int) := hd 1 (by rfl)
      have hT : ((fun (x : Bool) (w : World) => (x = false → w = wq.drew) ∧ (x = true → R w))) false w' := by have h := hS; rw [hq 6 (by kernel_rfl)] at h; exact h
      refine wpOp_of rfl rfl ?_
      have HT9 := hide hT
      clear hT hS
      refine op_run (v := .pointer (some ⟨g, wi, none⟩)) (w' := w') ?_ ⟨_, rfl, ?_, (by show ((fun (x : Bool) (w : World) => (x = false → w = wq.drew) ∧ (x = true → R w))) _ _; rw [updL_other l (show 6 ≠ 2 by decide)]; rw [hq 6 (by kernel_rfl)]; exact HT9.out)⟩
      · simp only [execOp, Act.eval, d0, d1]; first | (go_simp; done) | rfl
      · try dsimp only
        exact (slots_put (ns := 198) (hsa.size.trans rfl) (by decide))
    | 3, ho, hl, hr, hq =>
      obtain rfl := Option.some.inj ho
      try dsimp only at hd
      have d2 : a'.tmps.getD 187 undef = .pointer (some ⟨g, wi, none⟩) := hd 2 (by rfl)
      have hT : ((fun (x : Bool) (w : World) => (x = false → w = wq.drew) ∧ (x = true → R w))) false w' := by have h := hS; rw [hq 6 (by kernel_rfl)] at h; exact h
      refine wpOp_of rfl rfl ?_
      have z : w'.cell? ⟨g, wi, none⟩ = some (.pointer (some a1)) := by rw [hT.1 rfl]; exact c0
      have HT9 := hide hT
      clear hT hS
      refine op_run (v := .pointer (some a1)) (w' := w') ?_ ⟨_, rfl, ?_, (by show ((fun (x : Bool) (w : World) => (x = false → w = wq.drew) ∧ (x = true → R w))) _ _; rw [updL_other l (show 6 ≠ 3 by decide)]; rw [hq 6 (by kernel_rfl)]; exact HT9.out)⟩
      · simp only [execOp, Act.eval, d2, z]; first | (go_simp; done) | rfl
      · try dsimp only
        exact (slots_put (ns := 198) (hsa.size.trans rfl) (by decide))
    | 4, ho, hl, hr, hq =>
      obtain rfl := Option.some.inj ho
      try dsimp only at hd
      have g22 : a'.tmps.getD 22 undef = .pointer (some ⟨xb, 0, none⟩) := hsa.rest 22 (by rfl)
      have hT : ((fun (x : Bool) (w : World) => (x = false → w = wq.drew) ∧ (x = true → R w))) false w' := by have h := hS; rw [hq 6 (by kernel_rfl)] at h; exact h
      refine wpOp_of rfl rfl ?_
      have HT9 := hide hT
      clear hT hS
      refine op_run (v := .pointer (some ⟨xb, 1, none⟩)) (w' := w') ?_ ⟨_, rfl, ?_, (by show ((fun (x : Bool) (w : World) => (x = false → w = wq.drew) ∧ (x = true → R w))) _ _; rw [updL_other l (show 6 ≠ 4 by decide)]; rw [hq 6 (by kernel_rfl)]; exact HT9.out)⟩
      · simp only [execOp, Act.eval, g22]; first | (go_simp; done) | rfl
      · try dsimp only
        exact (slots_put (ns := 198) (hsa.size.trans rfl) (by decide))
    | 5, ho, hl, hr, hq =>
      obtain rfl := Option.some.inj ho
      try dsimp only at hd
      have d4 : a'.tmps.getD 189 undef = .pointer (some ⟨xb, 1, none⟩) := hd 4 (by rfl)
      have hT : ((fun (x : Bool) (w : World) => (x = false → w = wq.drew) ∧ (x = true → R w))) false w' := by have h := hS; rw [hq 6 (by kernel_rfl)] at h; exact h
      refine wpOp_of rfl rfl ?_
      have z : w'.cell? ⟨xb, 1, none⟩ = some (.int .i64 (su : Int)) := by rw [hT.1 rfl]; exact (box_cell hX 1 rfl)
      have HT9 := hide hT
      clear hT hS
      refine op_run (v := .int .i64 (su : Int)) (w' := w') ?_ ⟨_, rfl, ?_, (by show ((fun (x : Bool) (w : World) => (x = false → w = wq.drew) ∧ (x = true → R w))) _ _; rw [updL_other l (show 6 ≠ 5 by decide)]; rw [hq 6 (by kernel_rfl)]; exact HT9.out)⟩
      · simp only [execOp, Act.eval, d4, z]; first | (go_simp; done) | rfl
      · try dsimp only
        exact (slots_put (ns := 198) (hsa.size.trans rfl) (by decide))
    | 6, ho, hl, hr, hq =>
      obtain rfl := Option.some.inj ho
      try dsimp only at hd
      have d3 : a'.tmps.getD 188 undef = .pointer (some a1) := hd 3 (by rfl)
      have d5 : a'.tmps.getD 190 undef = .int .i64 (su : Int) := hd 5 (by rfl)
      have hT : ((fun (x : Bool) (w : World) => (x = false → w = wq.drew) ∧ (x = true → R w))) false w' := by have h := hS; rw [hl] at h; exact h
      refine wpOp_of rfl rfl ?_
      obtain rfl := hT.1 rfl
      refine op_call 19 _ _ rfl (enters_of Try.func19 (by kernel_rfl) rfl) [.pointer (some a1), .int .i64 (su : Int)] (by simp only [List.map, Act.eval, d3, d5]) HE.out ?_
      rintro e w'' ⟨rfl, r1⟩
      refine ⟨_, rfl, _, rfl, (slots_put (ns := 198) (hsa.size.trans rfl) (by decide)), (by show ((fun (x : Bool) (w : World) => (x = false → w = wq.drew) ∧ (x = true → R w))) _ _; rw [updL_same]; exact ⟨(fun e => by cases e), fun _ => r1⟩)⟩
    | (n + 7), ho, _, _, _ => exact absurd ho (by simp)
  case pdone =>
    intro a' w' l hl hsa hS hd
    have hT : ((fun (x : Bool) (w : World) => (x = false → w = wq.drew) ∧ (x = true → R w))) true w' := by have h := hS; rw [hl 6 (by decide)] at h; exact h
    have d0 : a'.tmps.getD 185 undef = .slice (some ⟨g, 0, none⟩) m oc := hd 0 (by decide)
    have d1 : a'.tmps.getD 186 undef = .int .i64 (wi : Int) := hd 1 (by decide)
    have d2 : a'.tmps.getD 187 undef = .pointer (some ⟨g, wi, none⟩) := hd 2 (by decide)
    have d3 : a'.tmps.getD 188 undef = .pointer (some a1) := hd 3 (by decide)
    have d4 : a'.tmps.getD 189 undef = .pointer (some ⟨xb, 1, none⟩) := hd 4 (by decide)
    have d5 : a'.tmps.getD 190 undef = .int .i64 (su : Int) := hd 5 (by decide)
    have d6 : a'.tmps.getD 191 undef = .bool r := hd 6 (by decide)
    exact HQ.out a' w' ⟨hsa.size.trans rfl, hsa.defers.trans rfl, hsa.rest 0 (by rfl), hsa.rest 1 (by rfl), hsa.rest 2 (by rfl), hsa.rest 6 (by rfl), hsa.rest 7 (by rfl), hsa.rest 8 (by rfl), hsa.rest 9 (by rfl), hsa.rest 10 (by rfl), hsa.rest 11 (by rfl), hsa.rest 12 (by rfl), hsa.rest 13 (by rfl), hsa.rest 14 (by rfl), hsa.rest 15 (by rfl), hsa.rest 16 (by rfl), hsa.rest 17 (by rfl), hsa.rest 18 (by rfl), hsa.rest 19 (by rfl), hsa.rest 20 (by rfl), hsa.rest 21 (by rfl), hsa.rest 22 (by rfl), hsa.rest 23 (by rfl), hsa.rest 24 (by rfl), hsa.rest 89 (by rfl)⟩ (hT.2 rfl)
set_option maxHeartbeats 8000000 in
set_option maxRecDepth 100000 in
theorem aa_r26 {K : Act → World → Prop} {c : Code} (hc : regOf (Try.f4.body.getD .skip) 26 = some c) (a : Act) {v : Vaa} {wq : World} {R : World → Prop} {g m oc wi : Nat} {a0 a1 : Addr} {x : Int} {r : Bool} (hF : Faa a v) (h11v : v.v11 = .slice (some ⟨g, 0, none⟩) m oc) (h19v : v.v19 = .int .i64 (wi : Int)) (hm : 0 < m) (c9 : wq.cell? ⟨g, 0, none⟩ = some (.pointer (some a0))) (hw : wi < m) (c0 : wq.cell? ⟨g, wi, none⟩ = some (.pointer (some a1))) (hE : Calls Try.prog 17 #[.pointer (some a0), .int .i64 (wi : Int), .int .i64 x] wq.drew fun e w' => e = .returned (.bool r) ∧ R w') (hR8 : Calls Try.prog 25 #[.pointer (some a1)] wq.drew fun e w' => e = .returned (.int .i64 x) ∧ w' = wq.drew)
    (hQ : ∀ a' w1, Faa a' v → R w1 → K a' w1) :
    Code.wp Try.prog c (Exit.then K fun _ _ _ => False) a wq := by
  have HQ := hide hQ
  clear hQ
  obtain ⟨t', d'⟩ := a
  obtain ⟨v0, v1, v2, v6, v7, v8, v9, v10, v11, v12, v13, v14, v15, v16, v17, v18, v19, v20, v21, v22, v23, v24, v89⟩ := v
  simp only at h11v h19v HQ
  subst h11v h19v
  obtain ⟨hs1, hd1, q0, q1, q2, q6, q7, q8, q9, q10, q11, q12, q13, q14, q15, q16, q17, q18, q19, q20, q21, q22, q23, q24, q89⟩ := hF
  obtain ⟨u, hu⟩ := frame_aa t' hs1
  simp only at hd1 q0 q1 q2 q6 q7 q8 q9 q10 q11 q12 q13 q14 q15 q16 q17 q18 q19 q20 q21 q22 q23 q24 q89
  subst hu hd1
  have e0 : u 0 = v0 := q0
  have e1 : u 1 = v1 := q1
  have e2 : u 2 = v2 := q2
  have e6 : u 6 = v6 := q6
  have e7 : u 7 = v7 := q7
  have e8 : u 8 = v8 := q8
  have e9 : u 9 = v9 := q9
  have e10 : u 10 = v10 := q10
  have e11 : u 11 = .slice (some ⟨g, 0, none⟩) m oc := q11
  have e12 : u 12 = v12 := q12
  have e13 : u 13 = v13 := q13
  have e14 : u 14 = v14 := q14
  have e15 : u 15 = v15 := q15
  have e16 : u 16 = v16 := q16
  have e17 : u 17 = v17 := q17
  have e18 : u 18 = v18 := q18
  have e19 : u 19 = .int .i64 (wi : Int) := q19
  have e20 : u 20 = v20 := q20
  have e21 : u 21 = v21 := q21
  have e22 : u 22 = v22 := q22
  have e23 : u 23 = v23 := q23
  have e24 : u 24 = v24 := q24
  have e89 : u 89 = v89 := q89
  rw [e0, e1, e2, e6, e7, e8, e9, e10, e11, e12, e13, e14, e15, e16, e17, e18, e19, e20, e21, e22, e23, e24, e89]
  clear q0 e0 q1 e1 q2 e2 q6 e6 q7 e7 q8 e8 q9 e9 q10 e10 q11 e11 q12 e12 q13 e13 q14 e14 q15 e15 q16 e16 q17 e17 q18 e18 q19 e19 q20 e20 q21 e21 q22 e22 q23 e23 q24 e24 q89 e89 hs1
  simp only [Try.f4, Option.getD_some, regOf] at hc
  injection hc with hc
  subst hc
  have HE := hide hE
  have HR8 := hide hR8
  clear hE hR8
  have o0 : (0 : Int) ≤ 0 := Int.le_refl _
  have o1 : (0 : Int) < (m : Int) := by omega
  have j0 : (0 : Int) ≤ (wi : Int) := by omega
  have j1 : (wi : Int) < (m : Int) := by omega
  refine wp_region_any rfl ?_
  refine wpAny_staged (ns := 198) (uses := (fun i => match i with | 0 => [92] | 1 => [93] | 2 => [94] | 3 => [95] | 4 => [96] | 5 => [97] | 6 => [98] | 7 => [99] | 8 => [100] | 9 => [101] | _ => [])) (by kernel_rfl) (by kernel_rfl) (fun l a w => ((fun (x : Bool) (w : World) => (x = false → w = wq.drew) ∧ (x = true → R w))) (l 9) w) ⟨fun _ => rfl, fun e => by cases e⟩ (fun i => match i with | 0 => fun σ => σ 92 = .slice (some ⟨g, 0, none⟩) m oc | 1 => fun σ => σ 93 = .pointer (some ⟨g, 0, none⟩) | 2 => fun σ => σ 94 = .pointer (some a0) | 3 => fun σ => σ 95 = .int .i64 (wi : Int) | 4 => fun σ => σ 96 = .slice (some ⟨g, 0, none⟩) m oc | 5 => fun σ => σ 97 = .int .i64 (wi : Int) | 6 => fun σ => σ 98 = .pointer (some ⟨g, wi, none⟩) | 7 => fun σ => σ 99 = .pointer (some a1) | 8 => fun σ => σ 100 = .int .i64 x | 9 => fun σ => σ 101 = .bool r | _ => fun _ => True) ?phc ?pstep ?pdone
  case phc =>
    intro i s s' hx h
    rcases i with _ | i; · exact (hx _ (List.mem_singleton.2 rfl)).symm.trans h
    rcases i with _ | i; · exact (hx _ (List.mem_singleton.2 rfl)).symm.trans h
    rcases i with _ | i; · exact (hx _ (List.mem_singleton.2 rfl)).symm.trans h
    rcases i with _ | i; · exact (hx _ (List.mem_singleton.2 rfl)).symm.trans h
    rcases i with _ | i; · exact (hx _ (List.mem_singleton.2 rfl)).symm.trans h
    rcases i with _ | i; · exact (hx _ (List.mem_singleton.2 rfl)).symm.trans h
    rcases i with _ | i; · exact (hx _ (List.mem_singleton.2 rfl)).symm.trans h
    rcases i with _ | i; · exact (hx _ (List.mem_singleton.2 rfl)).symm.trans h
    rcases i with _ | i; · exact (hx _ (List.mem_singleton.2 rfl)).symm.trans h
    rcases i with _ | i; · exact (hx _ (List.mem_singleton.2 rfl)).symm.trans h
    exact h
  case pstep =>
    intro i o ho a' w' l hl hr hq hsa hS hd
    match i, ho, hl, hr, hq with
    | 0, ho, hl, hr, hq =>
      obtain rfl := Option.some.inj ho
      try dsimp only at hd
      have g11 : a'.tmps.getD 11 undef = .slice (some ⟨g, 0, none⟩) m oc := hsa.rest 11 (by rfl)
      have hT : ((fun (x : Bool) (w : World) => (x = false → w = wq.drew) ∧ (x = true → R w))) false w' := by have h := hS; rw [hq 9 (by kernel_rfl)] at h; exact h
      refine wpOp_of rfl rfl ?_
      have HT9 := hide hT
      clear hT hS
      refine op_run (v := .slice (some ⟨g, 0, none⟩) m oc) (w' := w') ?_ ⟨_, rfl, ?_, (by show ((fun (x : Bool) (w : World) => (x = false → w = wq.drew) ∧ (x = true → R w))) _ _; rw [updL_other l (show 9 ≠ 0 by decide)]; rw [hq 9 (by kernel_rfl)]; exact HT9.out)⟩
      · simp only [execOp, Act.eval, g11]; first | (go_simp; done) | rfl
      · try dsimp only
        exact (slots_put (ns := 198) (hsa.size.trans rfl) (by decide))
    | 1, ho, hl, hr, hq =>
      obtain rfl := Option.some.inj ho
      try dsimp only at hd
      have d0 : a'.tmps.getD 92 undef = .slice (some ⟨g, 0, none⟩) m oc := hd 0 (by rfl)
      have hT : ((fun (x : Bool) (w : World) => (x = false → w = wq.drew) ∧ (x = true → R w))) false w' := by have h := hS; rw [hq 9 (by kernel_rfl)] at h; exact h
      refine wpOp_of rfl rfl ?_
      have HT9 := hide hT
      clear hT hS
      refine op_run (v := .pointer (some ⟨g, 0, none⟩)) (w' := w') ?_ ⟨_, rfl, ?_, (by show ((fun (x : Bool) (w : World) => (x = false → w = wq.drew) ∧ (x = true → R w))) _ _; rw [updL_other l (show 9 ≠ 1 by decide)]; rw [hq 9 (by kernel_rfl)]; exact HT9.out)⟩
      · simp only [execOp, Act.eval, d0]; first | (go_simp; done) | rfl
      · try dsimp only
        exact (slots_put (ns := 198) (hsa.size.trans rfl) (by decide))
    | 2, ho, hl, hr, hq =>
      obtain rfl := Option.some.inj ho
      try dsimp only at hd
      have d1 : a'.tmps.getD 93 undef = .pointer (some ⟨g, 0, none⟩) := hd 1 (by rfl)
      have hT : ((fun (x : Bool) (w : World) => (x = false → w = wq.drew) ∧ (x = true → R w))) false w' := by have h := hS; rw [hq 9 (by kernel_rfl)] at h; exact h
      refine wpOp_of rfl rfl ?_
      have z : w'.cell? ⟨g, 0, none⟩ = some (.pointer (some a0)) := by rw [hT.1 rfl]; exact c9
      have HT9 := hide hT
      clear hT hS
      refine op_run (v := .pointer (some a0)) (w' := w') ?_ ⟨_, rfl, ?_, (by show ((fun (x : Bool) (w : World) => (x = false → w = wq.drew) ∧ (x = true → R w))) _ _; rw [updL_other l (show 9 ≠ 2 by decide)]; rw [hq 9 (by kernel_rfl)]; exact HT9.out)⟩
      · simp only [execOp, Act.eval, d1, z]; first | (go_simp; done) | rfl
      · try dsimp only
        exact (slots_put (ns := 198) (hsa.size.trans rfl) (by decide))
    | 3, ho, hl, hr, hq =>
      obtain rfl := Option.some.inj ho
      try dsimp only at hd
      have g19 : a'.tmps.getD 19 undef = .int .i64 (wi : Int) := hsa.rest 19 (by rfl)
      have hT : ((fun (x : Bool) (w : World) => (x = false → w = wq.drew) ∧ (x = true → R w))) false w' := by have h := hS; rw [hq 9 (by kernel_rfl)] at h; exact h
      refine wpOp_of rfl rfl ?_
      have HT9 := hide hT
      clear hT hS
      refine op_run (v := .int .i64 (wi : Int)) (w' := w') ?_ ⟨_, rfl, ?_, (by show ((fun (x : Bool) (w : World) => (x = false → w = wq.drew) ∧ (x = true → R w))) _ _; rw [updL_other l (show 9 ≠ 3 by decide)]; rw [hq 9 (by kernel_rfl)]; exact HT9.out)⟩
      · simp only [execOp, Act.eval, g19]; first | (go_simp; done) | rfl
      · try dsimp only
        exact (slots_put (ns := 198) (hsa.size.trans rfl) (by decide))
    | 4, ho, hl, hr, hq =>
      obtain rfl := Option.some.inj ho
      try dsimp only at hd
      have g11 : a'.tmps.getD 11 undef = .slice (some ⟨g, 0, none⟩) m oc := hsa.rest 11 (by rfl)
      have hT : ((fun (x : Bool) (w : World) => (x = false → w = wq.drew) ∧ (x = true → R w))) false w' := by have h := hS; rw [hq 9 (by kernel_rfl)] at h; exact h
      refine wpOp_of rfl rfl ?_
      have HT9 := hide hT
      clear hT hS
      refine op_run (v := .slice (some ⟨g, 0, none⟩) m oc) (w' := w') ?_ ⟨_, rfl, ?_, (by show ((fun (x : Bool) (w : World) => (x = false → w = wq.drew) ∧ (x = true → R w))) _ _; rw [updL_other l (show 9 ≠ 4 by decide)]; rw [hq 9 (by kernel_rfl)]; exact HT9.out)⟩
      · simp only [execOp, Act.eval, g11]; first | (go_simp; done) | rfl
      · try dsimp only
        exact (slots_put (ns := 198) (hsa.size.trans rfl) (by decide))
    | 5, ho, hl, hr, hq =>
      obtain rfl := Option.some.inj ho
      try dsimp only at hd
      have g19 : a'.tmps.getD 19 undef = .int .i64 (wi : Int) := hsa.rest 19 (by rfl)
      have hT : ((fun (x : Bool) (w : World) => (x = false → w = wq.drew) ∧ (x = true → R w))) false w' := by have h := hS; rw [hq 9 (by kernel_rfl)] at h; exact h
      refine wpOp_of rfl rfl ?_
      have HT9 := hide hT
      clear hT hS
      refine op_run (v := .int .i64 (wi : Int)) (w' := w') ?_ ⟨_, rfl, ?_, (by show ((fun (x : Bool) (w : World) => (x = false → w = wq.drew) ∧ (x = true → R w))) _ _; rw [updL_other l (show 9 ≠ 5 by decide)]; rw [hq 9 (by kernel_rfl)]; exact HT9.out)⟩
      · simp only [execOp, Act.eval, g19]; first | (go_simp; done) | rfl
      · try dsimp only
        exact (slots_put (ns := 198) (hsa.size.trans rfl) (by decide))
    | 6, ho, hl, hr, hq =>
      obtain rfl := Option.some.inj ho
      try dsimp only at hd
      have d4 : a'.tmps.getD 96 undef = .slice (some ⟨g, 0, none⟩) m oc := hd 4 (by rfl)
      have d5 : a'.tmps.getD 97 undef = .int .i64 (wi : Int) := hd 5 (by rfl)
      have hT : ((fun (x : Bool) (w : World) => (x = false → w = wq.drew) ∧ (x = true → R w))) false w' := by have h := hS; rw [hq 9 (by kernel_rfl)] at h; exact h
      refine wpOp_of rfl rfl ?_
      have HT9 := hide hT
      clear hT hS
      refine op_run (v := .pointer (some ⟨g, wi, none⟩)) (w' := w') ?_ ⟨_, rfl, ?_, (by show ((fun (x : Bool) (w : World) => (x = false → w = wq.drew) ∧ (x = true → R w))) _ _; rw [updL_other l (show 9 ≠ 6 by decide)]; rw [hq 9 (by kernel_rfl)]; exact HT9.out)⟩
      · simp only [execOp, Act.eval, d4, d5]; first | (go_simp; done) | rfl
      · try dsimp only
        exact (slots_put (ns := 198) (hsa.size.trans rfl) (by decide))
    | 7, ho, hl, hr, hq =>
      obtain rfl := Option.some.inj ho
      try dsimp only at hd
      have d6 : a'.tmps.getD 98 undef = .pointer (some ⟨g, wi, none⟩) := hd 6 (by rfl)
      have hT : ((fun (x : Bool) (w : World) => (x = false → w = wq.drew) ∧ (x = true → R w))) false w' := by have h := hS; rw [hq 9 (by kernel_rfl)] at h; exact h
      refine wpOp_of rfl rfl ?_
      have z : w'.cell? ⟨g, wi, none⟩ = some (.pointer (some a1)) := by rw [hT.1 rfl]; exact c0
      have HT9 := hide hT
      clear hT hS
      refine op_run (v := .pointer (some a1)) (w' := w') ?_ ⟨_, rfl, ?_, (by show ((fun (x : Bool) (w : World) => (x = false → w = wq.drew) ∧ (x = true → R w))) _ _; rw [updL_other l (show 9 ≠ 7 by decide)]; rw [hq 9 (by kernel_rfl)]; exact HT9.out)⟩
      · simp only [execOp, Act.eval, d6, z]; first | (go_simp; done) | rfl
      · try dsimp only
        exact (slots_put (ns := 198) (hsa.size.trans rfl) (by decide))
    | 8, ho, hl, hr, hq =>
      obtain rfl := Option.some.inj ho
      try dsimp only at hd
      have d7 : a'.tmps.getD 99 undef = .pointer (some a1) := hd 7 (by rfl)
      have hT : ((fun (x : Bool) (w : World) => (x = false → w = wq.drew) ∧ (x = true → R w))) false w' := by have h := hS; rw [hq 9 (by kernel_rfl)] at h; exact h
      refine wpOp_of rfl rfl ?_
      obtain rfl := hT.1 rfl
      refine op_call 25 _ _ rfl (enters_of Try.func25 (by kernel_rfl) rfl) [.pointer (some a1)] (by simp only [List.map, Act.eval, d7]) HR8.out ?_
      rintro e w'' ⟨rfl, rfl⟩
      refine ⟨_, rfl, _, rfl, (slots_put (ns := 198) (hsa.size.trans rfl) (by decide)), (by show ((fun (x : Bool) (w : World) => (x = false → w = wq.drew) ∧ (x = true → R w))) _ _; rw [updL_other l (show 9 ≠ 8 by decide)]; rw [hq 9 (by kernel_rfl)]; exact ⟨(fun _ => rfl), (fun e => by cases e)⟩)⟩
    | 9, ho, hl, hr, hq =>
      obtain rfl := Option.some.inj ho
      try dsimp only at hd
      have d2 : a'.tmps.getD 94 undef = .pointer (some a0) := hd 2 (by rfl)
      have d3 : a'.tmps.getD 95 undef = .int .i64 (wi : Int) := hd 3 (by rfl)
      have d8 : a'.tmps.getD 100 undef = .int .i64 x := hd 8 (by rfl)
      have hT : ((fun (x : Bool) (w : World) => (x = false → w = wq.drew) ∧ (x = true → R w))) false w' := by have h := hS; rw [hl] at h; exact h
      refine wpOp_of rfl rfl ?_
      obtain rfl := hT.1 rfl
      refine op_call 17 _ _ rfl (enters_of Try.func17 (by kernel_rfl) rfl) [.pointer (some a0), .int .i64 (wi : Int), .int .i64 x] (by simp only [List.map, Act.eval, d2, d3, d8]) HE.out ?_
      rintro e w'' ⟨rfl, r1⟩
      refine ⟨_, rfl, _, rfl, (slots_put (ns := 198) (hsa.size.trans rfl) (by decide)), (by show ((fun (x : Bool) (w : World) => (x = false → w = wq.drew) ∧ (x = true → R w))) _ _; rw [updL_same]; exact ⟨(fun e => by cases e), fun _ => r1⟩)⟩
    | (n + 10), ho, _, _, _ => exact absurd ho (by simp)
  case pdone =>
    intro a' w' l hl hsa hS hd
    have hT : ((fun (x : Bool) (w : World) => (x = false → w = wq.drew) ∧ (x = true → R w))) true w' := by have h := hS; rw [hl 9 (by decide)] at h; exact h
    have d0 : a'.tmps.getD 92 undef = .slice (some ⟨g, 0, none⟩) m oc := hd 0 (by decide)
    have d1 : a'.tmps.getD 93 undef = .pointer (some ⟨g, 0, none⟩) := hd 1 (by decide)
    have d2 : a'.tmps.getD 94 undef = .pointer (some a0) := hd 2 (by decide)
    have d3 : a'.tmps.getD 95 undef = .int .i64 (wi : Int) := hd 3 (by decide)
    have d4 : a'.tmps.getD 96 undef = .slice (some ⟨g, 0, none⟩) m oc := hd 4 (by decide)
    have d5 : a'.tmps.getD 97 undef = .int .i64 (wi : Int) := hd 5 (by decide)
    have d6 : a'.tmps.getD 98 undef = .pointer (some ⟨g, wi, none⟩) := hd 6 (by decide)
    have d7 : a'.tmps.getD 99 undef = .pointer (some a1) := hd 7 (by decide)
    have d8 : a'.tmps.getD 100 undef = .int .i64 x := hd 8 (by decide)
    have d9 : a'.tmps.getD 101 undef = .bool r := hd 9 (by decide)
    exact HQ.out a' w' ⟨hsa.size.trans rfl, hsa.defers.trans rfl, hsa.rest 0 (by rfl), hsa.rest 1 (by rfl), hsa.rest 2 (by rfl), hsa.rest 6 (by rfl), hsa.rest 7 (by rfl), hsa.rest 8 (by rfl), hsa.rest 9 (by rfl), hsa.rest 10 (by rfl), hsa.rest 11 (by rfl), hsa.rest 12 (by rfl), hsa.rest 13 (by rfl), hsa.rest 14 (by rfl), hsa.rest 15 (by rfl), hsa.rest 16 (by rfl), hsa.rest 17 (by rfl), hsa.rest 18 (by rfl), hsa.rest 19 (by rfl), hsa.rest 20 (by rfl), hsa.rest 21 (by rfl), hsa.rest 22 (by rfl), hsa.rest 23 (by rfl), hsa.rest 24 (by rfl), hsa.rest 89 (by rfl)⟩ (hT.2 rfl)
set_option maxHeartbeats 8000000 in
set_option maxRecDepth 100000 in
theorem aa_r41 {K : Act → World → Prop} {c : Code} (hc : regOf (Try.f4.body.getD .skip) 41 = some c) (a : Act) {v : Vaa} {wq : World} {R : World → Prop} {n oc uc : Nat} {oo uo : Option Addr} (hF : Faa a v) (h11v : v.v11 = .slice oo n oc) (h16v : v.v16 = .slice uo n uc) (hE : Calls Try.prog 29 #[.slice oo n oc, .slice uo n uc] wq fun e w' => e = .returned (.bool true) ∧ R w')
    (hQ : ∀ a' w1, Faa a' { v with v24 := .bool true } → R w1 → K a' w1) :
    Code.wp Try.prog c (Exit.then K fun _ _ _ => False) a wq := by
  have HQ := hide hQ
  clear hQ
  obtain ⟨t', d'⟩ := a
  obtain ⟨v0, v1, v2, v6, v7, v8, v9, v10, v11, v12, v13, v14, v15, v16, v17, v18, v19, v20, v21, v22, v23, v24, v89⟩ := v
  simp only at h11v h16v HQ
  subst h11v h16v
  obtain ⟨hs1, hd1, q0, q1, q2, q6, q7, q8, q9, q10, q11, q12, q13, q14, q15, q16, q17, q18, q19, q20, q21, q22, q23, q24, q89⟩ := hF
  obtain ⟨u, hu⟩ := frame_aa t' hs1
  simp only at hd1 q0 q1 q2 q6 q7 q8 q9 q10 q11 q12 q13 q14 q15 q16 q17 q18 q19 q20 q21 q22 q23 q24 q89
  subst hu hd1
  have e0 : u 0 = v0 := q0
  have e1 : u 1 = v1 := q1
  have e2 : u 2 = v2 := q2
  have e6 : u 6 = v6 := q6
  have e7 : u 7 = v7 := q7
  have e8 : u 8 = v8 := q8
  have e9 : u 9 = v9 := q9
  have e10 : u 10 = v10 := q10
  have e11 : u 11 = .slice oo n oc := q11
  have e12 : u 12 = v12 := q12
  have e13 : u 13 = v13 := q13
  have e14 : u 14 = v14 := q14
  have e15 : u 15 = v15 := q15
  have e16 : u 16 = .slice uo n uc := q16
  have e17 : u 17 = v17 := q17
  have e18 : u 18 = v18 := q18
  have e19 : u 19 = v19 := q19
  have e20 : u 20 = v20 := q20
  have e21 : u 21 = v21 := q21
  have e22 : u 22 = v22 := q22
  have e23 : u 23 = v23 := q23
  have e24 : u 24 = v24 := q24
  have e89 : u 89 = v89 := q89
  rw [e0, e1, e2, e6, e7, e8, e9, e10, e11, e12, e13, e14, e15, e16, e17, e18, e19, e20, e21, e22, e23, e24, e89]
  clear q0 e0 q1 e1 q2 e2 q6 e6 q7 e7 q8 e8 q9 e9 q10 e10 q11 e11 q12 e12 q13 e13 q14 e14 q15 e15 q16 e16 q17 e17 q18 e18 q19 e19 q20 e20 q21 e21 q22 e22 q23 e23 q24 e24 q89 e89 hs1
  simp only [Try.f4, Option.getD_some, regOf] at hc
  injection hc with hc
  subst hc
  have HE := hide hE
  clear hE
  go_wp2_with (go_at_call 29; refine HE.out.mono ?_; rintro e w1 ⟨rfl, r1⟩; have R1 := hide r1; clear r1)
  exact HQ.out _ _ ⟨rfl, rfl, rfl, rfl, rfl, rfl, rfl, rfl, rfl, rfl, rfl, rfl, rfl, rfl, rfl, rfl, rfl, rfl, rfl, rfl, rfl, rfl, rfl, rfl, rfl⟩ R1.out
set_option maxHeartbeats 8000000 in
set_option maxRecDepth 100000 in
theorem aa_r42 {K : Act → World → Prop} {c : Code} (hc : regOf (Try.f4.body.getD .skip) 42 = some c) (a : Act) {v : Vaa} {wq : World}  (hF : Faa a v) (h24v : v.v24 = .bool true) (hQ : ∀ a', Faa a' v → a'.tmps.getD 196 undef = .bool false → K a' wq) :
    Code.wp Try.prog c (Exit.then K fun _ _ _ => False) a wq := by
  have HQ := hide hQ
  clear hQ
  obtain ⟨t', d'⟩ := a
  obtain ⟨v0, v1, v2, v6, v7, v8, v9, v10, v11, v12, v13, v14, v15, v16, v17, v18, v19, v20, v21, v22, v23, v24, v89⟩ := v
  simp only at h24v HQ
  subst h24v
  obtain ⟨hs1, hd1, q0, q1, q2, q6, q7, q8, q9, q10, q11, q12, q13, q14, q15, q16, q17, q18, q19, q20, q21, q22, q23, q24, q89⟩ := hF
  obtain ⟨u, hu⟩ := frame_aa t' hs1
  simp only at hd1 q0 q1 q2 q6 q7 q8 q9 q10 q11 q12 q13 q14 q15 q16 q17 q18 q19 q20 q21 q22 q23 q24 q89
  subst hu hd1
  have e0 : u 0 = v0 := q0
  have e1 : u 1 = v1 := q1
  have e2 : u 2 = v2 := q2
  have e6 : u 6 = v6 := q6
  have e7 : u 7 = v7 := q7
  have e8 : u 8 = v8 := q8
  have e9 : u 9 = v9 := q9
  have e10 : u 10 = v10 := q10
  have e11 : u 11 = v11 := q11
  have e12 : u 12 = v12 := q12
  have e13 : u 13 = v13 := q13
  have e14 : u 14 = v14 := q14
  have e15 : u 15 = v15 := q15
  have e16 : u 16 = v16 := q16
  have e17 : u 17 = v17 := q17
  have e18 : u 18 = v18 := q18
  have e19 : u 19 = v19 := q19
  have e20 : u 20 = v20 := q20
  have e21 : u 21 = v21 := q21
  have e22 : u 22 = v22 := q22
  have e23 : u 23 = v23 := q23
  have e24 : u 24 = .bool true := q24
  have e89 : u 89 = v89 := q89
  rw [e0, e1, e2, e6, e7, e8, e9, e10, e11, e12, e13, e14, e15, e16, e17, e18, e19, e20, e21, e22, e23, e24, e89]
  clear q0 e0 q1 e1 q2 e2 q6 e6 q7 e7 q8 e8 q9 e9 q10 e10 q11 e11 q12 e12 q13 e13 q14 e14 q15 e15 q16 e16 q17 e17 q18 e18 q19 e19 q20 e20 q21 e21 q22 e22 q23 e23 q24 e24 q89 e89 hs1
  simp only [Try.f4, Option.getD_some, regOf] at hc
  injection hc with hc
  subst hc
  go_wp2
  exact HQ.out _ ⟨rfl, rfl, rfl, rfl, rfl, rfl, rfl, rfl, rfl, rfl, rfl, rfl, rfl, rfl, rfl, rfl, rfl, rfl, rfl, rfl, rfl, rfl, rfl, rfl, rfl⟩ (by first | rfl | (simp; done))
set_option maxHeartbeats 8000000 in
set_option maxRecDepth 100000 in
theorem aa_r21 {K : Act → World → Prop} {c : Code} (hc : regOf (Try.f4.body.getD .skip) 21 = some c) (a : Act) {v : Vaa} {wq : World} {k : Nat} (hF : Faa a v) (h17v : v.v17 = .int .i64 (k : Int)) (hk : k ≤ 1000000) (hQ : ∀ a', Faa a' { v with v17 := .int .i64 ((k + 1 : Nat) : Int) } → K a' wq) :
    Code.wp Try.prog c (Exit.then K fun _ _ _ => False) a wq := by
  have HQ := hide hQ
  clear hQ
  obtain ⟨t', d'⟩ := a
  obtain ⟨v0, v1, v2, v6, v7, v8, v9, v10, v11, v12, v13, v14, v15, v16, v17, v18, v19, v20, v21, v22, v23, v24, v89⟩ := v
  simp only at h17v HQ
  subst h17v
  obtain ⟨hs1, hd1, q0, q1, q2, q6, q7, q8, q9, q10, q11, q12, q13, q14, q15, q16, q17, q18, q19, q20, q21, q22, q23, q24, q89⟩ := hF
  obtain ⟨u, hu⟩ := frame_aa t' hs1
  simp only at hd1 q0 q1 q2 q6 q7 q8 q9 q10 q11 q12 q13 q14 q15 q16 q17 q18 q19 q20 q21 q22 q23 q24 q89
  subst hu hd1
  have e0 : u 0 = v0 := q0
  have e1 : u 1 = v1 := q1
  have e2 : u 2 = v2 := q2
  have e6 : u 6 = v6 := q6
  have e7 : u 7 = v7 := q7
  have e8 : u 8 = v8 := q8
  have e9 : u 9 = v9 := q9
  have e10 : u 10 = v10 := q10
  have e11 : u 11 = v11 := q11
  have e12 : u 12 = v12 := q12
  have e13 : u 13 = v13 := q13
  have e14 : u 14 = v14 := q14
  have e15 : u 15 = v15 := q15
  have e16 : u 16 = v16 := q16
  have e17 : u 17 = .int .i64 (k : Int) := q17
  have e18 : u 18 = v18 := q18
  have e19 : u 19 = v19 := q19
  have e20 : u 20 = v20 := q20
  have e21 : u 21 = v21 := q21
  have e22 : u 22 = v22 := q22
  have e23 : u 23 = v23 := q23
  have e24 : u 24 = v24 := q24
  have e89 : u 89 = v89 := q89
  rw [e0, e1, e2, e6, e7, e8, e9, e10, e11, e12, e13, e14, e15, e16, e17, e18, e19, e20, e21, e22, e23, e24, e89]
  clear q0 e0 q1 e1 q2 e2 q6 e6 q7 e7 q8 e8 q9 e9 q10 e10 q11 e11 q12 e12 q13 e13 q14 e14 q15 e15 q16 e16 q17 e17 q18 e18 q19 e19 q20 e20 q21 e21 q22 e22 q23 e23 q24 e24 q89 e89 hs1
  simp only [Try.f4, Option.getD_some, regOf] at hc
  injection hc with hc
  subst hc
  have hc : ((k + 1 : Nat) : Int) = (k : Int) + 1 := by omega
  rw [hc] at HQ
  go_wp2
  exact HQ.out _ ⟨rfl, rfl, rfl, rfl, rfl, rfl, rfl, rfl, rfl, rfl, rfl, rfl, rfl, rfl, rfl, rfl, rfl, rfl, rfl, rfl, rfl, rfl, rfl, rfl, rfl⟩
set_option maxHeartbeats 8000000 in
set_option maxRecDepth 100000 in
theorem aa_r44 {K : Act → World → Prop} {c : Code} (hc : regOf (Try.f4.body.getD .skip) 44 = some c) (a : Act) {v : Vaa} {wq : World}  (hF : Faa a v) (h7v : v.v7 = .bool true) (hQ : ∀ a', Faa a' { v with v6 := .bool true } → K a' wq) :
    Code.wp Try.prog c (Exit.then K fun _ _ _ => False) a wq := by
  have HQ := hide hQ
  clear hQ
  obtain ⟨t', d'⟩ := a
  obtain ⟨v0, v1, v2, v6, v7, v8, v9, v10, v11, v12, v13, v14, v15, v16, v17, v18, v19, v20, v21, v22, v23, v24, v89⟩ := v
  simp only at h7v HQ
  subst h7v
  obtain ⟨hs1, hd1, q0, q1, q2, q6, q7, q8, q9, q10, q11, q12, q13, q14, q15, q16, q17, q18, q19, q20, q21, q22, q23, q24, q89⟩ := hF
  obtain ⟨u, hu⟩ := frame_aa t' hs1
  simp only at hd1 q0 q1 q2 q6 q7 q8 q9 q10 q11 q12 q13 q14 q15 q16 q17 q18 q19 q20 q21 q22 q23 q24 q89
  subst hu hd1
  have e0 : u 0 = v0 := q0
  have e1 : u 1 = v1 := q1
  have e2 : u 2 = v2 := q2
  have e6 : u 6 = v6 := q6
  have e7 : u 7 = .bool true := q7
  have e8 : u 8 = v8 := q8
  have e9 : u 9 = v9 := q9
  have e10 : u 10 = v10 := q10
  have e11 : u 11 = v11 := q11
  have e12 : u 12 = v12 := q12
  have e13 : u 13 = v13 := q13
  have e14 : u 14 = v14 := q14
  have e15 : u 15 = v15 := q15
  have e16 : u 16 = v16 := q16
  have e17 : u 17 = v17 := q17
  have e18 : u 18 = v18 := q18
  have e19 : u 19 = v19 := q19
  have e20 : u 20 = v20 := q20
  have e21 : u 21 = v21 := q21
  have e22 : u 22 = v22 := q22
  have e23 : u 23 = v23 := q23
  have e24 : u 24 = v24 := q24
  have e89 : u 89 = v89 := q89
  rw [e0, e1, e2, e6, e7, e8, e9, e10, e11, e12, e13, e14, e15, e16, e17, e18, e19, e20, e21, e22, e23, e24, e89]
  clear q0 e0 q1 e1 q2 e2 q6 e6 q7 e7 q8 e8 q9 e9 q10 e10 q11 e11 q12 e12 q13 e13 q14 e14 q15 e15 q16 e16 q17 e17 q18 e18 q19 e19 q20 e20 q21 e21 q22 e22 q23 e23 q24 e24 q89 e89 hs1
  simp only [Try.f4, Option.getD_some, regOf] at hc
  injection hc with hc
  subst hc
  go_wp2
  exact HQ.out _ ⟨rfl, rfl, rfl, rfl, rfl, rfl, rfl, rfl, rfl, rfl, rfl, rfl, rfl, rfl, rfl, rfl, rfl, rfl, rfl, rfl, rfl, rfl, rfl, rfl, rfl⟩
theorem aa_ret {W : World} {a : Act} {v : Vaa} {x : Bool} {R : Ending → World → Prop} (hF : Faa a v) (h2 : v.v6 = .bool x) (h : R (.returned (.bool x)) W) : bodyPost Try.prog Try.f4 R .ret a W := by
  have g0 := slot_get (hF.s6.trans h2)
  refine bodyPost_ret (v := .bool x) ?_ hF.defers h
  simp [results, Try.results4, go_sem, g0]
end Go.Proofs.Ytjgbgbgajadgnaa
