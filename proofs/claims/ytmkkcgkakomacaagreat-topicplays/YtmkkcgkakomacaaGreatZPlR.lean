/-
  TopicPlays' regions (mkpl.py).
-/
import Derived.Test.YtmkkcgkakomacaaGreatZYC4
import Derived.Test.YtmkkcgkakomacaaGreatZUQ
import Derived.Test.YtmkkcgkakomacaaGreatZT7
import Derived.Test.YtmkkcgkakomacaaGreatZTK
import Derived.Test.YtmkkcgkakomacaaGreatZXF
import Derived.Laws.StructEq
namespace Go.Proofs.YtmkkcgkakomacaaGreat.Y
open Go.RowKit
set_option maxHeartbeats 8000000
set_option maxRecDepth 100000
attribute [local go_sem ↓] Go.wp_at_zero Go.wp_at_succ
set_option linter.unusedSimpArgs false
set_option linter.unusedVariables false
open Go.Maps
theorem frame_pl (t : Array Value) (h : t.size = 214) : ∃ u : Nat → Value, t = List.toArray (u 0 :: u 1 :: u 2 :: u 3 :: u 4 :: u 5 :: u 6 :: u 7 :: u 8 :: u 9 :: u 10 :: u 11 :: u 12 :: u 13 :: u 14 :: u 15 :: u 16 :: u 17 :: u 18 :: u 19 :: u 20 :: u 21 :: u 22 :: u 23 :: u 24 :: u 25 :: u 26 :: u 27 :: u 28 :: u 29 :: u 30 :: u 31 :: u 32 :: u 33 :: u 34 :: u 35 :: u 36 :: u 37 :: u 38 :: u 39 :: u 40 :: u 41 :: u 42 :: u 43 :: u 44 :: u 45 :: u 46 :: u 47 :: u 48 :: u 49 :: u 50 :: u 51 :: u 52 :: u 53 :: u 54 :: u 55 :: u 56 :: u 57 :: u 58 :: u 59 :: u 60 :: u 61 :: u 62 :: u 63 :: u 64 :: u 65 :: u 66 :: u 67 :: u 68 :: u 69 :: u 70 :: u 71 :: u 72 :: u 73 :: u 74 :: u 75 :: u 76 :: u 77 :: u 78 :: u 79 :: u 80 :: u 81 :: u 82 :: u 83 :: u 84 :: u 85 :: u 86 :: u 87 :: u 88 :: u 89 :: u 90 :: u 91 :: u 92 :: u 93 :: u 94 :: u 95 :: u 96 :: u 97 :: u 98 :: u 99 :: u 100 :: u 101 :: u 102 :: u 103 :: u 104 :: u 105 :: u 106 :: u 107 :: u 108 :: u 109 :: u 110 :: u 111 :: u 112 :: u 113 :: u 114 :: u 115 :: u 116 :: u 117 :: u 118 :: u 119 :: u 120 :: u 121 :: u 122 :: u 123 :: u 124 :: u 125 :: u 126 :: u 127 :: u 128 :: u 129 :: u 130 :: u 131 :: u 132 :: u 133 :: u 134 :: u 135 :: u 136 :: u 137 :: u 138 :: u 139 :: u 140 :: u 141 :: u 142 :: u 143 :: u 144 :: u 145 :: u 146 :: u 147 :: u 148 :: u 149 :: u 150 :: u 151 :: u 152 :: u 153 :: u 154 :: u 155 :: u 156 :: u 157 :: u 158 :: u 159 :: u 160 :: u 161 :: u 162 :: u 163 :: u 164 :: u 165 :: u 166 :: u 167 :: u 168 :: u 169 :: u 170 :: u 171 :: u 172 :: u 173 :: u 174 :: u 175 :: u 176 :: u 177 :: u 178 :: u 179 :: u 180 :: u 181 :: u 182 :: u 183 :: u 184 :: u 185 :: u 186 :: u 187 :: u 188 :: u 189 :: u 190 :: u 191 :: u 192 :: u 193 :: u 194 :: u 195 :: u 196 :: u 197 :: u 198 :: u 199 :: u 200 :: u 201 :: u 202 :: u 203 :: u 204 :: u 205 :: u 206 :: u 207 :: u 208 :: u 209 :: u 210 :: u 211 :: u 212 :: u 213 :: []) := by
  refine ⟨fun i => t.getD i undef, ?_⟩
  refine Eq.trans (b := ((List.range 214).map fun i => t.getD i undef).toArray) ?_ rfl
  apply Array.ext
  · simp [h]
  · intro k h1 h2
    simp [Array.getD, h1]
structure Vpl where
  v0 : Value
  v1 : Value
  v4 : Value
  v5 : Value
  v6 : Value
  v7 : Value
  v8 : Value
  v9 : Value
  v10 : Value
  v11 : Value
  v12 : Value
  v13 : Value
  v14 : Value
  v15 : Value
  v16 : Value
  v17 : Value
  v18 : Value
  v19 : Value
  v20 : Value
  v21 : Value
  v22 : Value
  v64 : Value
structure Fpl (a : Act) (v : Vpl) : Prop where
  size : a.tmps.size = 214
  defers : a.defers = []
  s0 : a.tmps.getD 0 undef = v.v0
  s1 : a.tmps.getD 1 undef = v.v1
  s4 : a.tmps.getD 4 undef = v.v4
  s5 : a.tmps.getD 5 undef = v.v5
  s6 : a.tmps.getD 6 undef = v.v6
  s7 : a.tmps.getD 7 undef = v.v7
  s8 : a.tmps.getD 8 undef = v.v8
  s9 : a.tmps.getD 9 undef = v.v9
  s10 : a.tmps.getD 10 undef = v.v10
  s11 : a.tmps.getD 11 undef = v.v11
  s12 : a.tmps.getD 12 undef = v.v12
  s13 : a.tmps.getD 13 undef = v.v13
  s14 : a.tmps.getD 14 undef = v.v14
  s15 : a.tmps.getD 15 undef = v.v15
  s16 : a.tmps.getD 16 undef = v.v16
  s17 : a.tmps.getD 17 undef = v.v17
  s18 : a.tmps.getD 18 undef = v.v18
  s19 : a.tmps.getD 19 undef = v.v19
  s20 : a.tmps.getD 20 undef = v.v20
  s21 : a.tmps.getD 21 undef = v.v21
  s22 : a.tmps.getD 22 undef = v.v22
  s64 : a.tmps.getD 64 undef = v.v64
theorem frx_pl {a : Act} {v0 v1 v4 v5 v6 v7 v8 v9 v10 v11 v12 v13 v14 v15 v16 v17 v18 v19 v20 v21 v22 v64 : Value} (h : Fpl a ⟨v0, v1, v4, v5, v6, v7, v8, v9, v10, v11, v12, v13, v14, v15, v16, v17, v18, v19, v20, v21, v22, v64⟩) : ∃ u : Nat → Value, a = ⟨List.toArray (v0 :: v1 :: u 2 :: u 3 :: v4 :: v5 :: v6 :: v7 :: v8 :: v9 :: v10 :: v11 :: v12 :: v13 :: v14 :: v15 :: v16 :: v17 :: v18 :: v19 :: v20 :: v21 :: v22 :: u 23 :: u 24 :: u 25 :: u 26 :: u 27 :: u 28 :: u 29 :: u 30 :: u 31 :: u 32 :: u 33 :: u 34 :: u 35 :: u 36 :: u 37 :: u 38 :: u 39 :: u 40 :: u 41 :: u 42 :: u 43 :: u 44 :: u 45 :: u 46 :: u 47 :: u 48 :: u 49 :: u 50 :: u 51 :: u 52 :: u 53 :: u 54 :: u 55 :: u 56 :: u 57 :: u 58 :: u 59 :: u 60 :: u 61 :: u 62 :: u 63 :: v64 :: u 65 :: u 66 :: u 67 :: u 68 :: u 69 :: u 70 :: u 71 :: u 72 :: u 73 :: u 74 :: u 75 :: u 76 :: u 77 :: u 78 :: u 79 :: u 80 :: u 81 :: u 82 :: u 83 :: u 84 :: u 85 :: u 86 :: u 87 :: u 88 :: u 89 :: u 90 :: u 91 :: u 92 :: u 93 :: u 94 :: u 95 :: u 96 :: u 97 :: u 98 :: u 99 :: u 100 :: u 101 :: u 102 :: u 103 :: u 104 :: u 105 :: u 106 :: u 107 :: u 108 :: u 109 :: u 110 :: u 111 :: u 112 :: u 113 :: u 114 :: u 115 :: u 116 :: u 117 :: u 118 :: u 119 :: u 120 :: u 121 :: u 122 :: u 123 :: u 124 :: u 125 :: u 126 :: u 127 :: u 128 :: u 129 :: u 130 :: u 131 :: u 132 :: u 133 :: u 134 :: u 135 :: u 136 :: u 137 :: u 138 :: u 139 :: u 140 :: u 141 :: u 142 :: u 143 :: u 144 :: u 145 :: u 146 :: u 147 :: u 148 :: u 149 :: u 150 :: u 151 :: u 152 :: u 153 :: u 154 :: u 155 :: u 156 :: u 157 :: u 158 :: u 159 :: u 160 :: u 161 :: u 162 :: u 163 :: u 164 :: u 165 :: u 166 :: u 167 :: u 168 :: u 169 :: u 170 :: u 171 :: u 172 :: u 173 :: u 174 :: u 175 :: u 176 :: u 177 :: u 178 :: u 179 :: u 180 :: u 181 :: u 182 :: u 183 :: u 184 :: u 185 :: u 186 :: u 187 :: u 188 :: u 189 :: u 190 :: u 191 :: u 192 :: u 193 :: u 194 :: u 195 :: u 196 :: u 197 :: u 198 :: u 199 :: u 200 :: u 201 :: u 202 :: u 203 :: u 204 :: u 205 :: u 206 :: u 207 :: u 208 :: u 209 :: u 210 :: u 211 :: u 212 :: u 213 :: []), []⟩ := by
  obtain ⟨t', d'⟩ := a
  obtain ⟨hs, hd, q0, q1, q4, q5, q6, q7, q8, q9, q10, q11, q12, q13, q14, q15, q16, q17, q18, q19, q20, q21, q22, q64⟩ := h
  obtain ⟨u, hu⟩ := frame_pl t' hs
  simp only at hd q0 q1 q4 q5 q6 q7 q8 q9 q10 q11 q12 q13 q14 q15 q16 q17 q18 q19 q20 q21 q22 q64
  subst hu hd
  have e0 : u 0 = v0 := q0
  have e1 : u 1 = v1 := q1
  have e4 : u 4 = v4 := q4
  have e5 : u 5 = v5 := q5
  have e6 : u 6 = v6 := q6
  have e7 : u 7 = v7 := q7
  have e8 : u 8 = v8 := q8
  have e9 : u 9 = v9 := q9
  have e10 : u 10 = v10 := q10
  have e11 : u 11 = v11 := q11
  have e12 : u 12 = v12 := q12
  have e13 : u 13 = v13 := q13
  have e14 : u 14 = v14 := q14
  have e15 : u 15 = v15 := q15
  have e16 : u 16 = v16 := q16
  have e17 : u 17 = v17 := q17
  have e18 : u 18 = v18 := q18
  have e19 : u 19 = v19 := q19
  have e20 : u 20 = v20 := q20
  have e21 : u 21 = v21 := q21
  have e22 : u 22 = v22 := q22
  have e64 : u 64 = v64 := q64
  refine ⟨u, ?_⟩
  rw [e0, e1, e4, e5, e6, e7, e8, e9, e10, e11, e12, e13, e14, e15, e16, e17, e18, e19, e20, e21, e22, e64]
theorem pl_r0 {K : Act → World → Prop} {c : Code} (hc : regOf (Tryz.f3.body.getD .skip) 0 = some c) (a : Act) {v : Vpl} {wq : World}  (hF : Fpl a v) (hQ : ∀ a', Fpl a' { v with v4 := .bool false } → K a' wq) :
    Code.wp Tryz.prog c (Exit.then K fun _ _ _ => False) a wq := by
  have HQ := hide hQ
  clear hQ
  obtain ⟨v0, v1, v4, v5, v6, v7, v8, v9, v10, v11, v12, v13, v14, v15, v16, v17, v18, v19, v20, v21, v22, v64⟩ := v
  obtain ⟨u, rfl⟩ := frx_pl hF
  clear hF
  simp only [Tryz.f3, Option.getD_some, regOf] at hc
  injection hc with hc
  subst hc
  go_wp2
  exact HQ.out _ ⟨rfl, rfl, rfl, rfl, rfl, rfl, rfl, rfl, rfl, rfl, rfl, rfl, rfl, rfl, rfl, rfl, rfl, rfl, rfl, rfl, rfl, rfl, rfl, rfl⟩
theorem pl_r1 {K : Act → World → Prop} {c : Code} (hc : regOf (Tryz.f3.body.getD .skip) 1 = some c) (a : Act) {v : Vpl} {wq : World}  {R : World → Prop} (hF : Fpl a v) (hE : Calls Tryz.prog 6 #[] wq fun e w' => e = .returned (.bool true) ∧ R w')
    (hQ : ∀ a' w', Fpl a' { v with v5 := .bool true } → R w' → K a' w') :
    Code.wp Tryz.prog c (Exit.then K fun _ _ _ => False) a wq := by
  have HQ := hide hQ
  clear hQ
  obtain ⟨v0, v1, v4, v5, v6, v7, v8, v9, v10, v11, v12, v13, v14, v15, v16, v17, v18, v19, v20, v21, v22, v64⟩ := v
  obtain ⟨u, rfl⟩ := frx_pl hF
  clear hF
  simp only [Tryz.f3, Option.getD_some, regOf] at hc
  injection hc with hc
  subst hc
  have HE := hide hE
  clear hE
  go_wp2_with (go_at_call 6; refine HE.out.mono ?_; rintro e w1 ⟨rfl, r1⟩; have R1 := hide r1; clear r1)
  exact HQ.out _ _ ⟨rfl, rfl, rfl, rfl, rfl, rfl, rfl, rfl, rfl, rfl, rfl, rfl, rfl, rfl, rfl, rfl, rfl, rfl, rfl, rfl, rfl, rfl, rfl, rfl⟩ R1.out
theorem pl_r2 {K : Act → World → Prop} {c : Code} (hc : regOf (Tryz.f3.body.getD .skip) 2 = some c) (a : Act) {v : Vpl} {wq : World} {s : ByteArray} {ec : Int} {R : Option Addr → World → Prop} (hF : Fpl a v) (h0v : v.v0 = .string s) (hE : Calls Tryz.prog 7 #[.string s] wq fun e w' => ∃ po, e = .returned (.tuple #[.pointer po, .int .i64 ec]) ∧ R po w')
    (hQ : ∀ a' w' po, Fpl a' { v with v6 := .pointer po, v7 := .int .i64 ec } → R po w' → K a' w') :
    Code.wp Tryz.prog c (Exit.then K fun _ _ _ => False) a wq := by
  have HQ := hide hQ
  clear hQ
  obtain ⟨v0, v1, v4, v5, v6, v7, v8, v9, v10, v11, v12, v13, v14, v15, v16, v17, v18, v19, v20, v21, v22, v64⟩ := v
  simp only at h0v HQ
  subst h0v
  obtain ⟨u, rfl⟩ := frx_pl hF
  clear hF
  simp only [Tryz.f3, Option.getD_some, regOf] at hc
  injection hc with hc
  subst hc
  have HE := hide hE
  clear hE
  go_wp2_with (go_at_call 7; refine HE.out.mono ?_; rintro e w1 ⟨po, rfl, r1⟩; have R1 := hide r1; clear r1)
  exact HQ.out _ _ po ⟨rfl, rfl, rfl, rfl, rfl, rfl, rfl, rfl, rfl, rfl, rfl, rfl, rfl, rfl, rfl, rfl, rfl, rfl, rfl, rfl, rfl, rfl, rfl, rfl⟩ R1.out
theorem pl_r3 {K : Act → World → Prop} {c : Code} (hc : regOf (Tryz.f3.body.getD .skip) 3 = some c) (a : Act) {v : Vpl} {wq : World} {s : ByteArray} {R : Option Addr → World → Prop} (hF : Fpl a v) (h0v : v.v0 = .string s) (hE : Calls Tryz.prog 8 #[.string s] wq fun e w' => ∃ po, e = .returned (.pointer po) ∧ R po w')
    (hQ : ∀ a' w' po, Fpl a' { v with v8 := .pointer po } → R po w' → K a' w') :
    Code.wp Tryz.prog c (Exit.then K fun _ _ _ => False) a wq := by
  have HQ := hide hQ
  clear hQ
  obtain ⟨v0, v1, v4, v5, v6, v7, v8, v9, v10, v11, v12, v13, v14, v15, v16, v17, v18, v19, v20, v21, v22, v64⟩ := v
  simp only at h0v HQ
  subst h0v
  obtain ⟨u, rfl⟩ := frx_pl hF
  clear hF
  simp only [Tryz.f3, Option.getD_some, regOf] at hc
  injection hc with hc
  subst hc
  have HE := hide hE
  clear hE
  go_wp2_with (go_at_call 8; refine HE.out.mono ?_; rintro e w1 ⟨po, rfl, r1⟩; have R1 := hide r1; clear r1)
  exact HQ.out _ _ po ⟨rfl, rfl, rfl, rfl, rfl, rfl, rfl, rfl, rfl, rfl, rfl, rfl, rfl, rfl, rfl, rfl, rfl, rfl, rfl, rfl, rfl, rfl, rfl, rfl⟩ R1.out
theorem pl_r4n {K : Act → World → Prop} {c : Code} (hc : regOf (Tryz.f3.body.getD .skip) 4 = some c) (a : Act) {v : Vpl} {wq : World}  (hF : Fpl a v) (h8v : v.v8 = .pointer none) (hQ : ∀ a', Fpl a' v → a'.tmps.getD 32 undef = .bool true → K a' wq) :
    Code.wp Tryz.prog c (Exit.then K fun _ _ _ => False) a wq := by
  have HQ := hide hQ
  clear hQ
  obtain ⟨v0, v1, v4, v5, v6, v7, v8, v9, v10, v11, v12, v13, v14, v15, v16, v17, v18, v19, v20, v21, v22, v64⟩ := v
  simp only at h8v HQ
  subst h8v
  obtain ⟨u, rfl⟩ := frx_pl hF
  clear hF
  simp only [Tryz.f3, Option.getD_some, regOf] at hc
  injection hc with hc
  subst hc
  go_wp2
  exact HQ.out _ ⟨rfl, rfl, rfl, rfl, rfl, rfl, rfl, rfl, rfl, rfl, rfl, rfl, rfl, rfl, rfl, rfl, rfl, rfl, rfl, rfl, rfl, rfl, rfl, rfl⟩ (by first | rfl | (simp; done))
theorem pl_r4s {K : Act → World → Prop} {c : Code} (hc : regOf (Tryz.f3.body.getD .skip) 4 = some c) (a : Act) {v : Vpl} {wq : World} {xb : Nat} (hF : Fpl a v) (h8v : v.v8 = .pointer (some ⟨xb, 0, none⟩)) (hQ : ∀ a', Fpl a' v → a'.tmps.getD 32 undef = .bool false → K a' wq) :
    Code.wp Tryz.prog c (Exit.then K fun _ _ _ => False) a wq := by
  have HQ := hide hQ
  clear hQ
  obtain ⟨v0, v1, v4, v5, v6, v7, v8, v9, v10, v11, v12, v13, v14, v15, v16, v17, v18, v19, v20, v21, v22, v64⟩ := v
  simp only at h8v HQ
  subst h8v
  obtain ⟨u, rfl⟩ := frx_pl hF
  clear hF
  simp only [Tryz.f3, Option.getD_some, regOf] at hc
  injection hc with hc
  subst hc
  go_wp2
  exact HQ.out _ ⟨rfl, rfl, rfl, rfl, rfl, rfl, rfl, rfl, rfl, rfl, rfl, rfl, rfl, rfl, rfl, rfl, rfl, rfl, rfl, rfl, rfl, rfl, rfl, rfl⟩ (by first | rfl | (simp; done))
theorem pl_r5 {K : Act → World → Prop} {c : Code} (hc : regOf (Tryz.f3.body.getD .skip) 5 = some c) (a : Act) {v : Vpl} {wq : World}  (hF : Fpl a v) (h5v : v.v5 = .bool true) (h6v : v.v6 = .pointer none) (h7v : v.v7 = .int .i64 5) (hQ : ∀ a', Fpl a' { v with v4 := .bool true } → K a' wq) :
    Code.wp Tryz.prog c (Exit.then K fun _ _ _ => False) a wq := by
  have HQ := hide hQ
  clear hQ
  obtain ⟨v0, v1, v4, v5, v6, v7, v8, v9, v10, v11, v12, v13, v14, v15, v16, v17, v18, v19, v20, v21, v22, v64⟩ := v
  simp only at h5v h6v h7v HQ
  subst h5v h6v h7v
  obtain ⟨u, rfl⟩ := frx_pl hF
  clear hF
  simp only [Tryz.f3, Option.getD_some, regOf] at hc
  injection hc with hc
  subst hc
  go_wp2
  exact HQ.out _ ⟨rfl, rfl, rfl, rfl, rfl, rfl, rfl, rfl, rfl, rfl, rfl, rfl, rfl, rfl, rfl, rfl, rfl, rfl, rfl, rfl, rfl, rfl, rfl, rfl⟩
theorem pl_r6 {K : Act → World → Prop} {c : Code} (hc : regOf (Tryz.f3.body.getD .skip) 6 = some c) (a : Act) {v : Vpl} {wq : World} {tb : Nat} (hF : Fpl a v) (h6v : v.v6 = .pointer (some ⟨tb, 0, none⟩)) (h7v : v.v7 = .int .i64 0) (hQ : ∀ a', Fpl a' v → a'.tmps.getD 47 undef = .bool false → K a' wq) :
    Code.wp Tryz.prog c (Exit.then K fun _ _ _ => False) a wq := by
  have HQ := hide hQ
  clear hQ
  obtain ⟨v0, v1, v4, v5, v6, v7, v8, v9, v10, v11, v12, v13, v14, v15, v16, v17, v18, v19, v20, v21, v22, v64⟩ := v
  simp only at h6v h7v HQ
  subst h6v h7v
  obtain ⟨u, rfl⟩ := frx_pl hF
  clear hF
  simp only [Tryz.f3, Option.getD_some, regOf] at hc
  injection hc with hc
  subst hc
  go_wp2
  exact HQ.out _ ⟨rfl, rfl, rfl, rfl, rfl, rfl, rfl, rfl, rfl, rfl, rfl, rfl, rfl, rfl, rfl, rfl, rfl, rfl, rfl, rfl, rfl, rfl, rfl, rfl⟩ (by first | rfl | (simp; done))
theorem pl_r8 {K : Act → World → Prop} {c : Code} (hc : regOf (Tryz.f3.body.getD .skip) 8 = some c) (a : Act) {v : Vpl} {wq : World}  (hF : Fpl a v) (hQ : ∀ a', Fpl a' { v with v9 := .int .i64 ((0 : Nat) : Int) } → K a' wq) :
    Code.wp Tryz.prog c (Exit.then K fun _ _ _ => False) a wq := by
  have HQ := hide hQ
  clear hQ
  obtain ⟨v0, v1, v4, v5, v6, v7, v8, v9, v10, v11, v12, v13, v14, v15, v16, v17, v18, v19, v20, v21, v22, v64⟩ := v
  obtain ⟨u, rfl⟩ := frx_pl hF
  clear hF
  simp only [Tryz.f3, Option.getD_some, regOf] at hc
  injection hc with hc
  subst hc
  go_wp2
  exact HQ.out _ ⟨rfl, rfl, rfl, rfl, rfl, rfl, rfl, rfl, rfl, rfl, rfl, rfl, rfl, rfl, rfl, rfl, rfl, rfl, rfl, rfl, rfl, rfl, rfl, rfl⟩
theorem pl_r9n {K : Act → World → Prop} {c : Code} (hc : regOf (Tryz.f3.body.getD .skip) 9 = some c) (a : Act) {v : Vpl} {wq : World} {ao : Option Addr} {n cp k : Nat} (hF : Fpl a v) (h1v : v.v1 = .slice ao n cp) (h9v : v.v9 = .int .i64 (k : Int)) (hk : ¬ (k : Int) < (n : Int)) (hQ : ∀ a', Fpl a' v → a'.tmps.getD 55 undef = .bool false → K a' wq) :
    Code.wp Tryz.prog c (Exit.then K fun _ _ _ => False) a wq := by
  have HQ := hide hQ
  clear hQ
  obtain ⟨v0, v1, v4, v5, v6, v7, v8, v9, v10, v11, v12, v13, v14, v15, v16, v17, v18, v19, v20, v21, v22, v64⟩ := v
  simp only at h1v h9v HQ
  subst h1v h9v
  obtain ⟨u, rfl⟩ := frx_pl hF
  clear hF
  simp only [Tryz.f3, Option.getD_some, regOf] at hc
  injection hc with hc
  subst hc
  have hd : decide ((k : Int) < (n : Int)) = false := decide_eq_false hk
  go_wp2
  exact HQ.out _ ⟨rfl, rfl, rfl, rfl, rfl, rfl, rfl, rfl, rfl, rfl, rfl, rfl, rfl, rfl, rfl, rfl, rfl, rfl, rfl, rfl, rfl, rfl, rfl, rfl⟩ (by first | rfl | (simp; done))
theorem pl_r9y {K : Act → World → Prop} {c : Code} (hc : regOf (Tryz.f3.body.getD .skip) 9 = some c) (a : Act) {v : Vpl} {wq : World} {ao : Option Addr} {n cp k : Nat} (hF : Fpl a v) (h1v : v.v1 = .slice ao n cp) (h9v : v.v9 = .int .i64 (k : Int)) (hk : (k : Int) < (n : Int)) (hQ : ∀ a', Fpl a' v → a'.tmps.getD 55 undef = .bool (decide ((k : Int) < 80)) → K a' wq) :
    Code.wp Tryz.prog c (Exit.then K fun _ _ _ => False) a wq := by
  have HQ := hide hQ
  clear hQ
  obtain ⟨v0, v1, v4, v5, v6, v7, v8, v9, v10, v11, v12, v13, v14, v15, v16, v17, v18, v19, v20, v21, v22, v64⟩ := v
  simp only at h1v h9v HQ
  subst h1v h9v
  obtain ⟨u, rfl⟩ := frx_pl hF
  clear hF
  simp only [Tryz.f3, Option.getD_some, regOf] at hc
  injection hc with hc
  subst hc
  have hd : decide ((k : Int) < (n : Int)) = true := decide_eq_true hk
  go_wp2
  exact HQ.out _ ⟨rfl, rfl, rfl, rfl, rfl, rfl, rfl, rfl, rfl, rfl, rfl, rfl, rfl, rfl, rfl, rfl, rfl, rfl, rfl, rfl, rfl, rfl, rfl, rfl⟩ (by first | rfl | (simp; done))
theorem pl_r11 {K : Act → World → Prop} {c : Code} (hc : regOf (Tryz.f3.body.getD .skip) 11 = some c) (a : Act) {v : Vpl} {wq : World} {db df n cp k : Nat} {d : DE} (hF : Fpl a v) (h1v : v.v1 = .slice (some ⟨db, df, none⟩) n cp) (h9v : v.v9 = .int .i64 (k : Int)) (hk : k < n) (hD : DEAt wq db (df + k * 7) d)
    (hQ : ∀ a', Fpl a' { v with v10 := .pointer (some ⟨wq.heap.size, 0, none⟩) } → K a' (wq.alloc (.cells #[.int .i64 d.kind, .string d.prod, .int .i64 d.seq, .string d.key, .string d.val, .int .i64 d.n, .int .i64 d.most] 31))) :
    Code.wp Tryz.prog c (Exit.then K fun _ _ _ => False) a wq := by
  have HQ := hide hQ
  clear hQ
  obtain ⟨v0, v1, v4, v5, v6, v7, v8, v9, v10, v11, v12, v13, v14, v15, v16, v17, v18, v19, v20, v21, v22, v64⟩ := v
  simp only at h1v h9v HQ
  subst h1v h9v
  obtain ⟨u, rfl⟩ := frx_pl hF
  clear hF
  simp only [Tryz.f3, Option.getD_some, regOf] at hc
  injection hc with hc
  subst hc
  obtain ⟨c0, c1, c2, c3, c4, c5, c6⟩ := hD
  have i0 : (0 : Int) ≤ (k : Int) := by omega
  have i1 : (k : Int) < (n : Int) := by omega
  go_wp2
  exact HQ.out _ ⟨rfl, rfl, rfl, rfl, rfl, rfl, rfl, rfl, rfl, rfl, rfl, rfl, rfl, rfl, rfl, rfl, rfl, rfl, rfl, rfl, rfl, rfl, rfl, rfl⟩
theorem pl_r12 {K : Act → World → Prop} {c : Code} (hc : regOf (Tryz.f3.body.getD .skip) 12 = some c) (a : Act) {v : Vpl} {wq : World}  (hF : Fpl a v) (hQ : ∀ a', Fpl a' { v with v11 := .bool true } → K a' wq) :
    Code.wp Tryz.prog c (Exit.then K fun _ _ _ => False) a wq := by
  have HQ := hide hQ
  clear hQ
  obtain ⟨v0, v1, v4, v5, v6, v7, v8, v9, v10, v11, v12, v13, v14, v15, v16, v17, v18, v19, v20, v21, v22, v64⟩ := v
  obtain ⟨u, rfl⟩ := frx_pl hF
  clear hF
  simp only [Tryz.f3, Option.getD_some, regOf] at hc
  injection hc with hc
  subst hc
  go_wp2
  exact HQ.out _ ⟨rfl, rfl, rfl, rfl, rfl, rfl, rfl, rfl, rfl, rfl, rfl, rfl, rfl, rfl, rfl, rfl, rfl, rfl, rfl, rfl, rfl, rfl, rfl, rfl⟩
theorem pl_r13 {K : Act → World → Prop} {c : Code} (hc : regOf (Tryz.f3.body.getD .skip) 13 = some c) (a : Act) {v : Vpl} {wq : World} {db : Nat} {d : DE} {y : Int} (hF : Fpl a v) (h10v : v.v10 = .pointer (some ⟨db, 0, none⟩)) (hD : wq.heap[db]? = some (.cells #[.int .i64 d.kind, .string d.prod, .int .i64 d.seq, .string d.key, .string d.val, .int .i64 d.n, .int .i64 d.most] 31 (0, 0))) (hE : Calls Tryz.prog 9 #[.int .i64 d.kind, .int .i64 5] wq fun e w' => e = .returned (.int .i64 y) ∧ w' = wq)
    (hQ : ∀ a', Fpl a' { v with v64 := .int .i64 y } → K a' wq) :
    Code.wp Tryz.prog c (Exit.then K fun _ _ _ => False) a wq := by
  have HQ := hide hQ
  clear hQ
  obtain ⟨v0, v1, v4, v5, v6, v7, v8, v9, v10, v11, v12, v13, v14, v15, v16, v17, v18, v19, v20, v21, v22, v64⟩ := v
  simp only at h10v HQ
  subst h10v
  obtain ⟨u, rfl⟩ := frx_pl hF
  clear hF
  simp only [Tryz.f3, Option.getD_some, regOf] at hc
  injection hc with hc
  subst hc
  have HE := hide hE
  clear hE
  have z0 := box_cell hD 0 rfl
  clear hD
  go_wp2_with (go_at_call 9; refine HE.out.mono ?_; rintro e w1 ⟨rfl, r1⟩; obtain rfl := r1.symm)
  exact HQ.out _ ⟨rfl, rfl, rfl, rfl, rfl, rfl, rfl, rfl, rfl, rfl, rfl, rfl, rfl, rfl, rfl, rfl, rfl, rfl, rfl, rfl, rfl, rfl, rfl, rfl⟩
theorem pl_r20t {K : Act → World → Prop} {c : Code} (hc : regOf (Tryz.f3.body.getD .skip) 20 = some c) (a : Act) {v : Vpl} {wq : World}  (hF : Fpl a v) (h64v : v.v64 = .int .i64 0) (hQ : ∀ a', Fpl a' v → a'.tmps.getD 91 undef = .bool true → K a' wq) :
    Code.wp Tryz.prog c (Exit.then K fun _ _ _ => False) a wq := by
  have HQ := hide hQ
  clear hQ
  obtain ⟨v0, v1, v4, v5, v6, v7, v8, v9, v10, v11, v12, v13, v14, v15, v16, v17, v18, v19, v20, v21, v22, v64⟩ := v
  simp only at h64v HQ
  subst h64v
  obtain ⟨u, rfl⟩ := frx_pl hF
  clear hF
  simp only [Tryz.f3, Option.getD_some, regOf] at hc
  injection hc with hc
  subst hc
  go_wp2
  exact HQ.out _ ⟨rfl, rfl, rfl, rfl, rfl, rfl, rfl, rfl, rfl, rfl, rfl, rfl, rfl, rfl, rfl, rfl, rfl, rfl, rfl, rfl, rfl, rfl, rfl, rfl⟩ (by first | rfl | (simp; done))
theorem pl_r20f {K : Act → World → Prop} {c : Code} (hc : regOf (Tryz.f3.body.getD .skip) 20 = some c) (a : Act) {v : Vpl} {wq : World} {y : Int} (hF : Fpl a v) (h64v : v.v64 = .int .i64 y) (hy : y ≠ 0) (hQ : ∀ a', Fpl a' v → a'.tmps.getD 91 undef = .bool false → K a' wq) :
    Code.wp Tryz.prog c (Exit.then K fun _ _ _ => False) a wq := by
  have HQ := hide hQ
  clear hQ
  obtain ⟨v0, v1, v4, v5, v6, v7, v8, v9, v10, v11, v12, v13, v14, v15, v16, v17, v18, v19, v20, v21, v22, v64⟩ := v
  simp only at h64v HQ
  subst h64v
  obtain ⟨u, rfl⟩ := frx_pl hF
  clear hF
  simp only [Tryz.f3, Option.getD_some, regOf] at hc
  injection hc with hc
  subst hc
  have hd : (y == 0) = false := beq_eq_false_iff_ne.2 hy
  go_wp2
  exact HQ.out _ ⟨rfl, rfl, rfl, rfl, rfl, rfl, rfl, rfl, rfl, rfl, rfl, rfl, rfl, rfl, rfl, rfl, rfl, rfl, rfl, rfl, rfl, rfl, rfl, rfl⟩ (by first | rfl | (simp; done))
theorem pl_r24t {K : Act → World → Prop} {c : Code} (hc : regOf (Tryz.f3.body.getD .skip) 24 = some c) (a : Act) {v : Vpl} {wq : World}  (hF : Fpl a v) (h64v : v.v64 = .int .i64 1) (hQ : ∀ a', Fpl a' v → a'.tmps.getD 127 undef = .bool true → K a' wq) :
    Code.wp Tryz.prog c (Exit.then K fun _ _ _ => False) a wq := by
  have HQ := hide hQ
  clear hQ
  obtain ⟨v0, v1, v4, v5, v6, v7, v8, v9, v10, v11, v12, v13, v14, v15, v16, v17, v18, v19, v20, v21, v22, v64⟩ := v
  simp only at h64v HQ
  subst h64v
  obtain ⟨u, rfl⟩ := frx_pl hF
  clear hF
  simp only [Tryz.f3, Option.getD_some, regOf] at hc
  injection hc with hc
  subst hc
  go_wp2
  exact HQ.out _ ⟨rfl, rfl, rfl, rfl, rfl, rfl, rfl, rfl, rfl, rfl, rfl, rfl, rfl, rfl, rfl, rfl, rfl, rfl, rfl, rfl, rfl, rfl, rfl, rfl⟩ (by first | rfl | (simp; done))
theorem pl_r24f {K : Act → World → Prop} {c : Code} (hc : regOf (Tryz.f3.body.getD .skip) 24 = some c) (a : Act) {v : Vpl} {wq : World} {y : Int} (hF : Fpl a v) (h64v : v.v64 = .int .i64 y) (hy : y ≠ 1) (hQ : ∀ a', Fpl a' v → a'.tmps.getD 127 undef = .bool false → K a' wq) :
    Code.wp Tryz.prog c (Exit.then K fun _ _ _ => False) a wq := by
  have HQ := hide hQ
  clear hQ
  obtain ⟨v0, v1, v4, v5, v6, v7, v8, v9, v10, v11, v12, v13, v14, v15, v16, v17, v18, v19, v20, v21, v22, v64⟩ := v
  simp only at h64v HQ
  subst h64v
  obtain ⟨u, rfl⟩ := frx_pl hF
  clear hF
  simp only [Tryz.f3, Option.getD_some, regOf] at hc
  injection hc with hc
  subst hc
  have hd : (y == 1) = false := beq_eq_false_iff_ne.2 hy
  go_wp2
  exact HQ.out _ ⟨rfl, rfl, rfl, rfl, rfl, rfl, rfl, rfl, rfl, rfl, rfl, rfl, rfl, rfl, rfl, rfl, rfl, rfl, rfl, rfl, rfl, rfl, rfl, rfl⟩ (by first | rfl | (simp; done))
theorem pl_r31t {K : Act → World → Prop} {c : Code} (hc : regOf (Tryz.f3.body.getD .skip) 31 = some c) (a : Act) {v : Vpl} {wq : World}  (hF : Fpl a v) (h64v : v.v64 = .int .i64 2) (hQ : ∀ a', Fpl a' v → a'.tmps.getD 153 undef = .bool true → K a' wq) :
    Code.wp Tryz.prog c (Exit.then K fun _ _ _ => False) a wq := by
  have HQ := hide hQ
  clear hQ
  obtain ⟨v0, v1, v4, v5, v6, v7, v8, v9, v10, v11, v12, v13, v14, v15, v16, v17, v18, v19, v20, v21, v22, v64⟩ := v
  simp only at h64v HQ
  subst h64v
  obtain ⟨u, rfl⟩ := frx_pl hF
  clear hF
  simp only [Tryz.f3, Option.getD_some, regOf] at hc
  injection hc with hc
  subst hc
  go_wp2
  exact HQ.out _ ⟨rfl, rfl, rfl, rfl, rfl, rfl, rfl, rfl, rfl, rfl, rfl, rfl, rfl, rfl, rfl, rfl, rfl, rfl, rfl, rfl, rfl, rfl, rfl, rfl⟩ (by first | rfl | (simp; done))
theorem pl_r31f {K : Act → World → Prop} {c : Code} (hc : regOf (Tryz.f3.body.getD .skip) 31 = some c) (a : Act) {v : Vpl} {wq : World} {y : Int} (hF : Fpl a v) (h64v : v.v64 = .int .i64 y) (hy : y ≠ 2) (hQ : ∀ a', Fpl a' v → a'.tmps.getD 153 undef = .bool false → K a' wq) :
    Code.wp Tryz.prog c (Exit.then K fun _ _ _ => False) a wq := by
  have HQ := hide hQ
  clear hQ
  obtain ⟨v0, v1, v4, v5, v6, v7, v8, v9, v10, v11, v12, v13, v14, v15, v16, v17, v18, v19, v20, v21, v22, v64⟩ := v
  simp only at h64v HQ
  subst h64v
  obtain ⟨u, rfl⟩ := frx_pl hF
  clear hF
  simp only [Tryz.f3, Option.getD_some, regOf] at hc
  injection hc with hc
  subst hc
  have hd : (y == 2) = false := beq_eq_false_iff_ne.2 hy
  go_wp2
  exact HQ.out _ ⟨rfl, rfl, rfl, rfl, rfl, rfl, rfl, rfl, rfl, rfl, rfl, rfl, rfl, rfl, rfl, rfl, rfl, rfl, rfl, rfl, rfl, rfl, rfl, rfl⟩ (by first | rfl | (simp; done))
theorem pl_r33t {K : Act → World → Prop} {c : Code} (hc : regOf (Tryz.f3.body.getD .skip) 33 = some c) (a : Act) {v : Vpl} {wq : World}  (hF : Fpl a v) (h64v : v.v64 = .int .i64 3) (hQ : ∀ a', Fpl a' v → a'.tmps.getD 164 undef = .bool true → K a' wq) :
    Code.wp Tryz.prog c (Exit.then K fun _ _ _ => False) a wq := by
  have HQ := hide hQ
  clear hQ
  obtain ⟨v0, v1, v4, v5, v6, v7, v8, v9, v10, v11, v12, v13, v14, v15, v16, v17, v18, v19, v20, v21, v22, v64⟩ := v
  simp only at h64v HQ
  subst h64v
  obtain ⟨u, rfl⟩ := frx_pl hF
  clear hF
  simp only [Tryz.f3, Option.getD_some, regOf] at hc
  injection hc with hc
  subst hc
  go_wp2
  exact HQ.out _ ⟨rfl, rfl, rfl, rfl, rfl, rfl, rfl, rfl, rfl, rfl, rfl, rfl, rfl, rfl, rfl, rfl, rfl, rfl, rfl, rfl, rfl, rfl, rfl, rfl⟩ (by first | rfl | (simp; done))
theorem pl_r33f {K : Act → World → Prop} {c : Code} (hc : regOf (Tryz.f3.body.getD .skip) 33 = some c) (a : Act) {v : Vpl} {wq : World} {y : Int} (hF : Fpl a v) (h64v : v.v64 = .int .i64 y) (hy : y ≠ 3) (hQ : ∀ a', Fpl a' v → a'.tmps.getD 164 undef = .bool false → K a' wq) :
    Code.wp Tryz.prog c (Exit.then K fun _ _ _ => False) a wq := by
  have HQ := hide hQ
  clear hQ
  obtain ⟨v0, v1, v4, v5, v6, v7, v8, v9, v10, v11, v12, v13, v14, v15, v16, v17, v18, v19, v20, v21, v22, v64⟩ := v
  simp only at h64v HQ
  subst h64v
  obtain ⟨u, rfl⟩ := frx_pl hF
  clear hF
  simp only [Tryz.f3, Option.getD_some, regOf] at hc
  injection hc with hc
  subst hc
  have hd : (y == 3) = false := beq_eq_false_iff_ne.2 hy
  go_wp2
  exact HQ.out _ ⟨rfl, rfl, rfl, rfl, rfl, rfl, rfl, rfl, rfl, rfl, rfl, rfl, rfl, rfl, rfl, rfl, rfl, rfl, rfl, rfl, rfl, rfl, rfl, rfl⟩ (by first | rfl | (simp; done))
theorem pl_r21 {K : Act → World → Prop} {c : Code} (hc : regOf (Tryz.f3.body.getD .skip) 21 = some c) (a : Act) {v : Vpl} {wq : World} {tb db : Nat} {d : DE} {px py : Int} {R : World → Prop} (hF : Fpl a v) (h6v : v.v6 = .pointer (some ⟨tb, 0, none⟩)) (h10v : v.v10 = .pointer (some ⟨db, 0, none⟩)) (hD : wq.heap[db]? = some (.cells #[.int .i64 d.kind, .string d.prod, .int .i64 d.seq, .string d.key, .string d.val, .int .i64 d.n, .int .i64 d.most] 31 (0, 0))) (hE : Calls Tryz.prog 10 #[.pointer (some ⟨tb, 0, none⟩), .string d.prod, .int .i64 d.seq, .string d.key, .string d.val] wq fun e w' => e = .returned (.tuple #[.int .i64 px, .int .i64 py]) ∧ R w')
    (hQ : ∀ a' w', Fpl a' { v with v12 := .int .i64 px, v13 := .int .i64 py } → R w' → K a' w') :
    Code.wp Tryz.prog c (Exit.then K fun _ _ _ => False) a wq := by
  have HQ := hide hQ
  clear hQ
  obtain ⟨v0, v1, v4, v5, v6, v7, v8, v9, v10, v11, v12, v13, v14, v15, v16, v17, v18, v19, v20, v21, v22, v64⟩ := v
  simp only at h6v h10v HQ
  subst h6v h10v
  obtain ⟨u, rfl⟩ := frx_pl hF
  clear hF
  simp only [Tryz.f3, Option.getD_some, regOf] at hc
  injection hc with hc
  subst hc
  have HE := hide hE
  clear hE
  have z1 := box_cell hD 1 rfl
  have z2 := box_cell hD 2 rfl
  have z3 := box_cell hD 3 rfl
  have z4 := box_cell hD 4 rfl
  clear hD
  go_wp2_with (go_at_call 10; refine HE.out.mono ?_; rintro e w1 ⟨rfl, r1⟩; have R1 := hide r1; clear r1)
  exact HQ.out _ _ ⟨rfl, rfl, rfl, rfl, rfl, rfl, rfl, rfl, rfl, rfl, rfl, rfl, rfl, rfl, rfl, rfl, rfl, rfl, rfl, rfl, rfl, rfl, rfl, rfl⟩ R1.out
theorem pl_r22 {K : Act → World → Prop} {c : Code} (hc : regOf (Tryz.f3.body.getD .skip) 22 = some c) (a : Act) {v : Vpl} {wq : World} {xb db : Nat} {d : DE} {px py : Int} {R : World → Prop} (hF : Fpl a v) (h8v : v.v8 = .pointer (some ⟨xb, 0, none⟩)) (h10v : v.v10 = .pointer (some ⟨db, 0, none⟩)) (hD : wq.heap[db]? = some (.cells #[.int .i64 d.kind, .string d.prod, .int .i64 d.seq, .string d.key, .string d.val, .int .i64 d.n, .int .i64 d.most] 31 (0, 0))) (hE : Calls Tryz.prog 11 #[.pointer (some ⟨xb, 0, none⟩), .string d.prod, .int .i64 d.seq, .string d.key, .string d.val] wq fun e w' => e = .returned (.tuple #[.int .i64 px, .int .i64 py]) ∧ R w')
    (hQ : ∀ a' w', Fpl a' { v with v14 := .int .i64 px, v15 := .int .i64 py } → R w' → K a' w') :
    Code.wp Tryz.prog c (Exit.then K fun _ _ _ => False) a wq := by
  have HQ := hide hQ
  clear hQ
  obtain ⟨v0, v1, v4, v5, v6, v7, v8, v9, v10, v11, v12, v13, v14, v15, v16, v17, v18, v19, v20, v21, v22, v64⟩ := v
  simp only at h8v h10v HQ
  subst h8v h10v
  obtain ⟨u, rfl⟩ := frx_pl hF
  clear hF
  simp only [Tryz.f3, Option.getD_some, regOf] at hc
  injection hc with hc
  subst hc
  have HE := hide hE
  clear hE
  have z1 := box_cell hD 1 rfl
  have z2 := box_cell hD 2 rfl
  have z3 := box_cell hD 3 rfl
  have z4 := box_cell hD 4 rfl
  clear hD
  go_wp2_with (go_at_call 11; refine HE.out.mono ?_; rintro e w1 ⟨rfl, r1⟩; have R1 := hide r1; clear r1)
  exact HQ.out _ _ ⟨rfl, rfl, rfl, rfl, rfl, rfl, rfl, rfl, rfl, rfl, rfl, rfl, rfl, rfl, rfl, rfl, rfl, rfl, rfl, rfl, rfl, rfl, rfl, rfl⟩ R1.out
theorem pl_r23 {K : Act → World → Prop} {c : Code} (hc : regOf (Tryz.f3.body.getD .skip) 23 = some c) (a : Act) {v : Vpl} {wq : World} {px py : Int} (hF : Fpl a v) (h12v : v.v12 = .int .i64 px) (h13v : v.v13 = .int .i64 py) (h14v : v.v14 = .int .i64 px) (h15v : v.v15 = .int .i64 py) (hQ : ∀ a', Fpl a' { v with v11 := .bool true } → K a' wq) :
    Code.wp Tryz.prog c (Exit.then K fun _ _ _ => False) a wq := by
  have HQ := hide hQ
  clear hQ
  obtain ⟨v0, v1, v4, v5, v6, v7, v8, v9, v10, v11, v12, v13, v14, v15, v16, v17, v18, v19, v20, v21, v22, v64⟩ := v
  simp only at h12v h13v h14v h15v HQ
  subst h12v h13v h14v h15v
  obtain ⟨u, rfl⟩ := frx_pl hF
  clear hF
  simp only [Tryz.f3, Option.getD_some, regOf] at hc
  injection hc with hc
  subst hc
  go_wp2
  exact HQ.out _ ⟨rfl, rfl, rfl, rfl, rfl, rfl, rfl, rfl, rfl, rfl, rfl, rfl, rfl, rfl, rfl, rfl, rfl, rfl, rfl, rfl, rfl, rfl, rfl, rfl⟩
theorem pl_r25 {K : Act → World → Prop} {c : Code} (hc : regOf (Tryz.f3.body.getD .skip) 25 = some c) (a : Act) {v : Vpl} {wq : World} {tb db n : Nat} {d : DE} {R : Option Addr → Nat → World → Prop} (hF : Fpl a v) (h6v : v.v6 = .pointer (some ⟨tb, 0, none⟩)) (h10v : v.v10 = .pointer (some ⟨db, 0, none⟩)) (hD : wq.heap[db]? = some (.cells #[.int .i64 d.kind, .string d.prod, .int .i64 d.seq, .string d.key, .string d.val, .int .i64 d.n, .int .i64 d.most] 31 (0, 0))) (hE : Calls Tryz.prog 12 #[.pointer (some ⟨tb, 0, none⟩), .int .i64 d.n, .int .i64 d.most] wq fun e w' => ∃ ao cp, e = .returned (.slice ao n cp) ∧ R ao cp w')
    (hQ : ∀ a' w' ao cp, Fpl a' { v with v16 := .slice ao n cp } → R ao cp w' → K a' w') :
    Code.wp Tryz.prog c (Exit.then K fun _ _ _ => False) a wq := by
  have HQ := hide hQ
  clear hQ
  obtain ⟨v0, v1, v4, v5, v6, v7, v8, v9, v10, v11, v12, v13, v14, v15, v16, v17, v18, v19, v20, v21, v22, v64⟩ := v
  simp only at h6v h10v HQ
  subst h6v h10v
  obtain ⟨u, rfl⟩ := frx_pl hF
  clear hF
  simp only [Tryz.f3, Option.getD_some, regOf] at hc
  injection hc with hc
  subst hc
  have HE := hide hE
  clear hE
  have z5 := box_cell hD 5 rfl
  have z6 := box_cell hD 6 rfl
  clear hD
  go_wp2_with (go_at_call 12; refine HE.out.mono ?_; rintro e w1 ⟨ao, cp, rfl, r1⟩; have R1 := hide r1; clear r1)
  exact HQ.out _ _ _ _ ⟨rfl, rfl, rfl, rfl, rfl, rfl, rfl, rfl, rfl, rfl, rfl, rfl, rfl, rfl, rfl, rfl, rfl, rfl, rfl, rfl, rfl, rfl, rfl, rfl⟩ R1.out
theorem pl_r26 {K : Act → World → Prop} {c : Code} (hc : regOf (Tryz.f3.body.getD .skip) 26 = some c) (a : Act) {v : Vpl} {wq : World} {db : Nat} {d : DE} {xb n cp : Nat} {ao : Option Addr} {Q : Option Addr → Nat → World → Prop} {R : World → Prop} (hF : Fpl a v) (h8v : v.v8 = .pointer (some ⟨xb, 0, none⟩)) (h16v : v.v16 = .slice ao n cp) (h10v : v.v10 = .pointer (some ⟨db, 0, none⟩)) (hD : wq.heap[db]? = some (.cells #[.int .i64 d.kind, .string d.prod, .int .i64 d.seq, .string d.key, .string d.val, .int .i64 d.n, .int .i64 d.most] 31 (0, 0))) (hE : Calls Tryz.prog 14 #[.pointer (some ⟨xb, 0, none⟩), .int .i64 d.n, .int .i64 d.most] wq fun e w' => ∃ xo xc, e = .returned (.slice xo n xc) ∧ Q xo xc w') (hS : ∀ xo xc W, Q xo xc W → Calls Tryz.prog 13 #[.slice ao n cp, .slice xo n xc] W fun e w' => e = .returned (.bool true) ∧ R w')
    (hQ : ∀ a' w', Fpl a' { v with v11 := .bool true } → R w' → K a' w') :
    Code.wp Tryz.prog c (Exit.then K fun _ _ _ => False) a wq := by
  have HQ := hide hQ
  clear hQ
  obtain ⟨v0, v1, v4, v5, v6, v7, v8, v9, v10, v11, v12, v13, v14, v15, v16, v17, v18, v19, v20, v21, v22, v64⟩ := v
  simp only at h8v h16v h10v HQ
  subst h8v h16v h10v
  obtain ⟨u, rfl⟩ := frx_pl hF
  clear hF
  simp only [Tryz.f3, Option.getD_some, regOf] at hc
  injection hc with hc
  subst hc
  have HE := hide hE
  have HS := hide hS
  clear hE hS
  have z5 := box_cell hD 5 rfl
  have z6 := box_cell hD 6 rfl
  clear hD
  go_wp2_with fail
  refine HE.out.mono ?_
  rintro e w1 ⟨xo, xc, rfl, q1⟩
  have Q1 := hide q1
  clear q1
  go_wp2_with fail
  refine (HS.out _ _ _ Q1.out).mono ?_
  rintro e w2 ⟨rfl, r1⟩
  have R1 := hide r1
  clear r1
  go_wp2_with fail
  exact HQ.out _ _ ⟨rfl, rfl, rfl, rfl, rfl, rfl, rfl, rfl, rfl, rfl, rfl, rfl, rfl, rfl, rfl, rfl, rfl, rfl, rfl, rfl, rfl, rfl, rfl, rfl⟩ R1.out
theorem pl_r38 {K : Act → World → Prop} {c : Code} (hc : regOf (Tryz.f3.body.getD .skip) 38 = some c) (a : Act) {v : Vpl} {wq : World}  {xb n cp : Nat} {ao : Option Addr} {Q : Option Addr → Nat → World → Prop} {R : World → Prop} (hF : Fpl a v) (h8v : v.v8 = .pointer (some ⟨xb, 0, none⟩)) (h21v : v.v21 = .slice ao n cp) (hE : Calls Tryz.prog 14 #[.pointer (some ⟨xb, 0, none⟩), .int .i64 0, .int .i64 1000] wq fun e w' => ∃ xo xc, e = .returned (.slice xo n xc) ∧ Q xo xc w') (hS : ∀ xo xc W, Q xo xc W → Calls Tryz.prog 13 #[.slice ao n cp, .slice xo n xc] W fun e w' => e = .returned (.bool true) ∧ R w')
    (hQ : ∀ a' w', Fpl a' { v with v22 := .bool true } → R w' → K a' w') :
    Code.wp Tryz.prog c (Exit.then K fun _ _ _ => False) a wq := by
  have HQ := hide hQ
  clear hQ
  obtain ⟨v0, v1, v4, v5, v6, v7, v8, v9, v10, v11, v12, v13, v14, v15, v16, v17, v18, v19, v20, v21, v22, v64⟩ := v
  simp only at h8v h21v HQ
  subst h8v h21v
  obtain ⟨u, rfl⟩ := frx_pl hF
  clear hF
  simp only [Tryz.f3, Option.getD_some, regOf] at hc
  injection hc with hc
  subst hc
  have HE := hide hE
  have HS := hide hS
  clear hE hS
  go_wp2_with fail
  refine HE.out.mono ?_
  rintro e w1 ⟨xo, xc, rfl, q1⟩
  have Q1 := hide q1
  clear q1
  go_wp2_with fail
  refine (HS.out _ _ _ Q1.out).mono ?_
  rintro e w2 ⟨rfl, r1⟩
  have R1 := hide r1
  clear r1
  go_wp2_with fail
  exact HQ.out _ _ ⟨rfl, rfl, rfl, rfl, rfl, rfl, rfl, rfl, rfl, rfl, rfl, rfl, rfl, rfl, rfl, rfl, rfl, rfl, rfl, rfl, rfl, rfl, rfl, rfl⟩ R1.out
theorem pl_r27 {K : Act → World → Prop} {c : Code} (hc : regOf (Tryz.f3.body.getD .skip) 27 = some c) (a : Act) {v : Vpl} {wq : World}  (hF : Fpl a v) (hQ : ∀ a', Fpl a' { v with v17 := .int .i64 ((0 : Nat) : Int) } → K a' wq) :
    Code.wp Tryz.prog c (Exit.then K fun _ _ _ => False) a wq := by
  have HQ := hide hQ
  clear hQ
  obtain ⟨v0, v1, v4, v5, v6, v7, v8, v9, v10, v11, v12, v13, v14, v15, v16, v17, v18, v19, v20, v21, v22, v64⟩ := v
  obtain ⟨u, rfl⟩ := frx_pl hF
  clear hF
  simp only [Tryz.f3, Option.getD_some, regOf] at hc
  injection hc with hc
  subst hc
  go_wp2
  exact HQ.out _ ⟨rfl, rfl, rfl, rfl, rfl, rfl, rfl, rfl, rfl, rfl, rfl, rfl, rfl, rfl, rfl, rfl, rfl, rfl, rfl, rfl, rfl, rfl, rfl, rfl⟩
theorem pl_r28 {K : Act → World → Prop} {c : Code} (hc : regOf (Tryz.f3.body.getD .skip) 28 = some c) (a : Act) {v : Vpl} {wq : World} {ao : Option Addr} {n cp k : Nat} (hF : Fpl a v) (h16v : v.v16 = .slice ao n cp) (h17v : v.v17 = .int .i64 (k : Int)) (hQ : ∀ a', Fpl a' v → a'.tmps.getD 146 undef = .bool (decide ((k : Int) < (n : Int))) → K a' wq) :
    Code.wp Tryz.prog c (Exit.then K fun _ _ _ => False) a wq := by
  have HQ := hide hQ
  clear hQ
  obtain ⟨v0, v1, v4, v5, v6, v7, v8, v9, v10, v11, v12, v13, v14, v15, v16, v17, v18, v19, v20, v21, v22, v64⟩ := v
  simp only at h16v h17v HQ
  subst h16v h17v
  obtain ⟨u, rfl⟩ := frx_pl hF
  clear hF
  simp only [Tryz.f3, Option.getD_some, regOf] at hc
  injection hc with hc
  subst hc
  go_wp2
  exact HQ.out _ ⟨rfl, rfl, rfl, rfl, rfl, rfl, rfl, rfl, rfl, rfl, rfl, rfl, rfl, rfl, rfl, rfl, rfl, rfl, rfl, rfl, rfl, rfl, rfl, rfl⟩ (by first | rfl | (simp; done))
theorem pl_r29 {K : Act → World → Prop} {c : Code} (hc : regOf (Tryz.f3.body.getD .skip) 29 = some c) (a : Act) {v : Vpl} {wq : World} {i : Nat} (hF : Fpl a v) (h17v : v.v17 = .int .i64 (i : Int)) (hi : i ≤ 1000000)
    (hQ : ∀ a', Fpl a' { v with v17 := .int .i64 ((i + 1 : Nat) : Int) } → K a' wq) :
    Code.wp Tryz.prog c (Exit.then K fun _ _ _ => False) a wq := by
  have HQ := hide hQ
  clear hQ
  obtain ⟨v0, v1, v4, v5, v6, v7, v8, v9, v10, v11, v12, v13, v14, v15, v16, v17, v18, v19, v20, v21, v22, v64⟩ := v
  simp only at h17v HQ
  subst h17v
  obtain ⟨u, rfl⟩ := frx_pl hF
  clear hF
  simp only [Tryz.f3, Option.getD_some, regOf] at hc
  injection hc with hc
  subst hc
  go_wp2
  exact HQ.out _ ⟨rfl, rfl, rfl, rfl, rfl, rfl, rfl, rfl, rfl, rfl, rfl, rfl, rfl, rfl, rfl, rfl, rfl, (by first | rfl | (simp; done) | (go_num; done)), rfl, rfl, rfl, rfl, rfl, rfl⟩
theorem pl_r10 {K : Act → World → Prop} {c : Code} (hc : regOf (Tryz.f3.body.getD .skip) 10 = some c) (a : Act) {v : Vpl} {wq : World} {i : Nat} (hF : Fpl a v) (h9v : v.v9 = .int .i64 (i : Int)) (hi : i ≤ 1000000)
    (hQ : ∀ a', Fpl a' { v with v9 := .int .i64 ((i + 1 : Nat) : Int) } → K a' wq) :
    Code.wp Tryz.prog c (Exit.then K fun _ _ _ => False) a wq := by
  have HQ := hide hQ
  clear hQ
  obtain ⟨v0, v1, v4, v5, v6, v7, v8, v9, v10, v11, v12, v13, v14, v15, v16, v17, v18, v19, v20, v21, v22, v64⟩ := v
  simp only at h9v HQ
  subst h9v
  obtain ⟨u, rfl⟩ := frx_pl hF
  clear hF
  simp only [Tryz.f3, Option.getD_some, regOf] at hc
  injection hc with hc
  subst hc
  go_wp2
  exact HQ.out _ ⟨rfl, rfl, rfl, rfl, rfl, rfl, rfl, rfl, rfl, (by first | rfl | (simp; done) | (go_num; done)), rfl, rfl, rfl, rfl, rfl, rfl, rfl, rfl, rfl, rfl, rfl, rfl, rfl, rfl⟩
theorem pl_r30 {K : Act → World → Prop} {c : Code} (hc : regOf (Tryz.f3.body.getD .skip) 30 = some c) (a : Act) {v : Vpl} {wq : World} {lb lf n cp k : Nat} {o0 o1 o2 o3 o4 : Value} (hF : Fpl a v) (h16v : v.v16 = .slice (some ⟨lb, lf, none⟩) n cp) (h17v : v.v17 = .int .i64 (k : Int)) (hk : k < n) (c0 : wq.cell? ⟨lb, lf + k * 5, none⟩ = some o0) (f0 : wq.frozen? ⟨lb, lf + k * 5, none⟩ = false) (c1 : wq.cell? ⟨lb, lf + k * 5 + 1, none⟩ = some o1) (f1 : wq.frozen? ⟨lb, lf + k * 5 + 1, none⟩ = false) (c2 : wq.cell? ⟨lb, lf + k * 5 + 2, none⟩ = some o2) (f2 : wq.frozen? ⟨lb, lf + k * 5 + 2, none⟩ = false) (c3 : wq.cell? ⟨lb, lf + k * 5 + 3, none⟩ = some o3) (f3 : wq.frozen? ⟨lb, lf + k * 5 + 3, none⟩ = false) (c4 : wq.cell? ⟨lb, lf + k * 5 + 4, none⟩ = some o4) (f4 : wq.frozen? ⟨lb, lf + k * 5 + 4, none⟩ = false)
    (hQ : ∀ a', Fpl a' v → K a' (((((wq.setCell ⟨lb, lf + k * 5, none⟩ (.int .i64 0)).setCell ⟨lb, lf + k * 5 + 1, none⟩ (.string ⟨#[]⟩)).setCell ⟨lb, lf + k * 5 + 2, none⟩ (.int .i64 0)).setCell ⟨lb, lf + k * 5 + 3, none⟩ (.string ⟨#[]⟩)).setCell ⟨lb, lf + k * 5 + 4, none⟩ (.string ⟨#[]⟩))) :
    Code.wp Tryz.prog c (Exit.then K fun _ _ _ => False) a wq := by
  have HQ := hide hQ
  clear hQ
  obtain ⟨v0, v1, v4, v5, v6, v7, v8, v9, v10, v11, v12, v13, v14, v15, v16, v17, v18, v19, v20, v21, v22, v64⟩ := v
  simp only at h16v h17v HQ
  subst h16v h17v
  obtain ⟨u, rfl⟩ := frx_pl hF
  clear hF
  simp only [Tryz.f3, Option.getD_some, regOf] at hc
  injection hc with hc
  subst hc
  have i0 : (0 : Int) ≤ (k : Int) := by omega
  have i1 : (k : Int) < (n : Int) := by omega
  go_wp2
  exact HQ.out _ ⟨rfl, rfl, rfl, rfl, rfl, rfl, rfl, rfl, rfl, rfl, rfl, rfl, rfl, rfl, rfl, rfl, rfl, rfl, rfl, rfl, rfl, rfl, rfl, rfl⟩
theorem pl_r32 {K : Act → World → Prop} {c : Code} (hc : regOf (Tryz.f3.body.getD .skip) 32 = some c) (a : Act) {v : Vpl} {wq : World} {tb xb db : Nat} {d : DE} {cx : Int} {S : Bool → Bool → World → Prop} (hF : Fpl a v) (h6v : v.v6 = .pointer (some ⟨tb, 0, none⟩)) (h8v : v.v8 = .pointer (some ⟨xb, 0, none⟩)) (h10v : v.v10 = .pointer (some ⟨db, 0, none⟩)) (h0 : S false false wq.drew) (hDd : ∀ b1 b2 W, S b1 b2 W → W.cell? ⟨db, 5, none⟩ = some (.int .i64 d.n)) (hT : ∀ b2 W, S false b2 W → Calls Tryz.prog 15 #[.pointer (some ⟨tb, 0, none⟩), .int .i64 d.n] W fun e w' => e = .returned (.int .i64 cx) ∧ S true b2 w') (hX : ∀ b1 W, S b1 false W → Calls Tryz.prog 16 #[.pointer (some ⟨xb, 0, none⟩), .int .i64 d.n] W fun e w' => e = .returned (.int .i64 cx) ∧ S b1 true w')
    (hQ : ∀ a' w', Fpl a' { v with v11 := .bool true } → S true true w' → K a' w') :
    Code.wp Tryz.prog c (Exit.then K fun _ _ _ => False) a wq := by
  have HQ := hide hQ
  clear hQ
  obtain ⟨v0, v1, v4, v5, v6, v7, v8, v9, v10, v11, v12, v13, v14, v15, v16, v17, v18, v19, v20, v21, v22, v64⟩ := v
  simp only at h6v h8v h10v HQ
  subst h6v h8v h10v
  obtain ⟨u, rfl⟩ := frx_pl hF
  clear hF
  simp only [Tryz.f3, Option.getD_some, regOf] at hc
  injection hc with hc
  subst hc
  refine wp_region_any rfl ?_
  refine wpAny_staged (ns := 214) (uses := (fun i => match i with | 0 => [155] | 1 => [156] | 2 => [157] | 3 => [158] | 4 => [159] | 5 => [160] | 6 => [161] | 7 => [162] | 8 => [163] | 9 => [11] | _ => [])) (by kernel_rfl) (by kernel_rfl) (fun l _ w => S (l 3) (l 7) w) h0 (fun i => match i with | 0 => fun s => s 155 = .pointer (some ⟨tb, 0, none⟩) | 1 => fun s => s 156 = .pointer (some ⟨db, 5, none⟩) | 2 => fun s => s 157 = .int .i64 d.n | 3 => fun s => s 158 = .int .i64 cx | 4 => fun s => s 159 = .pointer (some ⟨xb, 0, none⟩) | 5 => fun s => s 160 = .pointer (some ⟨db, 5, none⟩) | 6 => fun s => s 161 = .int .i64 d.n | 7 => fun s => s 162 = .int .i64 cx | 8 => fun s => s 163 = .bool true | 9 => fun s => s 11 = .bool true | _ => fun _ => True) ?phc ?pstep ?pdone
  case phc =>
    intro i s s' hx h
    iterate 10 (rcases i with _ | i; · exact (hx _ (List.mem_singleton.2 rfl)).symm.trans h)
    exact h
  case pstep =>
    intro i o ho a' w' l hl hr hq hsa hS hd
    match i, ho, hl, hr, hq with
    | 0, ho, hl, hr, hq =>
      obtain rfl := Option.some.inj ho
      try dsimp only at hd
      have g6 : a'.tmps.getD 6 undef = .pointer (some ⟨tb, 0, none⟩) := hsa.rest 6 (by rfl)
      refine wpOp_of rfl rfl ?_
      refine op_run (v := .pointer (some ⟨tb, 0, none⟩)) (w' := w') ?_ ⟨_, rfl, ?_, by rw [updL_other l (by decide), updL_other l (by decide)]; exact hS⟩
      · simp only [execOp, Act.eval, g6]; first | (go_simp; done) | rfl | (simp; done)
      · try dsimp only
        exact (slots_put (ns := 214) (hsa.size.trans rfl) (by decide))
    | 1, ho, hl, hr, hq =>
      obtain rfl := Option.some.inj ho
      try dsimp only at hd
      have g10 : a'.tmps.getD 10 undef = .pointer (some ⟨db, 0, none⟩) := hsa.rest 10 (by rfl)
      refine wpOp_of rfl rfl ?_
      refine op_run (v := .pointer (some ⟨db, 5, none⟩)) (w' := w') ?_ ⟨_, rfl, ?_, by rw [updL_other l (by decide), updL_other l (by decide)]; exact hS⟩
      · simp only [execOp, Act.eval, g10]; first | (go_simp; done) | rfl | (simp; done)
      · try dsimp only
        exact (slots_put (ns := 214) (hsa.size.trans rfl) (by decide))
    | 2, ho, hl, hr, hq =>
      obtain rfl := Option.some.inj ho
      try dsimp only at hd
      have d1 : a'.tmps.getD 156 undef = .pointer (some ⟨db, 5, none⟩) := hd 1 (by rfl)
      refine wpOp_of rfl rfl ?_
      have y := hDd _ _ _ hS
      refine op_run (v := .int .i64 d.n) (w' := w') ?_ ⟨_, rfl, ?_, by rw [updL_other l (by decide), updL_other l (by decide)]; exact hS⟩
      · simp only [execOp, Act.eval, d1, y]; first | (go_simp; done) | rfl | (simp; done)
      · try dsimp only
        exact (slots_put (ns := 214) (hsa.size.trans rfl) (by decide))
    | 3, ho, hl, hr, hq =>
      obtain rfl := Option.some.inj ho
      try dsimp only at hd
      have d0 : a'.tmps.getD 155 undef = .pointer (some ⟨tb, 0, none⟩) := hd 0 (by rfl)
      have d2 : a'.tmps.getD 157 undef = .int .i64 d.n := hd 2 (by rfl)
      refine wpOp_of rfl rfl ?_
      have hs : S false (l 7) w' := by have h := hS; rw [hl] at h; exact h
      refine op_call 15 _ _ rfl (enters_of Tryz.func15 (by kernel_rfl) rfl) [.pointer (some ⟨tb, 0, none⟩), .int .i64 d.n] (by simp only [List.map, Act.eval, d0, d2]) (hT (l 7) w' hs) ?_
      rintro e w'' ⟨rfl, r1⟩
      refine ⟨_, rfl, _, rfl, ?_, by rw [updL_same, updL_other l (by decide)]; exact r1⟩
      try dsimp only
      exact (slots_put (ns := 214) (hsa.size.trans rfl) (by decide))
    | 4, ho, hl, hr, hq =>
      obtain rfl := Option.some.inj ho
      try dsimp only at hd
      have g8 : a'.tmps.getD 8 undef = .pointer (some ⟨xb, 0, none⟩) := hsa.rest 8 (by rfl)
      refine wpOp_of rfl rfl ?_
      refine op_run (v := .pointer (some ⟨xb, 0, none⟩)) (w' := w') ?_ ⟨_, rfl, ?_, by rw [updL_other l (by decide), updL_other l (by decide)]; exact hS⟩
      · simp only [execOp, Act.eval, g8]; first | (go_simp; done) | rfl | (simp; done)
      · try dsimp only
        exact (slots_put (ns := 214) (hsa.size.trans rfl) (by decide))
    | 5, ho, hl, hr, hq =>
      obtain rfl := Option.some.inj ho
      try dsimp only at hd
      have g10 : a'.tmps.getD 10 undef = .pointer (some ⟨db, 0, none⟩) := hsa.rest 10 (by rfl)
      refine wpOp_of rfl rfl ?_
      refine op_run (v := .pointer (some ⟨db, 5, none⟩)) (w' := w') ?_ ⟨_, rfl, ?_, by rw [updL_other l (by decide), updL_other l (by decide)]; exact hS⟩
      · simp only [execOp, Act.eval, g10]; first | (go_simp; done) | rfl | (simp; done)
      · try dsimp only
        exact (slots_put (ns := 214) (hsa.size.trans rfl) (by decide))
    | 6, ho, hl, hr, hq =>
      obtain rfl := Option.some.inj ho
      try dsimp only at hd
      have d5 : a'.tmps.getD 160 undef = .pointer (some ⟨db, 5, none⟩) := hd 5 (by rfl)
      refine wpOp_of rfl rfl ?_
      have y := hDd _ _ _ hS
      refine op_run (v := .int .i64 d.n) (w' := w') ?_ ⟨_, rfl, ?_, by rw [updL_other l (by decide), updL_other l (by decide)]; exact hS⟩
      · simp only [execOp, Act.eval, d5, y]; first | (go_simp; done) | rfl | (simp; done)
      · try dsimp only
        exact (slots_put (ns := 214) (hsa.size.trans rfl) (by decide))
    | 7, ho, hl, hr, hq =>
      obtain rfl := Option.some.inj ho
      try dsimp only at hd
      have d4 : a'.tmps.getD 159 undef = .pointer (some ⟨xb, 0, none⟩) := hd 4 (by rfl)
      have d6 : a'.tmps.getD 161 undef = .int .i64 d.n := hd 6 (by rfl)
      refine wpOp_of rfl rfl ?_
      have hs : S (l 3) false w' := by have h := hS; rw [hl] at h; exact h
      refine op_call 16 _ _ rfl (enters_of Tryz.func16 (by kernel_rfl) rfl) [.pointer (some ⟨xb, 0, none⟩), .int .i64 d.n] (by simp only [List.map, Act.eval, d4, d6]) (hX (l 3) w' hs) ?_
      rintro e w'' ⟨rfl, r1⟩
      refine ⟨_, rfl, _, rfl, ?_, by rw [updL_same, updL_other l (by decide)]; exact r1⟩
      try dsimp only
      exact (slots_put (ns := 214) (hsa.size.trans rfl) (by decide))
    | 8, ho, hl, hr, hq =>
      obtain rfl := Option.some.inj ho
      try dsimp only at hd
      have d3 : a'.tmps.getD 158 undef = .int .i64 cx := hd 3 (by rfl)
      have d7 : a'.tmps.getD 162 undef = .int .i64 cx := hd 7 (by rfl)
      refine wpOp_of rfl rfl ?_
      refine op_run (v := .bool true) (w' := w') ?_ ⟨_, rfl, ?_, by rw [updL_other l (by decide), updL_other l (by decide)]; exact hS⟩
      · simp only [execOp, Act.eval, d3, d7]; first | (go_simp; done) | rfl | (simp; done)
      · try dsimp only
        exact (slots_put (ns := 214) (hsa.size.trans rfl) (by decide))
    | 9, ho, hl, hr, hq =>
      obtain rfl := Option.some.inj ho
      try dsimp only at hd
      have d8 : a'.tmps.getD 163 undef = .bool true := hd 8 (by rfl)
      refine wpOp_of rfl rfl ?_
      refine op_run (v := .bool true) (w' := w') ?_ ⟨_, rfl, ?_, by rw [updL_other l (by decide), updL_other l (by decide)]; exact hS⟩
      · simp only [execOp, Act.eval, d8]; first | (go_simp; done) | rfl | (simp; done)
      · try dsimp only
        exact (slots_put (ns := 214) (hsa.size.trans rfl) (by decide))
    | (n + 10), ho, _, _, _ => exact absurd ho (by simp)
  case pdone =>
    intro a' w' l hl hsa hS hd
    have d9 : a'.tmps.getD 11 undef = .bool true := hd 9 (by decide)
    have hs : S true true w' := by have h := hS; rw [hl 3 (by decide), hl 7 (by decide)] at h; exact h
    exact HQ.out a' w' ⟨hsa.size.trans rfl, hsa.defers.trans rfl, hsa.rest 0 (by rfl), hsa.rest 1 (by rfl), hsa.rest 4 (by rfl), hsa.rest 5 (by rfl), hsa.rest 6 (by rfl), hsa.rest 7 (by rfl), hsa.rest 8 (by rfl), hsa.rest 9 (by rfl), hsa.rest 10 (by rfl), d9, hsa.rest 12 (by rfl), hsa.rest 13 (by rfl), hsa.rest 14 (by rfl), hsa.rest 15 (by rfl), hsa.rest 16 (by rfl), hsa.rest 17 (by rfl), hsa.rest 18 (by rfl), hsa.rest 19 (by rfl), hsa.rest 20 (by rfl), hsa.rest 21 (by rfl), hsa.rest 22 (by rfl), hsa.rest 64 (by rfl)⟩ hs
theorem pl_r34 {K : Act → World → Prop} {c : Code} (hc : regOf (Tryz.f3.body.getD .skip) 34 = some c) (a : Act) {v : Vpl} {wq : World} {tb xb db : Nat} {d : DE} {cx : Int} {S : Bool → Bool → World → Prop} (hF : Fpl a v) (h6v : v.v6 = .pointer (some ⟨tb, 0, none⟩)) (h8v : v.v8 = .pointer (some ⟨xb, 0, none⟩)) (h10v : v.v10 = .pointer (some ⟨db, 0, none⟩)) (h0 : S false false wq.drew) (hDd : ∀ b1 b2 W, S b1 b2 W → W.cell? ⟨db, 5, none⟩ = some (.int .i64 d.n)) (hT : ∀ b2 W, S false b2 W → Calls Tryz.prog 17 #[.pointer (some ⟨tb, 0, none⟩), .int .i64 d.n] W fun e w' => e = .returned (.int .i64 cx) ∧ S true b2 w') (hX : ∀ b1 W, S b1 false W → Calls Tryz.prog 18 #[.pointer (some ⟨xb, 0, none⟩), .int .i64 d.n] W fun e w' => e = .returned (.int .i64 cx) ∧ S b1 true w')
    (hQ : ∀ a' w', Fpl a' { v with v11 := .bool true } → S true true w' → K a' w') :
    Code.wp Tryz.prog c (Exit.then K fun _ _ _ => False) a wq := by
  have HQ := hide hQ
  clear hQ
  obtain ⟨v0, v1, v4, v5, v6, v7, v8, v9, v10, v11, v12, v13, v14, v15, v16, v17, v18, v19, v20, v21, v22, v64⟩ := v
  simp only at h6v h8v h10v HQ
  subst h6v h8v h10v
  obtain ⟨u, rfl⟩ := frx_pl hF
  clear hF
  simp only [Tryz.f3, Option.getD_some, regOf] at hc
  injection hc with hc
  subst hc
  refine wp_region_any rfl ?_
  refine wpAny_staged (ns := 214) (uses := (fun i => match i with | 0 => [166] | 1 => [167] | 2 => [168] | 3 => [169] | 4 => [170] | 5 => [171] | 6 => [172] | 7 => [173] | 8 => [174] | 9 => [11] | _ => [])) (by kernel_rfl) (by kernel_rfl) (fun l _ w => S (l 3) (l 7) w) h0 (fun i => match i with | 0 => fun s => s 166 = .pointer (some ⟨tb, 0, none⟩) | 1 => fun s => s 167 = .pointer (some ⟨db, 5, none⟩) | 2 => fun s => s 168 = .int .i64 d.n | 3 => fun s => s 169 = .int .i64 cx | 4 => fun s => s 170 = .pointer (some ⟨xb, 0, none⟩) | 5 => fun s => s 171 = .pointer (some ⟨db, 5, none⟩) | 6 => fun s => s 172 = .int .i64 d.n | 7 => fun s => s 173 = .int .i64 cx | 8 => fun s => s 174 = .bool true | 9 => fun s => s 11 = .bool true | _ => fun _ => True) ?phc ?pstep ?pdone
  case phc =>
    intro i s s' hx h
    iterate 10 (rcases i with _ | i; · exact (hx _ (List.mem_singleton.2 rfl)).symm.trans h)
    exact h
  case pstep =>
    intro i o ho a' w' l hl hr hq hsa hS hd
    match i, ho, hl, hr, hq with
    | 0, ho, hl, hr, hq =>
      obtain rfl := Option.some.inj ho
      try dsimp only at hd
      have g6 : a'.tmps.getD 6 undef = .pointer (some ⟨tb, 0, none⟩) := hsa.rest 6 (by rfl)
      refine wpOp_of rfl rfl ?_
      refine op_run (v := .pointer (some ⟨tb, 0, none⟩)) (w' := w') ?_ ⟨_, rfl, ?_, by rw [updL_other l (by decide), updL_other l (by decide)]; exact hS⟩
      · simp only [execOp, Act.eval, g6]; first | (go_simp; done) | rfl | (simp; done)
      · try dsimp only
        exact (slots_put (ns := 214) (hsa.size.trans rfl) (by decide))
    | 1, ho, hl, hr, hq =>
      obtain rfl := Option.some.inj ho
      try dsimp only at hd
      have g10 : a'.tmps.getD 10 undef = .pointer (some ⟨db, 0, none⟩) := hsa.rest 10 (by rfl)
      refine wpOp_of rfl rfl ?_
      refine op_run (v := .pointer (some ⟨db, 5, none⟩)) (w' := w') ?_ ⟨_, rfl, ?_, by rw [updL_other l (by decide), updL_other l (by decide)]; exact hS⟩
      · simp only [execOp, Act.eval, g10]; first | (go_simp; done) | rfl | (simp; done)
      · try dsimp only
        exact (slots_put (ns := 214) (hsa.size.trans rfl) (by decide))
    | 2, ho, hl, hr, hq =>
      obtain rfl := Option.some.inj ho
      try dsimp only at hd
      have d1 : a'.tmps.getD 167 undef = .pointer (some ⟨db, 5, none⟩) := hd 1 (by rfl)
      refine wpOp_of rfl rfl ?_
      have y := hDd _ _ _ hS
      refine op_run (v := .int .i64 d.n) (w' := w') ?_ ⟨_, rfl, ?_, by rw [updL_other l (by decide), updL_other l (by decide)]; exact hS⟩
      · simp only [execOp, Act.eval, d1, y]; first | (go_simp; done) | rfl | (simp; done)
      · try dsimp only
        exact (slots_put (ns := 214) (hsa.size.trans rfl) (by decide))
    | 3, ho, hl, hr, hq =>
      obtain rfl := Option.some.inj ho
      try dsimp only at hd
      have d0 : a'.tmps.getD 166 undef = .pointer (some ⟨tb, 0, none⟩) := hd 0 (by rfl)
      have d2 : a'.tmps.getD 168 undef = .int .i64 d.n := hd 2 (by rfl)
      refine wpOp_of rfl rfl ?_
      have hs : S false (l 7) w' := by have h := hS; rw [hl] at h; exact h
      refine op_call 17 _ _ rfl (enters_of Tryz.func17 (by kernel_rfl) rfl) [.pointer (some ⟨tb, 0, none⟩), .int .i64 d.n] (by simp only [List.map, Act.eval, d0, d2]) (hT (l 7) w' hs) ?_
      rintro e w'' ⟨rfl, r1⟩
      refine ⟨_, rfl, _, rfl, ?_, by rw [updL_same, updL_other l (by decide)]; exact r1⟩
      try dsimp only
      exact (slots_put (ns := 214) (hsa.size.trans rfl) (by decide))
    | 4, ho, hl, hr, hq =>
      obtain rfl := Option.some.inj ho
      try dsimp only at hd
      have g8 : a'.tmps.getD 8 undef = .pointer (some ⟨xb, 0, none⟩) := hsa.rest 8 (by rfl)
      refine wpOp_of rfl rfl ?_
      refine op_run (v := .pointer (some ⟨xb, 0, none⟩)) (w' := w') ?_ ⟨_, rfl, ?_, by rw [updL_other l (by decide), updL_other l (by decide)]; exact hS⟩
      · simp only [execOp, Act.eval, g8]; first | (go_simp; done) | rfl | (simp; done)
      · try dsimp only
        exact (slots_put (ns := 214) (hsa.size.trans rfl) (by decide))
    | 5, ho, hl, hr, hq =>
      obtain rfl := Option.some.inj ho
      try dsimp only at hd
      have g10 : a'.tmps.getD 10 undef = .pointer (some ⟨db, 0, none⟩) := hsa.rest 10 (by rfl)
      refine wpOp_of rfl rfl ?_
      refine op_run (v := .pointer (some ⟨db, 5, none⟩)) (w' := w') ?_ ⟨_, rfl, ?_, by rw [updL_other l (by decide), updL_other l (by decide)]; exact hS⟩
      · simp only [execOp, Act.eval, g10]; first | (go_simp; done) | rfl | (simp; done)
      · try dsimp only
        exact (slots_put (ns := 214) (hsa.size.trans rfl) (by decide))
    | 6, ho, hl, hr, hq =>
      obtain rfl := Option.some.inj ho
      try dsimp only at hd
      have d5 : a'.tmps.getD 171 undef = .pointer (some ⟨db, 5, none⟩) := hd 5 (by rfl)
      refine wpOp_of rfl rfl ?_
      have y := hDd _ _ _ hS
      refine op_run (v := .int .i64 d.n) (w' := w') ?_ ⟨_, rfl, ?_, by rw [updL_other l (by decide), updL_other l (by decide)]; exact hS⟩
      · simp only [execOp, Act.eval, d5, y]; first | (go_simp; done) | rfl | (simp; done)
      · try dsimp only
        exact (slots_put (ns := 214) (hsa.size.trans rfl) (by decide))
    | 7, ho, hl, hr, hq =>
      obtain rfl := Option.some.inj ho
      try dsimp only at hd
      have d4 : a'.tmps.getD 170 undef = .pointer (some ⟨xb, 0, none⟩) := hd 4 (by rfl)
      have d6 : a'.tmps.getD 172 undef = .int .i64 d.n := hd 6 (by rfl)
      refine wpOp_of rfl rfl ?_
      have hs : S (l 3) false w' := by have h := hS; rw [hl] at h; exact h
      refine op_call 18 _ _ rfl (enters_of Tryz.func18 (by kernel_rfl) rfl) [.pointer (some ⟨xb, 0, none⟩), .int .i64 d.n] (by simp only [List.map, Act.eval, d4, d6]) (hX (l 3) w' hs) ?_
      rintro e w'' ⟨rfl, r1⟩
      refine ⟨_, rfl, _, rfl, ?_, by rw [updL_same, updL_other l (by decide)]; exact r1⟩
      try dsimp only
      exact (slots_put (ns := 214) (hsa.size.trans rfl) (by decide))
    | 8, ho, hl, hr, hq =>
      obtain rfl := Option.some.inj ho
      try dsimp only at hd
      have d3 : a'.tmps.getD 169 undef = .int .i64 cx := hd 3 (by rfl)
      have d7 : a'.tmps.getD 173 undef = .int .i64 cx := hd 7 (by rfl)
      refine wpOp_of rfl rfl ?_
      refine op_run (v := .bool true) (w' := w') ?_ ⟨_, rfl, ?_, by rw [updL_other l (by decide), updL_other l (by decide)]; exact hS⟩
      · simp only [execOp, Act.eval, d3, d7]; first | (go_simp; done) | rfl | (simp; done)
      · try dsimp only
        exact (slots_put (ns := 214) (hsa.size.trans rfl) (by decide))
    | 9, ho, hl, hr, hq =>
      obtain rfl := Option.some.inj ho
      try dsimp only at hd
      have d8 : a'.tmps.getD 174 undef = .bool true := hd 8 (by rfl)
      refine wpOp_of rfl rfl ?_
      refine op_run (v := .bool true) (w' := w') ?_ ⟨_, rfl, ?_, by rw [updL_other l (by decide), updL_other l (by decide)]; exact hS⟩
      · simp only [execOp, Act.eval, d8]; first | (go_simp; done) | rfl | (simp; done)
      · try dsimp only
        exact (slots_put (ns := 214) (hsa.size.trans rfl) (by decide))
    | (n + 10), ho, _, _, _ => exact absurd ho (by simp)
  case pdone =>
    intro a' w' l hl hsa hS hd
    have d9 : a'.tmps.getD 11 undef = .bool true := hd 9 (by decide)
    have hs : S true true w' := by have h := hS; rw [hl 3 (by decide), hl 7 (by decide)] at h; exact h
    exact HQ.out a' w' ⟨hsa.size.trans rfl, hsa.defers.trans rfl, hsa.rest 0 (by rfl), hsa.rest 1 (by rfl), hsa.rest 4 (by rfl), hsa.rest 5 (by rfl), hsa.rest 6 (by rfl), hsa.rest 7 (by rfl), hsa.rest 8 (by rfl), hsa.rest 9 (by rfl), hsa.rest 10 (by rfl), d9, hsa.rest 12 (by rfl), hsa.rest 13 (by rfl), hsa.rest 14 (by rfl), hsa.rest 15 (by rfl), hsa.rest 16 (by rfl), hsa.rest 17 (by rfl), hsa.rest 18 (by rfl), hsa.rest 19 (by rfl), hsa.rest 20 (by rfl), hsa.rest 21 (by rfl), hsa.rest 22 (by rfl), hsa.rest 64 (by rfl)⟩ hs
theorem pl_r14 {K : Act → World → Prop} {c : Code} (hc : regOf (Tryz.f3.body.getD .skip) 14 = some c) (a : Act) {v : Vpl} {wq : World} {tb : Nat} {s : ByteArray} {R : World → Prop} (hF : Fpl a v) (h6v : v.v6 = .pointer (some ⟨tb, 0, none⟩)) (hE : Calls Tryz.prog 19 #[.pointer (some ⟨tb, 0, none⟩)] wq fun e w' => e = .returned (.string s) ∧ R w')
    (hQ : ∀ a' w', Fpl a' { v with v18 := .string s } → R w' → K a' w') :
    Code.wp Tryz.prog c (Exit.then K fun _ _ _ => False) a wq := by
  have HQ := hide hQ
  clear hQ
  obtain ⟨v0, v1, v4, v5, v6, v7, v8, v9, v10, v11, v12, v13, v14, v15, v16, v17, v18, v19, v20, v21, v22, v64⟩ := v
  simp only at h6v HQ
  subst h6v
  obtain ⟨u, rfl⟩ := frx_pl hF
  clear hF
  simp only [Tryz.f3, Option.getD_some, regOf] at hc
  injection hc with hc
  subst hc
  have HE := hide hE
  clear hE
  go_wp2_with (go_at_call 19; refine HE.out.mono ?_; rintro e w1 ⟨rfl, r1⟩; have R1 := hide r1; clear r1)
  exact HQ.out _ _ ⟨rfl, rfl, rfl, rfl, rfl, rfl, rfl, rfl, rfl, rfl, rfl, rfl, rfl, rfl, rfl, rfl, rfl, rfl, rfl, rfl, rfl, rfl, rfl, rfl⟩ R1.out
theorem pl_r15 {K : Act → World → Prop} {c : Code} (hc : regOf (Tryz.f3.body.getD .skip) 15 = some c) (a : Act) {v : Vpl} {wq : World} {s : ByteArray} {R : Option Addr → World → Prop} (hF : Fpl a v) (h18v : v.v18 = .string s) (hE : Calls Tryz.prog 20 #[.string s] wq fun e w' => ∃ po, e = .returned (.tuple #[.pointer po, .int .i64 0]) ∧ R po w')
    (hQ : ∀ a' w' po, Fpl a' { v with v19 := .pointer po, v20 := .int .i64 0 } → R po w' → K a' w') :
    Code.wp Tryz.prog c (Exit.then K fun _ _ _ => False) a wq := by
  have HQ := hide hQ
  clear hQ
  obtain ⟨v0, v1, v4, v5, v6, v7, v8, v9, v10, v11, v12, v13, v14, v15, v16, v17, v18, v19, v20, v21, v22, v64⟩ := v
  simp only at h18v HQ
  subst h18v
  obtain ⟨u, rfl⟩ := frx_pl hF
  clear hF
  simp only [Tryz.f3, Option.getD_some, regOf] at hc
  injection hc with hc
  subst hc
  have HE := hide hE
  clear hE
  go_wp2_with (go_at_call 20; refine HE.out.mono ?_; rintro e w1 ⟨po, rfl, r1⟩; have R1 := hide r1; clear r1)
  exact HQ.out _ _ po ⟨rfl, rfl, rfl, rfl, rfl, rfl, rfl, rfl, rfl, rfl, rfl, rfl, rfl, rfl, rfl, rfl, rfl, rfl, rfl, rfl, rfl, rfl, rfl, rfl⟩ R1.out
theorem pl_r16 {K : Act → World → Prop} {c : Code} (hc : regOf (Tryz.f3.body.getD .skip) 16 = some c) (a : Act) {v : Vpl} {wq : World} {xb ub : Nat} {s : ByteArray} {R : World → Prop} (hF : Fpl a v) (h8v : v.v8 = .pointer (some ⟨xb, 0, none⟩)) (h18v : v.v18 = .string s) (h19v : v.v19 = .pointer (some ⟨ub, 0, none⟩)) (h20v : v.v20 = .int .i64 0) (hs : s.toList ≠ []) (hE : Calls Tryz.prog 21 #[.pointer (some ⟨xb, 0, none⟩)] wq fun e w' => e = .returned (.string s) ∧ R w')
    (hQ : ∀ a' w', Fpl a' v → a'.tmps.getD 87 undef = .bool false → R w' → K a' w') :
    Code.wp Tryz.prog c (Exit.then K fun _ _ _ => False) a wq := by
  have HQ := hide hQ
  clear hQ
  obtain ⟨v0, v1, v4, v5, v6, v7, v8, v9, v10, v11, v12, v13, v14, v15, v16, v17, v18, v19, v20, v21, v22, v64⟩ := v
  simp only at h8v h18v h19v h20v HQ
  subst h8v h18v h19v h20v
  obtain ⟨u, rfl⟩ := frx_pl hF
  clear hF
  simp only [Tryz.f3, Option.getD_some, regOf] at hc
  injection hc with hc
  subst hc
  have HE := hide hE
  clear hE
  go_wp2_with (go_at_call 21; refine HE.out.mono ?_; rintro e w1 ⟨rfl, r1⟩; have R1 := hide r1; clear r1)
  exact HQ.out _ _ ⟨rfl, rfl, rfl, rfl, rfl, rfl, rfl, rfl, rfl, rfl, rfl, rfl, rfl, rfl, rfl, rfl, rfl, rfl, rfl, rfl, rfl, rfl, rfl, rfl⟩ (by first | rfl | (simp; done) | (simp [hs]; done)) R1.out
theorem pl_r18 {K : Act → World → Prop} {c : Code} (hc : regOf (Tryz.f3.body.getD .skip) 18 = some c) (a : Act) {v : Vpl} {wq : World} {s : ByteArray} (hF : Fpl a v) (h18v : v.v18 = .string s) (hs : s.toList ≠ []) (hQ : ∀ a', Fpl a' v → a'.tmps.getD 89 undef = .bool true → K a' wq) :
    Code.wp Tryz.prog c (Exit.then K fun _ _ _ => False) a wq := by
  have HQ := hide hQ
  clear hQ
  obtain ⟨v0, v1, v4, v5, v6, v7, v8, v9, v10, v11, v12, v13, v14, v15, v16, v17, v18, v19, v20, v21, v22, v64⟩ := v
  simp only at h18v HQ
  subst h18v
  obtain ⟨u, rfl⟩ := frx_pl hF
  clear hF
  simp only [Tryz.f3, Option.getD_some, regOf] at hc
  injection hc with hc
  subst hc
  go_wp2
  exact HQ.out _ ⟨rfl, rfl, rfl, rfl, rfl, rfl, rfl, rfl, rfl, rfl, rfl, rfl, rfl, rfl, rfl, rfl, rfl, rfl, rfl, rfl, rfl, rfl, rfl, rfl⟩ (by first | rfl | (simp; done) | (simp [hs]; done))
theorem pl_r19 {K : Act → World → Prop} {c : Code} (hc : regOf (Tryz.f3.body.getD .skip) 19 = some c) (a : Act) {v : Vpl} {wq : World} {po : Option Addr} (hF : Fpl a v) (h19v : v.v19 = .pointer po) (hQ : ∀ a', Fpl a' { v with v6 := .pointer po } → K a' wq) :
    Code.wp Tryz.prog c (Exit.then K fun _ _ _ => False) a wq := by
  have HQ := hide hQ
  clear hQ
  obtain ⟨v0, v1, v4, v5, v6, v7, v8, v9, v10, v11, v12, v13, v14, v15, v16, v17, v18, v19, v20, v21, v22, v64⟩ := v
  simp only at h19v HQ
  subst h19v
  obtain ⟨u, rfl⟩ := frx_pl hF
  clear hF
  simp only [Tryz.f3, Option.getD_some, regOf] at hc
  injection hc with hc
  subst hc
  go_wp2
  exact HQ.out _ ⟨rfl, rfl, rfl, rfl, rfl, rfl, rfl, rfl, rfl, rfl, rfl, rfl, rfl, rfl, rfl, rfl, rfl, rfl, rfl, rfl, rfl, rfl, rfl, rfl⟩
theorem pl_r35 {K : Act → World → Prop} {c : Code} (hc : regOf (Tryz.f3.body.getD .skip) 35 = some c) (a : Act) {v : Vpl} {wq : World} {tb xb : Nat} {nm : ByteArray} {lo fi : Int} {pv rv : Value} (hF : Fpl a v) (h6v : v.v6 = .pointer (some ⟨tb, 0, none⟩)) (h8v : v.v8 = .pointer (some ⟨xb, 0, none⟩)) (h11v : v.v11 = .bool true) (hX : wq.heap[xb]? = some (.cells #[.string nm, .int .i64 lo, .int .i64 fi, pv, rv] 44 (0, 0))) (hN : ∀ W, Below wq.heap.size wq W → Calls Tryz.prog 22 #[.pointer (some ⟨tb, 0, none⟩)] W fun e w' => e = .returned (.string nm) ∧ Below W.heap.size W w') (hL : ∀ W, Below wq.heap.size wq W → Calls Tryz.prog 23 #[.pointer (some ⟨tb, 0, none⟩)] W fun e w' => e = .returned (.int .i64 lo) ∧ Below W.heap.size W w') (hE : ∀ W, Below wq.heap.size wq W → Calls Tryz.prog 24 #[.pointer (some ⟨tb, 0, none⟩)] W fun e w' => e = .returned (.int .i64 fi) ∧ Below W.heap.size W w') 
    (hQ : ∀ a' w', Fpl a' v → a'.tmps.getD 203 undef = .bool false → Below wq.heap.size wq w' → K a' w') :
    Code.wp Tryz.prog c (Exit.then K fun _ _ _ => False) a wq := by
  have HQ := hide hQ
  clear hQ
  obtain ⟨v0, v1, v4, v5, v6, v7, v8, v9, v10, v11, v12, v13, v14, v15, v16, v17, v18, v19, v20, v21, v22, v64⟩ := v
  simp only at h6v h8v h11v HQ
  subst h6v h8v h11v
  obtain ⟨u, rfl⟩ := frx_pl hF
  clear hF
  simp only [Tryz.f3, Option.getD_some, regOf] at hc
  injection hc with hc
  subst hc
  refine wp_region_phi (by kernel_rfl) (ns := 214) (uses := (fun i => match i with | 0 => [175] | 1 => [176] | 2 => [177] | 3 => [178] | 4 => [179] | 5 => [180] | 6 => [181] | 7 => [182] | 8 => [183] | 9 => [184] | 10 => [185] | 11 => [186] | 12 => [187] | 13 => [188] | 14 => [189] | 15 => [190] | 16 => [191] | 17 => [192] | 18 => [193] | 19 => [194] | 20 => [195] | 21 => [196] | 22 => [197] | 23 => [198] | 24 => [199] | 25 => [200] | 26 => [201] | 27 => [202] | 28 => [203] | _ => [])) (by kernel_rfl) (by kernel_rfl) (fun _ w w' => Below w.heap.size w w') (fun w => Below wq.heap.size wq w) (fun _ _ _ h r => h.trans (r.mono h.size)) ((Below.refl _ _).drew) (fun i => match i with | 0 => fun s w => s 175 = .bool true | 1 => fun s w => s 176 = .bool false | 2 => fun s w => s 177 = .bool false | 3 => fun s w => s 178 = .pointer (some ⟨tb, 0, none⟩) | 4 => fun s w => s 179 = .string nm | 5 => fun s w => s 180 = .pointer (some ⟨xb, 0, none⟩) | 6 => fun s w => s 181 = .pointer (some ⟨xb, 0, none⟩) | 7 => fun s w => s 182 = .pointer (some ⟨xb, 0, none⟩) | 8 => fun s w => s 183 = .string nm | 9 => fun s w => s 184 = .bool false | 10 => fun s w => s 185 = .bool false | 11 => fun s w => s 186 = .bool false | 12 => fun s w => s 187 = .pointer (some ⟨tb, 0, none⟩) | 13 => fun s w => s 188 = .int .i64 lo | 14 => fun s w => s 189 = .pointer (some ⟨xb, 0, none⟩) | 15 => fun s w => s 190 = .pointer (some ⟨xb, 0, none⟩) | 16 => fun s w => s 191 = .pointer (some ⟨xb, 1, none⟩) | 17 => fun s w => s 192 = .int .i64 lo | 18 => fun s w => s 193 = .bool false | 19 => fun s w => s 194 = .bool false | 20 => fun s w => s 195 = .bool false | 21 => fun s w => s 196 = .pointer (some ⟨tb, 0, none⟩) | 22 => fun s w => s 197 = .int .i64 fi | 23 => fun s w => s 198 = .pointer (some ⟨xb, 0, none⟩) | 24 => fun s w => s 199 = .pointer (some ⟨xb, 0, none⟩) | 25 => fun s w => s 200 = .pointer (some ⟨xb, 2, none⟩) | 26 => fun s w => s 201 = .int .i64 fi | 27 => fun s w => s 202 = .bool false | 28 => fun s w => s 203 = .bool false | _ => fun _ _ => True) ?phc ?phh ?pstep ?pdone
  case phc =>
    intro i s s' w hx h
    iterate 29 (rcases i with _ | i; · exact (hx _ (List.mem_singleton.2 rfl)).symm.trans h)
    exact h
  case phh =>
    intro i j s w w' hij h hb r
    iterate 29 (rcases i with _ | i; · exact h)
    exact h
  case pstep =>
    intro i o ho a' w' hsa hb hd
    match i, ho with
    | 0, ho =>
      obtain rfl := Option.some.inj ho
      try dsimp only at hd
      have g11 : a'.tmps.getD 11 undef = .bool true := hsa.rest 11 (by rfl)
      refine wpOp_of rfl rfl ?_
      refine op_run (v := .bool true) (w' := w') ?_ ⟨_, rfl, slots_put (ns := 214) (hsa.size.trans rfl) (by decide), Below.refl _ _⟩
      simp only [execOp, Act.eval, g11]; first | (go_simp; done) | rfl
    | 1, ho =>
      obtain rfl := Option.some.inj ho
      try dsimp only at hd
      have d0 : a'.tmps.getD 175 undef = .bool true := hd 0 (by rfl)
      refine wpOp_of rfl rfl ?_
      refine op_run (v := .bool false) (w' := w') ?_ ⟨_, rfl, slots_put (ns := 214) (hsa.size.trans rfl) (by decide), Below.refl _ _⟩
      simp only [execOp, Act.eval, d0]; first | (go_simp; done) | rfl
    | 2, ho =>
      obtain rfl := Option.some.inj ho
      try dsimp only at hd
      have d1 : a'.tmps.getD 176 undef = .bool false := hd 1 (by rfl)
      refine wpOp_of rfl rfl ?_
      refine op_run (v := .bool false) (w' := w') ?_ ⟨_, rfl, slots_put (ns := 214) (hsa.size.trans rfl) (by decide), Below.refl _ _⟩
      simp only [execOp, Act.eval, d1]; first | (go_simp; done) | rfl
    | 3, ho =>
      obtain rfl := Option.some.inj ho
      try dsimp only at hd
      have d2 : a'.tmps.getD 177 undef = .bool false := hd 2 (by rfl)
      have g6 : a'.tmps.getD 6 undef = .pointer (some ⟨tb, 0, none⟩) := hsa.rest 6 (by rfl)
      refine wpOp_on (j := 2) (dj := 177) rfl rfl rfl d2 ?_
      refine op_run (v := .pointer (some ⟨tb, 0, none⟩)) (w' := w') ?_ ⟨_, rfl, slots_put (ns := 214) (hsa.size.trans rfl) (by decide), Below.refl _ _⟩
      simp only [execOp, Act.eval, d2, g6]; first | (go_simp; done) | rfl
    | 4, ho =>
      obtain rfl := Option.some.inj ho
      try dsimp only at hd
      have d2 : a'.tmps.getD 177 undef = .bool false := hd 2 (by rfl)
      have d3 : a'.tmps.getD 178 undef = .pointer (some ⟨tb, 0, none⟩) := hd 3 (by rfl)
      refine wpOp_on (j := 2) (dj := 177) rfl rfl rfl d2 ?_
      refine op_call 22 _ _ rfl (enters_of Tryz.func22 (by kernel_rfl) rfl) [.pointer (some ⟨tb, 0, none⟩)] (by simp only [List.map, Act.eval, d2, d3]) (hN w' hb) ?_
      rintro e w'' ⟨rfl, b2⟩
      refine ⟨_, rfl, _, rfl, ?_, ?_⟩
      · try dsimp only
        exact (slots_put (ns := 214) (hsa.size.trans rfl) (by decide))
      · exact b2
    | 5, ho =>
      obtain rfl := Option.some.inj ho
      try dsimp only at hd
      have d2 : a'.tmps.getD 177 undef = .bool false := hd 2 (by rfl)
      have g8 : a'.tmps.getD 8 undef = .pointer (some ⟨xb, 0, none⟩) := hsa.rest 8 (by rfl)
      refine wpOp_on (j := 2) (dj := 177) rfl rfl rfl d2 ?_
      refine op_run (v := .pointer (some ⟨xb, 0, none⟩)) (w' := w') ?_ ⟨_, rfl, slots_put (ns := 214) (hsa.size.trans rfl) (by decide), Below.refl _ _⟩
      simp only [execOp, Act.eval, d2, g8]; first | (go_simp; done) | rfl
    | 6, ho =>
      obtain rfl := Option.some.inj ho
      try dsimp only at hd
      have d2 : a'.tmps.getD 177 undef = .bool false := hd 2 (by rfl)
      have d5 : a'.tmps.getD 180 undef = .pointer (some ⟨xb, 0, none⟩) := hd 5 (by rfl)
      refine wpOp_on (j := 2) (dj := 177) rfl rfl rfl d2 ?_
      refine op_run (v := .pointer (some ⟨xb, 0, none⟩)) (w' := w') ?_ ⟨_, rfl, slots_put (ns := 214) (hsa.size.trans rfl) (by decide), Below.refl _ _⟩
      simp only [execOp, Act.eval, d2, d5]; first | (go_simp; done) | rfl
    | 7, ho =>
      obtain rfl := Option.some.inj ho
      try dsimp only at hd
      have d2 : a'.tmps.getD 177 undef = .bool false := hd 2 (by rfl)
      have d6 : a'.tmps.getD 181 undef = .pointer (some ⟨xb, 0, none⟩) := hd 6 (by rfl)
      refine wpOp_on (j := 2) (dj := 177) rfl rfl rfl d2 ?_
      refine op_run (v := .pointer (some ⟨xb, 0, none⟩)) (w' := w') ?_ ⟨_, rfl, slots_put (ns := 214) (hsa.size.trans rfl) (by decide), Below.refl _ _⟩
      simp only [execOp, Act.eval, d2, d6]; first | (go_simp; done) | rfl
    | 8, ho =>
      obtain rfl := Option.some.inj ho
      try dsimp only at hd
      have d2 : a'.tmps.getD 177 undef = .bool false := hd 2 (by rfl)
      have d7 : a'.tmps.getD 182 undef = .pointer (some ⟨xb, 0, none⟩) := hd 7 (by rfl)
      have y : w'.cell? ⟨xb, 0, none⟩ = some (.string nm) := (hb.cell (p := ⟨xb, 0, none⟩) (heap_lt hX)).trans (box_cell hX 0 rfl)
      refine wpOp_on (j := 2) (dj := 177) rfl rfl rfl d2 ?_
      refine op_run (v := .string nm) (w' := w') ?_ ⟨_, rfl, slots_put (ns := 214) (hsa.size.trans rfl) (by decide), Below.refl _ _⟩
      simp only [execOp, Act.eval, d2, d7, y]; first | (go_simp; done) | rfl
    | 9, ho =>
      obtain rfl := Option.some.inj ho
      try dsimp only at hd
      have d2 : a'.tmps.getD 177 undef = .bool false := hd 2 (by rfl)
      have d4 : a'.tmps.getD 179 undef = .string nm := hd 4 (by rfl)
      have d8 : a'.tmps.getD 183 undef = .string nm := hd 8 (by rfl)
      refine wpOp_on (j := 2) (dj := 177) rfl rfl rfl d2 ?_
      refine op_run (v := .bool false) (w' := w') ?_ ⟨_, rfl, slots_put (ns := 214) (hsa.size.trans rfl) (by decide), Below.refl _ _⟩
      simp only [execOp, Act.eval, d2, d4, d8]; first | (go_simp; done) | rfl
    | 10, ho =>
      obtain rfl := Option.some.inj ho
      try dsimp only at hd
      have d2 : a'.tmps.getD 177 undef = .bool false := hd 2 (by rfl)
      have d9 : a'.tmps.getD 184 undef = .bool false := hd 9 (by rfl)
      refine wpOp_of rfl rfl ?_
      refine op_run (v := .bool false) (w' := w') ?_ ⟨_, rfl, slots_put (ns := 214) (hsa.size.trans rfl) (by decide), Below.refl _ _⟩
      simp only [execOp, Act.eval, d2, d9]; first | (go_simp; done) | rfl
    | 11, ho =>
      obtain rfl := Option.some.inj ho
      try dsimp only at hd
      have d10 : a'.tmps.getD 185 undef = .bool false := hd 10 (by rfl)
      refine wpOp_of rfl rfl ?_
      refine op_run (v := .bool false) (w' := w') ?_ ⟨_, rfl, slots_put (ns := 214) (hsa.size.trans rfl) (by decide), Below.refl _ _⟩
      simp only [execOp, Act.eval, d10]; first | (go_simp; done) | rfl
    | 12, ho =>
      obtain rfl := Option.some.inj ho
      try dsimp only at hd
      have d11 : a'.tmps.getD 186 undef = .bool false := hd 11 (by rfl)
      have g6 : a'.tmps.getD 6 undef = .pointer (some ⟨tb, 0, none⟩) := hsa.rest 6 (by rfl)
      refine wpOp_on (j := 11) (dj := 186) rfl rfl rfl d11 ?_
      refine op_run (v := .pointer (some ⟨tb, 0, none⟩)) (w' := w') ?_ ⟨_, rfl, slots_put (ns := 214) (hsa.size.trans rfl) (by decide), Below.refl _ _⟩
      simp only [execOp, Act.eval, d11, g6]; first | (go_simp; done) | rfl
    | 13, ho =>
      obtain rfl := Option.some.inj ho
      try dsimp only at hd
      have d11 : a'.tmps.getD 186 undef = .bool false := hd 11 (by rfl)
      have d12 : a'.tmps.getD 187 undef = .pointer (some ⟨tb, 0, none⟩) := hd 12 (by rfl)
      refine wpOp_on (j := 11) (dj := 186) rfl rfl rfl d11 ?_
      refine op_call 23 _ _ rfl (enters_of Tryz.func23 (by kernel_rfl) rfl) [.pointer (some ⟨tb, 0, none⟩)] (by simp only [List.map, Act.eval, d11, d12]) (hL w' hb) ?_
      rintro e w'' ⟨rfl, b2⟩
      refine ⟨_, rfl, _, rfl, ?_, ?_⟩
      · try dsimp only
        exact (slots_put (ns := 214) (hsa.size.trans rfl) (by decide))
      · exact b2
    | 14, ho =>
      obtain rfl := Option.some.inj ho
      try dsimp only at hd
      have d11 : a'.tmps.getD 186 undef = .bool false := hd 11 (by rfl)
      have g8 : a'.tmps.getD 8 undef = .pointer (some ⟨xb, 0, none⟩) := hsa.rest 8 (by rfl)
      refine wpOp_on (j := 11) (dj := 186) rfl rfl rfl d11 ?_
      refine op_run (v := .pointer (some ⟨xb, 0, none⟩)) (w' := w') ?_ ⟨_, rfl, slots_put (ns := 214) (hsa.size.trans rfl) (by decide), Below.refl _ _⟩
      simp only [execOp, Act.eval, d11, g8]; first | (go_simp; done) | rfl
    | 15, ho =>
      obtain rfl := Option.some.inj ho
      try dsimp only at hd
      have d11 : a'.tmps.getD 186 undef = .bool false := hd 11 (by rfl)
      have d14 : a'.tmps.getD 189 undef = .pointer (some ⟨xb, 0, none⟩) := hd 14 (by rfl)
      refine wpOp_on (j := 11) (dj := 186) rfl rfl rfl d11 ?_
      refine op_run (v := .pointer (some ⟨xb, 0, none⟩)) (w' := w') ?_ ⟨_, rfl, slots_put (ns := 214) (hsa.size.trans rfl) (by decide), Below.refl _ _⟩
      simp only [execOp, Act.eval, d11, d14]; first | (go_simp; done) | rfl
    | 16, ho =>
      obtain rfl := Option.some.inj ho
      try dsimp only at hd
      have d11 : a'.tmps.getD 186 undef = .bool false := hd 11 (by rfl)
      have d15 : a'.tmps.getD 190 undef = .pointer (some ⟨xb, 0, none⟩) := hd 15 (by rfl)
      refine wpOp_on (j := 11) (dj := 186) rfl rfl rfl d11 ?_
      refine op_run (v := .pointer (some ⟨xb, 1, none⟩)) (w' := w') ?_ ⟨_, rfl, slots_put (ns := 214) (hsa.size.trans rfl) (by decide), Below.refl _ _⟩
      simp only [execOp, Act.eval, d11, d15]; first | (go_simp; done) | rfl
    | 17, ho =>
      obtain rfl := Option.some.inj ho
      try dsimp only at hd
      have d11 : a'.tmps.getD 186 undef = .bool false := hd 11 (by rfl)
      have d16 : a'.tmps.getD 191 undef = .pointer (some ⟨xb, 1, none⟩) := hd 16 (by rfl)
      have y : w'.cell? ⟨xb, 1, none⟩ = some (.int .i64 lo) := (hb.cell (p := ⟨xb, 1, none⟩) (heap_lt hX)).trans (box_cell hX 1 rfl)
      refine wpOp_on (j := 11) (dj := 186) rfl rfl rfl d11 ?_
      refine op_run (v := .int .i64 lo) (w' := w') ?_ ⟨_, rfl, slots_put (ns := 214) (hsa.size.trans rfl) (by decide), Below.refl _ _⟩
      simp only [execOp, Act.eval, d11, d16, y]; first | (go_simp; done) | rfl
    | 18, ho =>
      obtain rfl := Option.some.inj ho
      try dsimp only at hd
      have d11 : a'.tmps.getD 186 undef = .bool false := hd 11 (by rfl)
      have d13 : a'.tmps.getD 188 undef = .int .i64 lo := hd 13 (by rfl)
      have d17 : a'.tmps.getD 192 undef = .int .i64 lo := hd 17 (by rfl)
      refine wpOp_on (j := 11) (dj := 186) rfl rfl rfl d11 ?_
      refine op_run (v := .bool false) (w' := w') ?_ ⟨_, rfl, slots_put (ns := 214) (hsa.size.trans rfl) (by decide), Below.refl _ _⟩
      simp only [execOp, Act.eval, d11, d13, d17]; first | (go_simp; done) | rfl
    | 19, ho =>
      obtain rfl := Option.some.inj ho
      try dsimp only at hd
      have d11 : a'.tmps.getD 186 undef = .bool false := hd 11 (by rfl)
      have d18 : a'.tmps.getD 193 undef = .bool false := hd 18 (by rfl)
      refine wpOp_of rfl rfl ?_
      refine op_run (v := .bool false) (w' := w') ?_ ⟨_, rfl, slots_put (ns := 214) (hsa.size.trans rfl) (by decide), Below.refl _ _⟩
      simp only [execOp, Act.eval, d11, d18]; first | (go_simp; done) | rfl
    | 20, ho =>
      obtain rfl := Option.some.inj ho
      try dsimp only at hd
      have d19 : a'.tmps.getD 194 undef = .bool false := hd 19 (by rfl)
      refine wpOp_of rfl rfl ?_
      refine op_run (v := .bool false) (w' := w') ?_ ⟨_, rfl, slots_put (ns := 214) (hsa.size.trans rfl) (by decide), Below.refl _ _⟩
      simp only [execOp, Act.eval, d19]; first | (go_simp; done) | rfl
    | 21, ho =>
      obtain rfl := Option.some.inj ho
      try dsimp only at hd
      have d20 : a'.tmps.getD 195 undef = .bool false := hd 20 (by rfl)
      have g6 : a'.tmps.getD 6 undef = .pointer (some ⟨tb, 0, none⟩) := hsa.rest 6 (by rfl)
      refine wpOp_on (j := 20) (dj := 195) rfl rfl rfl d20 ?_
      refine op_run (v := .pointer (some ⟨tb, 0, none⟩)) (w' := w') ?_ ⟨_, rfl, slots_put (ns := 214) (hsa.size.trans rfl) (by decide), Below.refl _ _⟩
      simp only [execOp, Act.eval, d20, g6]; first | (go_simp; done) | rfl
    | 22, ho =>
      obtain rfl := Option.some.inj ho
      try dsimp only at hd
      have d20 : a'.tmps.getD 195 undef = .bool false := hd 20 (by rfl)
      have d21 : a'.tmps.getD 196 undef = .pointer (some ⟨tb, 0, none⟩) := hd 21 (by rfl)
      refine wpOp_on (j := 20) (dj := 195) rfl rfl rfl d20 ?_
      refine op_call 24 _ _ rfl (enters_of Tryz.func24 (by kernel_rfl) rfl) [.pointer (some ⟨tb, 0, none⟩)] (by simp only [List.map, Act.eval, d20, d21]) (hE w' hb) ?_
      rintro e w'' ⟨rfl, b2⟩
      refine ⟨_, rfl, _, rfl, ?_, ?_⟩
      · try dsimp only
        exact (slots_put (ns := 214) (hsa.size.trans rfl) (by decide))
      · exact b2
    | 23, ho =>
      obtain rfl := Option.some.inj ho
      try dsimp only at hd
      have d20 : a'.tmps.getD 195 undef = .bool false := hd 20 (by rfl)
      have g8 : a'.tmps.getD 8 undef = .pointer (some ⟨xb, 0, none⟩) := hsa.rest 8 (by rfl)
      refine wpOp_on (j := 20) (dj := 195) rfl rfl rfl d20 ?_
      refine op_run (v := .pointer (some ⟨xb, 0, none⟩)) (w' := w') ?_ ⟨_, rfl, slots_put (ns := 214) (hsa.size.trans rfl) (by decide), Below.refl _ _⟩
      simp only [execOp, Act.eval, d20, g8]; first | (go_simp; done) | rfl
    | 24, ho =>
      obtain rfl := Option.some.inj ho
      try dsimp only at hd
      have d20 : a'.tmps.getD 195 undef = .bool false := hd 20 (by rfl)
      have d23 : a'.tmps.getD 198 undef = .pointer (some ⟨xb, 0, none⟩) := hd 23 (by rfl)
      refine wpOp_on (j := 20) (dj := 195) rfl rfl rfl d20 ?_
      refine op_run (v := .pointer (some ⟨xb, 0, none⟩)) (w' := w') ?_ ⟨_, rfl, slots_put (ns := 214) (hsa.size.trans rfl) (by decide), Below.refl _ _⟩
      simp only [execOp, Act.eval, d20, d23]; first | (go_simp; done) | rfl
    | 25, ho =>
      obtain rfl := Option.some.inj ho
      try dsimp only at hd
      have d20 : a'.tmps.getD 195 undef = .bool false := hd 20 (by rfl)
      have d24 : a'.tmps.getD 199 undef = .pointer (some ⟨xb, 0, none⟩) := hd 24 (by rfl)
      refine wpOp_on (j := 20) (dj := 195) rfl rfl rfl d20 ?_
      refine op_run (v := .pointer (some ⟨xb, 2, none⟩)) (w' := w') ?_ ⟨_, rfl, slots_put (ns := 214) (hsa.size.trans rfl) (by decide), Below.refl _ _⟩
      simp only [execOp, Act.eval, d20, d24]; first | (go_simp; done) | rfl
    | 26, ho =>
      obtain rfl := Option.some.inj ho
      try dsimp only at hd
      have d20 : a'.tmps.getD 195 undef = .bool false := hd 20 (by rfl)
      have d25 : a'.tmps.getD 200 undef = .pointer (some ⟨xb, 2, none⟩) := hd 25 (by rfl)
      have y : w'.cell? ⟨xb, 2, none⟩ = some (.int .i64 fi) := (hb.cell (p := ⟨xb, 2, none⟩) (heap_lt hX)).trans (box_cell hX 2 rfl)
      refine wpOp_on (j := 20) (dj := 195) rfl rfl rfl d20 ?_
      refine op_run (v := .int .i64 fi) (w' := w') ?_ ⟨_, rfl, slots_put (ns := 214) (hsa.size.trans rfl) (by decide), Below.refl _ _⟩
      simp only [execOp, Act.eval, d20, d25, y]; first | (go_simp; done) | rfl
    | 27, ho =>
      obtain rfl := Option.some.inj ho
      try dsimp only at hd
      have d20 : a'.tmps.getD 195 undef = .bool false := hd 20 (by rfl)
      have d22 : a'.tmps.getD 197 undef = .int .i64 fi := hd 22 (by rfl)
      have d26 : a'.tmps.getD 201 undef = .int .i64 fi := hd 26 (by rfl)
      refine wpOp_on (j := 20) (dj := 195) rfl rfl rfl d20 ?_
      refine op_run (v := .bool false) (w' := w') ?_ ⟨_, rfl, slots_put (ns := 214) (hsa.size.trans rfl) (by decide), Below.refl _ _⟩
      simp only [execOp, Act.eval, d20, d22, d26]; first | (go_simp; done) | rfl
    | 28, ho =>
      obtain rfl := Option.some.inj ho
      try dsimp only at hd
      have d20 : a'.tmps.getD 195 undef = .bool false := hd 20 (by rfl)
      have d27 : a'.tmps.getD 202 undef = .bool false := hd 27 (by rfl)
      refine wpOp_of rfl rfl ?_
      refine op_run (v := .bool false) (w' := w') ?_ ⟨_, rfl, slots_put (ns := 214) (hsa.size.trans rfl) (by decide), Below.refl _ _⟩
      simp only [execOp, Act.eval, d20, d27]; first | (go_simp; done) | rfl
    | (n + 29), ho => exact absurd ho (by simp)
  case pdone =>
    intro a' w' hsa hb hd
    have d28 : a'.tmps.getD 203 undef = .bool false := hd 28 (by decide)
    exact HQ.out a' w' ⟨hsa.size.trans rfl, hsa.defers.trans rfl, hsa.rest 0 (by rfl), hsa.rest 1 (by rfl), hsa.rest 4 (by rfl), hsa.rest 5 (by rfl), hsa.rest 6 (by rfl), hsa.rest 7 (by rfl), hsa.rest 8 (by rfl), hsa.rest 9 (by rfl), hsa.rest 10 (by rfl), hsa.rest 11 (by rfl), hsa.rest 12 (by rfl), hsa.rest 13 (by rfl), hsa.rest 14 (by rfl), hsa.rest 15 (by rfl), hsa.rest 16 (by rfl), hsa.rest 17 (by rfl), hsa.rest 18 (by rfl), hsa.rest 19 (by rfl), hsa.rest 20 (by rfl), hsa.rest 21 (by rfl), hsa.rest 22 (by rfl), hsa.rest 64 (by rfl)⟩ d28 hb
theorem pl_r37 {K : Act → World → Prop} {c : Code} (hc : regOf (Tryz.f3.body.getD .skip) 37 = some c) (a : Act) {v : Vpl} {wq : World} {tb n : Nat} {R : Option Addr → Nat → World → Prop} (hF : Fpl a v) (h6v : v.v6 = .pointer (some ⟨tb, 0, none⟩)) (hE : Calls Tryz.prog 12 #[.pointer (some ⟨tb, 0, none⟩), .int .i64 0, .int .i64 1000] wq fun e w' => ∃ ao cp, e = .returned (.slice ao n cp) ∧ R ao cp w')
    (hQ : ∀ a' w' ao cp, Fpl a' { v with v21 := .slice ao n cp } → R ao cp w' → K a' w') :
    Code.wp Tryz.prog c (Exit.then K fun _ _ _ => False) a wq := by
  have HQ := hide hQ
  clear hQ
  obtain ⟨v0, v1, v4, v5, v6, v7, v8, v9, v10, v11, v12, v13, v14, v15, v16, v17, v18, v19, v20, v21, v22, v64⟩ := v
  simp only at h6v HQ
  subst h6v
  obtain ⟨u, rfl⟩ := frx_pl hF
  clear hF
  simp only [Tryz.f3, Option.getD_some, regOf] at hc
  injection hc with hc
  subst hc
  have HE := hide hE
  clear hE
  go_wp2_with (go_at_call 12; refine HE.out.mono ?_; rintro e w1 ⟨ao, cp, rfl, r1⟩; have R1 := hide r1; clear r1)
  exact HQ.out _ _ _ _ ⟨rfl, rfl, rfl, rfl, rfl, rfl, rfl, rfl, rfl, rfl, rfl, rfl, rfl, rfl, rfl, rfl, rfl, rfl, rfl, rfl, rfl, rfl, rfl, rfl⟩ R1.out
theorem pl_r39 {K : Act → World → Prop} {c : Code} (hc : regOf (Tryz.f3.body.getD .skip) 39 = some c) (a : Act) {v : Vpl} {wq : World}  (hF : Fpl a v) (h5v : v.v5 = .bool true) (h22v : v.v22 = .bool true) (hQ : ∀ a', Fpl a' { v with v4 := .bool true } → K a' wq) :
    Code.wp Tryz.prog c (Exit.then K fun _ _ _ => False) a wq := by
  have HQ := hide hQ
  clear hQ
  obtain ⟨v0, v1, v4, v5, v6, v7, v8, v9, v10, v11, v12, v13, v14, v15, v16, v17, v18, v19, v20, v21, v22, v64⟩ := v
  simp only at h5v h22v HQ
  subst h5v h22v
  obtain ⟨u, rfl⟩ := frx_pl hF
  clear hF
  simp only [Tryz.f3, Option.getD_some, regOf] at hc
  injection hc with hc
  subst hc
  go_wp2
  exact HQ.out _ ⟨rfl, rfl, rfl, rfl, rfl, rfl, rfl, rfl, rfl, rfl, rfl, rfl, rfl, rfl, rfl, rfl, rfl, rfl, rfl, rfl, rfl, rfl, rfl, rfl⟩
theorem pl_ret {W : World} {a : Act} {v : Vpl} {x : Value} {R : Ending → World → Prop} (hF : Fpl a v) (h2 : v.v4 = x) (h : R (.returned x) W) : bodyPost Tryz.prog Tryz.f3 R .ret a W := by
  have g0 := slot_get (hF.s4.trans h2)
  refine bodyPost_ret (v := x) ?_ hF.defers h
  simp [results, Tryz.results3, go_sem, g0]
end Go.Proofs.YtmkkcgkakomacaaGreat.Y
