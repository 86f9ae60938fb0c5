/-
  carillonref15's of: its regions (mkvf.py).
-/
import Derived.Test.YtfoomgdlbkjaeaaGreatZXC
import Derived.Test.YtfoomgdlbkjaeaaGreatZUS
import Derived.Test.YtfoomgdlbkjaeaaGreatZYCl
import Derived.Laws.Cover1
import Derived.Deep.QuietTactic
import Derived.BigQuiet
import Derived.Laws.StructEq
namespace Go.Proofs.YtfoomgdlbkjaeaaGreat.Y
open Go.RowKit Go.Maps
set_option maxHeartbeats 8000000
set_option maxRecDepth 100000
attribute [local go_sem ↓] Go.wp_at_zero Go.wp_at_succ
set_option linter.unusedSimpArgs false
set_option linter.unusedVariables false
theorem frame_xo (t : Array Value) (h : t.size = 253) : ∃ u : Nat → Value, t = List.toArray (u 0 :: u 1 :: u 2 :: u 3 :: u 4 :: u 5 :: u 6 :: u 7 :: u 8 :: u 9 :: u 10 :: u 11 :: u 12 :: u 13 :: u 14 :: u 15 :: u 16 :: u 17 :: u 18 :: u 19 :: u 20 :: u 21 :: u 22 :: u 23 :: u 24 :: u 25 :: u 26 :: u 27 :: u 28 :: u 29 :: u 30 :: u 31 :: u 32 :: u 33 :: u 34 :: u 35 :: u 36 :: u 37 :: u 38 :: u 39 :: u 40 :: u 41 :: u 42 :: u 43 :: u 44 :: u 45 :: u 46 :: u 47 :: u 48 :: u 49 :: u 50 :: u 51 :: u 52 :: u 53 :: u 54 :: u 55 :: u 56 :: u 57 :: u 58 :: u 59 :: u 60 :: u 61 :: u 62 :: u 63 :: u 64 :: u 65 :: u 66 :: u 67 :: u 68 :: u 69 :: u 70 :: u 71 :: u 72 :: u 73 :: u 74 :: u 75 :: u 76 :: u 77 :: u 78 :: u 79 :: u 80 :: u 81 :: u 82 :: u 83 :: u 84 :: u 85 :: u 86 :: u 87 :: u 88 :: u 89 :: u 90 :: u 91 :: u 92 :: u 93 :: u 94 :: u 95 :: u 96 :: u 97 :: u 98 :: u 99 :: u 100 :: u 101 :: u 102 :: u 103 :: u 104 :: u 105 :: u 106 :: u 107 :: u 108 :: u 109 :: u 110 :: u 111 :: u 112 :: u 113 :: u 114 :: u 115 :: u 116 :: u 117 :: u 118 :: u 119 :: u 120 :: u 121 :: u 122 :: u 123 :: u 124 :: u 125 :: u 126 :: u 127 :: u 128 :: u 129 :: u 130 :: u 131 :: u 132 :: u 133 :: u 134 :: u 135 :: u 136 :: u 137 :: u 138 :: u 139 :: u 140 :: u 141 :: u 142 :: u 143 :: u 144 :: u 145 :: u 146 :: u 147 :: u 148 :: u 149 :: u 150 :: u 151 :: u 152 :: u 153 :: u 154 :: u 155 :: u 156 :: u 157 :: u 158 :: u 159 :: u 160 :: u 161 :: u 162 :: u 163 :: u 164 :: u 165 :: u 166 :: u 167 :: u 168 :: u 169 :: u 170 :: u 171 :: u 172 :: u 173 :: u 174 :: u 175 :: u 176 :: u 177 :: u 178 :: u 179 :: u 180 :: u 181 :: u 182 :: u 183 :: u 184 :: u 185 :: u 186 :: u 187 :: u 188 :: u 189 :: u 190 :: u 191 :: u 192 :: u 193 :: u 194 :: u 195 :: u 196 :: u 197 :: u 198 :: u 199 :: u 200 :: u 201 :: u 202 :: u 203 :: u 204 :: u 205 :: u 206 :: u 207 :: u 208 :: u 209 :: u 210 :: u 211 :: u 212 :: u 213 :: u 214 :: u 215 :: u 216 :: u 217 :: u 218 :: u 219 :: u 220 :: u 221 :: u 222 :: u 223 :: u 224 :: u 225 :: u 226 :: u 227 :: u 228 :: u 229 :: u 230 :: u 231 :: u 232 :: u 233 :: u 234 :: u 235 :: u 236 :: u 237 :: u 238 :: u 239 :: u 240 :: u 241 :: u 242 :: u 243 :: u 244 :: u 245 :: u 246 :: u 247 :: u 248 :: u 249 :: u 250 :: u 251 :: u 252 :: []) := by
  refine ⟨fun i => t.getD i undef, ?_⟩
  refine Eq.trans (b := ((List.range 253).map fun i => t.getD i undef).toArray) ?_ rfl
  apply Array.ext
  · simp [h]
  · intro k h1 h2
    simp [Array.getD, h1]
structure Vxo where
  v0 : Value
  v1 : Value
  v4 : Value
  v5 : Value
  v6 : Value
  v7 : Value
  v8 : Value
  v9 : Value
  v10 : Value
  v11 : Value
  v12 : Value
structure Fxo (a : Act) (v : Vxo) : Prop where
  size : a.tmps.size = 253
  defers : a.defers = []
  s0 : a.tmps.getD 0 undef = v.v0
  s1 : a.tmps.getD 1 undef = v.v1
  s4 : a.tmps.getD 4 undef = v.v4
  s5 : a.tmps.getD 5 undef = v.v5
  s6 : a.tmps.getD 6 undef = v.v6
  s7 : a.tmps.getD 7 undef = v.v7
  s8 : a.tmps.getD 8 undef = v.v8
  s9 : a.tmps.getD 9 undef = v.v9
  s10 : a.tmps.getD 10 undef = v.v10
  s11 : a.tmps.getD 11 undef = v.v11
  s12 : a.tmps.getD 12 undef = v.v12
theorem frx_xo {a : Act} {v0 v1 v4 v5 v6 v7 v8 v9 v10 v11 v12 : Value} (h : Fxo a ⟨v0, v1, v4, v5, v6, v7, v8, v9, v10, v11, v12⟩) : ∃ u : Nat → Value, a = ⟨List.toArray (v0 :: v1 :: u 2 :: u 3 :: v4 :: v5 :: v6 :: v7 :: v8 :: v9 :: v10 :: v11 :: v12 :: u 13 :: u 14 :: u 15 :: u 16 :: u 17 :: u 18 :: u 19 :: u 20 :: u 21 :: u 22 :: u 23 :: u 24 :: u 25 :: u 26 :: u 27 :: u 28 :: u 29 :: u 30 :: u 31 :: u 32 :: u 33 :: u 34 :: u 35 :: u 36 :: u 37 :: u 38 :: u 39 :: u 40 :: u 41 :: u 42 :: u 43 :: u 44 :: u 45 :: u 46 :: u 47 :: u 48 :: u 49 :: u 50 :: u 51 :: u 52 :: u 53 :: u 54 :: u 55 :: u 56 :: u 57 :: u 58 :: u 59 :: u 60 :: u 61 :: u 62 :: u 63 :: u 64 :: u 65 :: u 66 :: u 67 :: u 68 :: u 69 :: u 70 :: u 71 :: u 72 :: u 73 :: u 74 :: u 75 :: u 76 :: u 77 :: u 78 :: u 79 :: u 80 :: u 81 :: u 82 :: u 83 :: u 84 :: u 85 :: u 86 :: u 87 :: u 88 :: u 89 :: u 90 :: u 91 :: u 92 :: u 93 :: u 94 :: u 95 :: u 96 :: u 97 :: u 98 :: u 99 :: u 100 :: u 101 :: u 102 :: u 103 :: u 104 :: u 105 :: u 106 :: u 107 :: u 108 :: u 109 :: u 110 :: u 111 :: u 112 :: u 113 :: u 114 :: u 115 :: u 116 :: u 117 :: u 118 :: u 119 :: u 120 :: u 121 :: u 122 :: u 123 :: u 124 :: u 125 :: u 126 :: u 127 :: u 128 :: u 129 :: u 130 :: u 131 :: u 132 :: u 133 :: u 134 :: u 135 :: u 136 :: u 137 :: u 138 :: u 139 :: u 140 :: u 141 :: u 142 :: u 143 :: u 144 :: u 145 :: u 146 :: u 147 :: u 148 :: u 149 :: u 150 :: u 151 :: u 152 :: u 153 :: u 154 :: u 155 :: u 156 :: u 157 :: u 158 :: u 159 :: u 160 :: u 161 :: u 162 :: u 163 :: u 164 :: u 165 :: u 166 :: u 167 :: u 168 :: u 169 :: u 170 :: u 171 :: u 172 :: u 173 :: u 174 :: u 175 :: u 176 :: u 177 :: u 178 :: u 179 :: u 180 :: u 181 :: u 182 :: u 183 :: u 184 :: u 185 :: u 186 :: u 187 :: u 188 :: u 189 :: u 190 :: u 191 :: u 192 :: u 193 :: u 194 :: u 195 :: u 196 :: u 197 :: u 198 :: u 199 :: u 200 :: u 201 :: u 202 :: u 203 :: u 204 :: u 205 :: u 206 :: u 207 :: u 208 :: u 209 :: u 210 :: u 211 :: u 212 :: u 213 :: u 214 :: u 215 :: u 216 :: u 217 :: u 218 :: u 219 :: u 220 :: u 221 :: u 222 :: u 223 :: u 224 :: u 225 :: u 226 :: u 227 :: u 228 :: u 229 :: u 230 :: u 231 :: u 232 :: u 233 :: u 234 :: u 235 :: u 236 :: u 237 :: u 238 :: u 239 :: u 240 :: u 241 :: u 242 :: u 243 :: u 244 :: u 245 :: u 246 :: u 247 :: u 248 :: u 249 :: u 250 :: u 251 :: u 252 :: []), []⟩ := by
  obtain ⟨t', d'⟩ := a
  obtain ⟨hs, hd, q0, q1, q4, q5, q6, q7, q8, q9, q10, q11, q12⟩ := h
  obtain ⟨u, hu⟩ := frame_xo t' hs
  simp only at hd q0 q1 q4 q5 q6 q7 q8 q9 q10 q11 q12
  subst hu hd
  have e0 : u 0 = v0 := q0
  have e1 : u 1 = v1 := q1
  have e4 : u 4 = v4 := q4
  have e5 : u 5 = v5 := q5
  have e6 : u 6 = v6 := q6
  have e7 : u 7 = v7 := q7
  have e8 : u 8 = v8 := q8
  have e9 : u 9 = v9 := q9
  have e10 : u 10 = v10 := q10
  have e11 : u 11 = v11 := q11
  have e12 : u 12 = v12 := q12
  refine ⟨u, ?_⟩
  rw [e0, e1, e4, e5, e6, e7, e8, e9, e10, e11, e12]
theorem xo_r0 {K : Act → World → Prop} {c : Code} (hc : regOf (Tryz.f53.body.getD .skip) 0 = some c) (a : Act) {v : Vxo} {wq : World}  (hF : Fxo a v) (hQ : ∀ a', Fxo a' { v with v4 := .pointer none, v5 := .bool false } → K a' wq) :
    Code.wp Tryz.prog c (Exit.then K fun _ _ _ => False) a wq := by
  have HQ := hide hQ
  clear hQ
  obtain ⟨v0, v1, v4, v5, v6, v7, v8, v9, v10, v11, v12⟩ := v
  obtain ⟨u, rfl⟩ := frx_xo hF
  clear hF
  simp only [Tryz.f53, Option.getD_some, regOf] at hc
  injection hc with hc
  subst hc
  go_wp2
  exact HQ.out _ ⟨rfl, rfl, rfl, rfl, rfl, rfl, rfl, rfl, rfl, rfl, rfl, rfl, rfl⟩
theorem xo_r3 {K : Act → World → Prop} {c : Code} (hc : regOf (Tryz.f53.body.getD .skip) 3 = some c) (a : Act) {v : Vxo} {wq : World}  (hF : Fxo a v) (hQ : ∀ a', Fxo a' { v with v4 := .pointer none, v5 := .bool false } → K a' wq) :
    Code.wp Tryz.prog c (Exit.then K fun _ _ _ => False) a wq := by
  have HQ := hide hQ
  clear hQ
  obtain ⟨v0, v1, v4, v5, v6, v7, v8, v9, v10, v11, v12⟩ := v
  obtain ⟨u, rfl⟩ := frx_xo hF
  clear hF
  simp only [Tryz.f53, Option.getD_some, regOf] at hc
  injection hc with hc
  subst hc
  go_wp2
  exact HQ.out _ ⟨rfl, rfl, rfl, rfl, rfl, rfl, rfl, rfl, rfl, rfl, rfl, rfl, rfl⟩
theorem xo_r11 {K : Act → World → Prop} {c : Code} (hc : regOf (Tryz.f53.body.getD .skip) 11 = some c) (a : Act) {v : Vxo} {wq : World}  (hF : Fxo a v) (hQ : ∀ a', Fxo a' { v with v4 := .pointer none, v5 := .bool false } → K a' wq) :
    Code.wp Tryz.prog c (Exit.then K fun _ _ _ => False) a wq := by
  have HQ := hide hQ
  clear hQ
  obtain ⟨v0, v1, v4, v5, v6, v7, v8, v9, v10, v11, v12⟩ := v
  obtain ⟨u, rfl⟩ := frx_xo hF
  clear hF
  simp only [Tryz.f53, Option.getD_some, regOf] at hc
  injection hc with hc
  subst hc
  go_wp2
  exact HQ.out _ ⟨rfl, rfl, rfl, rfl, rfl, rfl, rfl, rfl, rfl, rfl, rfl, rfl, rfl⟩
theorem xo_r16 {K : Act → World → Prop} {c : Code} (hc : regOf (Tryz.f53.body.getD .skip) 16 = some c) (a : Act) {v : Vxo} {wq : World}  (hF : Fxo a v) (hQ : ∀ a', Fxo a' { v with v4 := .pointer none, v5 := .bool false } → K a' wq) :
    Code.wp Tryz.prog c (Exit.then K fun _ _ _ => False) a wq := by
  have HQ := hide hQ
  clear hQ
  obtain ⟨v0, v1, v4, v5, v6, v7, v8, v9, v10, v11, v12⟩ := v
  obtain ⟨u, rfl⟩ := frx_xo hF
  clear hF
  simp only [Tryz.f53, Option.getD_some, regOf] at hc
  injection hc with hc
  subst hc
  go_wp2
  exact HQ.out _ ⟨rfl, rfl, rfl, rfl, rfl, rfl, rfl, rfl, rfl, rfl, rfl, rfl, rfl⟩
theorem xo_r20 {K : Act → World → Prop} {c : Code} (hc : regOf (Tryz.f53.body.getD .skip) 20 = some c) (a : Act) {v : Vxo} {wq : World}  (hF : Fxo a v) (hQ : ∀ a', Fxo a' { v with v4 := .pointer none, v5 := .bool false } → K a' wq) :
    Code.wp Tryz.prog c (Exit.then K fun _ _ _ => False) a wq := by
  have HQ := hide hQ
  clear hQ
  obtain ⟨v0, v1, v4, v5, v6, v7, v8, v9, v10, v11, v12⟩ := v
  obtain ⟨u, rfl⟩ := frx_xo hF
  clear hF
  simp only [Tryz.f53, Option.getD_some, regOf] at hc
  injection hc with hc
  subst hc
  go_wp2
  exact HQ.out _ ⟨rfl, rfl, rfl, rfl, rfl, rfl, rfl, rfl, rfl, rfl, rfl, rfl, rfl⟩
theorem xo_r5 {K : Act → World → Prop} {c : Code} (hc : regOf (Tryz.f53.body.getD .skip) 5 = some c) (a : Act) {v : Vxo} {wq : World}  (hF : Fxo a v) (hQ : ∀ a', Fxo a' { v with v8 := .int .i64 ((4 : Nat) : Int) } → K a' wq) :
    Code.wp Tryz.prog c (Exit.then K fun _ _ _ => False) a wq := by
  have HQ := hide hQ
  clear hQ
  obtain ⟨v0, v1, v4, v5, v6, v7, v8, v9, v10, v11, v12⟩ := v
  obtain ⟨u, rfl⟩ := frx_xo hF
  clear hF
  simp only [Tryz.f53, Option.getD_some, regOf] at hc
  injection hc with hc
  subst hc
  go_wp2
  exact HQ.out _ ⟨rfl, rfl, rfl, rfl, rfl, rfl, rfl, rfl, rfl, rfl, rfl, rfl, rfl⟩
theorem xo_r6 {K : Act → World → Prop} {c : Code} (hc : regOf (Tryz.f53.body.getD .skip) 6 = some c) (a : Act) {v : Vxo} {wq : World}  (hF : Fxo a v) (hQ : ∀ a', Fxo a' { v with v9 := .int .i64 ((0 : Nat) : Int) } → K a' wq) :
    Code.wp Tryz.prog c (Exit.then K fun _ _ _ => False) a wq := by
  have HQ := hide hQ
  clear hQ
  obtain ⟨v0, v1, v4, v5, v6, v7, v8, v9, v10, v11, v12⟩ := v
  obtain ⟨u, rfl⟩ := frx_xo hF
  clear hF
  simp only [Tryz.f53, Option.getD_some, regOf] at hc
  injection hc with hc
  subst hc
  go_wp2
  exact HQ.out _ ⟨rfl, rfl, rfl, rfl, rfl, rfl, rfl, rfl, rfl, rfl, rfl, rfl, rfl⟩
theorem xo_r1 {K : Act → World → Prop} {c : Code} (hc : regOf (Tryz.f53.body.getD .skip) 1 = some c) (a : Act) {v : Vxo} {wq : World} {g n cp : Nat} {nm : ByteArray} {b : Bool} {R : World → Prop} (hF : Fxo a v) (h0v : v.v0 = .slice (some ⟨g, 0, none⟩) n cp) (hn : 1 ≤ n) (y2 : wq.cell? ⟨g, 2, none⟩ = some (.string nm)) (hE : Calls Tryz.prog 28 #[.string nm] wq fun e w' => e = .returned (.bool b) ∧ R w')
    (hQ : ∀ a' w1, Fxo a' { v with v6 := .bool b } → R w1 → K a' w1) :
    Code.wp Tryz.prog c (Exit.then K fun _ _ _ => False) a wq := by
  have HQ := hide hQ
  clear hQ
  obtain ⟨v0, v1, v4, v5, v6, v7, v8, v9, v10, v11, v12⟩ := v
  simp only at h0v HQ
  subst h0v
  obtain ⟨u, rfl⟩ := frx_xo hF
  clear hF
  simp only [Tryz.f53, Option.getD_some, regOf] at hc
  injection hc with hc
  subst hc
  have i0 : (0 : Int) < (n : Int) := by omega
  have HE := hide hE
  clear hE
  go_wp2_with (go_at_call 28; refine HE.out.mono ?_; rintro e w1 ⟨rfl, r1⟩; have R1 := hide r1; clear r1)
  exact HQ.out _ _ ⟨rfl, rfl, rfl, rfl, rfl, rfl, rfl, rfl, rfl, rfl, rfl, rfl, rfl⟩ R1.out
theorem xo_r2a {K : Act → World → Prop} {c : Code} (hc : regOf (Tryz.f53.body.getD .skip) 2 = some c) (a : Act) {v : Vxo} {wq : World} {g n cp : Nat} (hF : Fxo a v) (h0v : v.v0 = .slice (some ⟨g, 0, none⟩) n cp) (h6v : v.v6 = .bool false) 
    (hQ : ∀ a' m, Fxo a' v → a'.tmps.getD 37 undef = .bool true → K a' (wq.drewN m)) :
    Code.wp Tryz.prog c (Exit.then K fun _ _ _ => False) a wq := by
  have HQ := hide hQ
  clear hQ
  obtain ⟨v0, v1, v4, v5, v6, v7, v8, v9, v10, v11, v12⟩ := v
  simp only at h0v h6v HQ
  subst h0v h6v
  obtain ⟨u, rfl⟩ := frx_xo hF
  clear hF
  simp only [Tryz.f53, Option.getD_some, regOf] at hc
  injection hc with hc
  subst hc
  go_quiet (fail)
  go_wp2
  exact HQ.out _ _ ⟨rfl, rfl, rfl, rfl, rfl, rfl, rfl, rfl, rfl, rfl, rfl, rfl, rfl⟩ (by first | rfl | (simp; done))
theorem xo_r2b {K : Act → World → Prop} {c : Code} (hc : regOf (Tryz.f53.body.getD .skip) 2 = some c) (a : Act) {v : Vxo} {wq : World} {g n cp : Nat} {lo fi : Int} (hF : Fxo a v) (h0v : v.v0 = .slice (some ⟨g, 0, none⟩) n cp) (h6v : v.v6 = .bool true) (hn : 3 ≤ n) (y4 : wq.cell? ⟨g, 4, none⟩ = some (.int .u64 lo)) (y7 : wq.cell? ⟨g, 7, none⟩ = some (.int .u64 fi)) (h : lo > fi) 
    (hQ : ∀ a' m, Fxo a' v → a'.tmps.getD 37 undef = .bool true → K a' (wq.drewN m)) :
    Code.wp Tryz.prog c (Exit.then K fun _ _ _ => False) a wq := by
  have HQ := hide hQ
  clear hQ
  obtain ⟨v0, v1, v4, v5, v6, v7, v8, v9, v10, v11, v12⟩ := v
  simp only at h0v h6v HQ
  subst h0v h6v
  obtain ⟨u, rfl⟩ := frx_xo hF
  clear hF
  simp only [Tryz.f53, Option.getD_some, regOf] at hc
  injection hc with hc
  subst hc
  have j1 : (1 : Int) < (n : Int) := by omega
  have j2 : (2 : Int) < (n : Int) := by omega
  have d1 : decide (fi < lo) = true := decide_eq_true h
  go_quiet (fail)
  go_wp2
  exact HQ.out _ _ ⟨rfl, rfl, rfl, rfl, rfl, rfl, rfl, rfl, rfl, rfl, rfl, rfl, rfl⟩ (by first | rfl | (simp; done))
theorem xo_r2c {K : Act → World → Prop} {c : Code} (hc : regOf (Tryz.f53.body.getD .skip) 2 = some c) (a : Act) {v : Vxo} {wq : World} {g n cp : Nat} {lo fi : Int} (hF : Fxo a v) (h0v : v.v0 = .slice (some ⟨g, 0, none⟩) n cp) (h6v : v.v6 = .bool true) (hn : 3 ≤ n) (y4 : wq.cell? ⟨g, 4, none⟩ = some (.int .u64 lo)) (y7 : wq.cell? ⟨g, 7, none⟩ = some (.int .u64 fi)) (h : ¬ lo > fi) (h2 : fi > 9007199254740991) 
    (hQ : ∀ a' m, Fxo a' v → a'.tmps.getD 37 undef = .bool true → K a' (wq.drewN m)) :
    Code.wp Tryz.prog c (Exit.then K fun _ _ _ => False) a wq := by
  have HQ := hide hQ
  clear hQ
  obtain ⟨v0, v1, v4, v5, v6, v7, v8, v9, v10, v11, v12⟩ := v
  simp only at h0v h6v HQ
  subst h0v h6v
  obtain ⟨u, rfl⟩ := frx_xo hF
  clear hF
  simp only [Tryz.f53, Option.getD_some, regOf] at hc
  injection hc with hc
  subst hc
  have j1 : (1 : Int) < (n : Int) := by omega
  have j2 : (2 : Int) < (n : Int) := by omega
  have d1 : decide (fi < lo) = false := decide_eq_false h
  have d2 : decide ((9007199254740991 : Int) < fi) = true := decide_eq_true h2
  go_quiet (fail)
  go_wp2
  exact HQ.out _ _ ⟨rfl, rfl, rfl, rfl, rfl, rfl, rfl, rfl, rfl, rfl, rfl, rfl, rfl⟩ (by first | rfl | (simp; done))
theorem xo_r2d {K : Act → World → Prop} {c : Code} (hc : regOf (Tryz.f53.body.getD .skip) 2 = some c) (a : Act) {v : Vxo} {wq : World} {g n cp : Nat} {lo fi : Int} (hF : Fxo a v) (h0v : v.v0 = .slice (some ⟨g, 0, none⟩) n cp) (h6v : v.v6 = .bool true) (hn : 3 ≤ n) (y4 : wq.cell? ⟨g, 4, none⟩ = some (.int .u64 lo)) (y7 : wq.cell? ⟨g, 7, none⟩ = some (.int .u64 fi)) (h : ¬ lo > fi) (h2 : ¬ fi > 9007199254740991) 
    (hQ : ∀ a' m, Fxo a' v → a'.tmps.getD 37 undef = .bool false → K a' (wq.drewN m)) :
    Code.wp Tryz.prog c (Exit.then K fun _ _ _ => False) a wq := by
  have HQ := hide hQ
  clear hQ
  obtain ⟨v0, v1, v4, v5, v6, v7, v8, v9, v10, v11, v12⟩ := v
  simp only at h0v h6v HQ
  subst h0v h6v
  obtain ⟨u, rfl⟩ := frx_xo hF
  clear hF
  simp only [Tryz.f53, Option.getD_some, regOf] at hc
  injection hc with hc
  subst hc
  have j1 : (1 : Int) < (n : Int) := by omega
  have j2 : (2 : Int) < (n : Int) := by omega
  have d1 : decide (fi < lo) = false := decide_eq_false h
  have d2 : decide ((9007199254740991 : Int) < fi) = false := decide_eq_false h2
  go_quiet (fail)
  go_wp2
  exact HQ.out _ _ ⟨rfl, rfl, rfl, rfl, rfl, rfl, rfl, rfl, rfl, rfl, rfl, rfl, rfl⟩ (by first | rfl | (simp; done))
theorem xo_r4 {K : Act → World → Prop} {c : Code} (hc : regOf (Tryz.f53.body.getD .skip) 4 = some c) (a : Act) {v : Vxo} {wq : World} {g n cp : Nat} {lo fi : Int} {nm : ByteArray} (hF : Fxo a v) (h0v : v.v0 = .slice (some ⟨g, 0, none⟩) n cp) (hn : 3 ≤ n) (y2 : wq.cell? ⟨g, 2, none⟩ = some (.string nm)) (y4 : wq.cell? ⟨g, 4, none⟩ = some (.int .u64 lo)) (y7 : wq.cell? ⟨g, 7, none⟩ = some (.int .u64 fi)) (h0 : 0 ≤ lo) (h1 : lo ≤ fi) (h2 : fi ≤ 9007199254740991)
    (hQ : ∀ a' w1, Fxo a' { v with v7 := .pointer (some ⟨wq.heap.size, 0, none⟩) } → w1.heap[wq.heap.size]? = some (.cells #[.string nm, .int .i64 lo, .int .i64 fi, .slice none 0 0, .slice none 0 0] 44 (0, 0)) → Below wq.heap.size wq w1 → K a' w1) :
    Code.wp Tryz.prog c (Exit.then K fun _ _ _ => False) a wq := by
  have HQ := hide hQ
  clear hQ
  obtain ⟨v0, v1, v4, v5, v6, v7, v8, v9, v10, v11, v12⟩ := v
  simp only at h0v HQ
  subst h0v
  obtain ⟨u, rfl⟩ := frx_xo hF
  clear hF
  simp only [Tryz.f53, Option.getD_some, regOf] at hc
  injection hc with hc
  subst hc
  have j0 : (0 : Int) < (n : Int) := by omega
  have j1 : (1 : Int) < (n : Int) := by omega
  have j2 : (2 : Int) < (n : Int) := by omega
  have w1 : IntKind.i64.wrap lo = lo := by rw [IntKind.wrap_i64]; omega
  have x1 : wrap64 lo = lo := by unfold wrap64; omega
  have w2 : IntKind.i64.wrap fi = fi := by rw [IntKind.wrap_i64]; omega
  have x2 : wrap64 fi = fi := by unfold wrap64; omega
  clear h0 h1 h2 hn
  go_region
  refine HQ.out _ _ ⟨rfl, rfl, rfl, rfl, rfl, rfl, rfl, rfl, rfl, rfl, rfl, rfl, rfl⟩ ?_ ?_
  · exact heap_alloc_new _ _
  · exact ((Below.refl _ _).alloc (Nat.le_refl _) _).drew
theorem xo_r7n {K : Act → World → Prop} {c : Code} (hc : regOf (Tryz.f53.body.getD .skip) 7 = some c) (a : Act) {v : Vxo} {wq : World} {i np : Nat} (hF : Fxo a v) (h9v : v.v9 = .int .i64 (i : Int)) (h1v : v.v1 = .int .i64 (np : Int)) (hk : ¬ (i : Int) < (np : Int)) (hQ : ∀ a', Fxo a' v → a'.tmps.getD 56 undef = .bool false → K a' wq) :
    Code.wp Tryz.prog c (Exit.then K fun _ _ _ => False) a wq := by
  have HQ := hide hQ
  clear hQ
  obtain ⟨v0, v1, v4, v5, v6, v7, v8, v9, v10, v11, v12⟩ := v
  simp only at h9v h1v HQ
  subst h9v h1v
  obtain ⟨u, rfl⟩ := frx_xo hF
  clear hF
  simp only [Tryz.f53, Option.getD_some, regOf] at hc
  injection hc with hc
  subst hc
  have hd : decide ((i : Int) < (np : Int)) = false := decide_eq_false hk
  go_wp2
  exact HQ.out _ ⟨rfl, rfl, rfl, rfl, rfl, rfl, rfl, rfl, rfl, rfl, rfl, rfl, rfl⟩ (by first | rfl | (simp; done))
theorem xo_r7y {K : Act → World → Prop} {c : Code} (hc : regOf (Tryz.f53.body.getD .skip) 7 = some c) (a : Act) {v : Vxo} {wq : World} {i np : Nat} (hF : Fxo a v) (h9v : v.v9 = .int .i64 (i : Int)) (h1v : v.v1 = .int .i64 (np : Int)) (hk : (i : Int) < (np : Int)) (hQ : ∀ a', Fxo a' v → a'.tmps.getD 56 undef = .bool true → K a' wq) :
    Code.wp Tryz.prog c (Exit.then K fun _ _ _ => False) a wq := by
  have HQ := hide hQ
  clear hQ
  obtain ⟨v0, v1, v4, v5, v6, v7, v8, v9, v10, v11, v12⟩ := v
  simp only at h9v h1v HQ
  subst h9v h1v
  obtain ⟨u, rfl⟩ := frx_xo hF
  clear hF
  simp only [Tryz.f53, Option.getD_some, regOf] at hc
  injection hc with hc
  subst hc
  have hd : decide ((i : Int) < (np : Int)) = true := decide_eq_true hk
  go_wp2
  exact HQ.out _ ⟨rfl, rfl, rfl, rfl, rfl, rfl, rfl, rfl, rfl, rfl, rfl, rfl, rfl⟩ (by first | rfl | (simp; done))
theorem xo_r9 {K : Act → World → Prop} {c : Code} (hc : regOf (Tryz.f53.body.getD .skip) 9 = some c) (a : Act) {v : Vxo} {wq : World} {g n cp at9 : Nat} {nm : ByteArray} {b : Bool} {R : World → Prop} (hF : Fxo a v) (h0v : v.v0 = .slice (some ⟨g, 0, none⟩) n cp) (h8v : v.v8 = .int .i64 (at9 : Int)) (hk : at9 < n) (y : wq.cell? ⟨g, at9 * 3 + 2, none⟩ = some (.string nm)) (hE : Calls Tryz.prog 28 #[.string nm] wq fun e w' => e = .returned (.bool b) ∧ R w')
    (hQ : ∀ a' w1, Fxo a' { v with v10 := .bool b } → R w1 → K a' w1) :
    Code.wp Tryz.prog c (Exit.then K fun _ _ _ => False) a wq := by
  have HQ := hide hQ
  clear hQ
  obtain ⟨v0, v1, v4, v5, v6, v7, v8, v9, v10, v11, v12⟩ := v
  simp only at h0v h8v HQ
  subst h0v h8v
  obtain ⟨u, rfl⟩ := frx_xo hF
  clear hF
  simp only [Tryz.f53, Option.getD_some, regOf] at hc
  injection hc with hc
  subst hc
  have i0 : (0 : Int) ≤ (at9 : Int) := by omega
  have j0 : (at9 : Int) < (n : Int) := by omega
  have HE := hide hE
  clear hE
  go_wp2_with (go_at_call 28; refine HE.out.mono ?_; rintro e w1 ⟨rfl, r1⟩; have R1 := hide r1; clear r1)
  exact HQ.out _ _ ⟨rfl, rfl, rfl, rfl, rfl, rfl, rfl, rfl, rfl, rfl, rfl, rfl, rfl⟩ R1.out
theorem xo_r10a {K : Act → World → Prop} {c : Code} (hc : regOf (Tryz.f53.body.getD .skip) 10 = some c) (a : Act) {v : Vxo} {wq : World} {g n cp at9 : Nat} (hF : Fxo a v) (h0v : v.v0 = .slice (some ⟨g, 0, none⟩) n cp) (h8v : v.v8 = .int .i64 (at9 : Int)) (h10v : v.v10 = .bool false) 
    (hQ : ∀ a' m, Fxo a' v → a'.tmps.getD 109 undef = .bool true → K a' (wq.drewN m)) :
    Code.wp Tryz.prog c (Exit.then K fun _ _ _ => False) a wq := by
  have HQ := hide hQ
  clear hQ
  obtain ⟨v0, v1, v4, v5, v6, v7, v8, v9, v10, v11, v12⟩ := v
  simp only at h0v h8v h10v HQ
  subst h0v h8v h10v
  obtain ⟨u, rfl⟩ := frx_xo hF
  clear hF
  simp only [Tryz.f53, Option.getD_some, regOf] at hc
  injection hc with hc
  subst hc
  go_quiet (fail)
  go_wp2
  exact HQ.out _ _ ⟨rfl, rfl, rfl, rfl, rfl, rfl, rfl, rfl, rfl, rfl, rfl, rfl, rfl⟩ (by first | rfl | (simp; done))
theorem xo_r10b {K : Act → World → Prop} {c : Code} (hc : regOf (Tryz.f53.body.getD .skip) 10 = some c) (a : Act) {v : Vxo} {wq : World} {g n cp at9 : Nat} {sq : Int} (hF : Fxo a v) (h0v : v.v0 = .slice (some ⟨g, 0, none⟩) n cp) (h8v : v.v8 = .int .i64 (at9 : Int)) (h10v : v.v10 = .bool true) (hk : at9 + 3 ≤ n) (hbig : n ≤ 1000000) (y1 : wq.cell? ⟨g, (at9 + 1) * 3 + 1, none⟩ = some (.int .u64 sq)) (h : sq > 9007199254740991) 
    (hQ : ∀ a' m, Fxo a' v → a'.tmps.getD 109 undef = .bool true → K a' (wq.drewN m)) :
    Code.wp Tryz.prog c (Exit.then K fun _ _ _ => False) a wq := by
  have HQ := hide hQ
  clear hQ
  obtain ⟨v0, v1, v4, v5, v6, v7, v8, v9, v10, v11, v12⟩ := v
  simp only at h0v h8v h10v HQ
  subst h0v h8v h10v
  obtain ⟨u, rfl⟩ := frx_xo hF
  clear hF
  simp only [Tryz.f53, Option.getD_some, regOf] at hc
  injection hc with hc
  subst hc
  have w1 : IntKind.i64.wrap ((at9 : Int) + 1) = ((at9 + 1 : Nat) : Int) := by rw [IntKind.wrap_i64]; omega
  have p1 : (0 : Int) ≤ ((at9 + 1 : Nat) : Int) := by omega
  have q1 : ((at9 + 1 : Nat) : Int) < (n : Int) := by omega
  have d1 : decide ((9007199254740991 : Int) < sq) = true := decide_eq_true h
  go_quiet (fail)
  go_wp2
  exact HQ.out _ _ ⟨rfl, rfl, rfl, rfl, rfl, rfl, rfl, rfl, rfl, rfl, rfl, rfl, rfl⟩ (by first | rfl | (simp; done))
theorem xo_r10c {K : Act → World → Prop} {c : Code} (hc : regOf (Tryz.f53.body.getD .skip) 10 = some c) (a : Act) {v : Vxo} {wq : World} {g n cp at9 : Nat} {sq of9 fi : Int} (hF : Fxo a v) (h0v : v.v0 = .slice (some ⟨g, 0, none⟩) n cp) (h8v : v.v8 = .int .i64 (at9 : Int)) (h10v : v.v10 = .bool true) (hk : at9 + 3 ≤ n) (hbig : n ≤ 1000000) (y1 : wq.cell? ⟨g, (at9 + 1) * 3 + 1, none⟩ = some (.int .u64 sq)) (y2 : wq.cell? ⟨g, (at9 + 2) * 3 + 1, none⟩ = some (.int .u64 of9)) (y7 : wq.cell? ⟨g, 7, none⟩ = some (.int .u64 fi)) (h : ¬ sq > 9007199254740991) (h2 : of9 ≥ fi) 
    (hQ : ∀ a' m, Fxo a' v → a'.tmps.getD 109 undef = .bool true → K a' (wq.drewN m)) :
    Code.wp Tryz.prog c (Exit.then K fun _ _ _ => False) a wq := by
  have HQ := hide hQ
  clear hQ
  obtain ⟨v0, v1, v4, v5, v6, v7, v8, v9, v10, v11, v12⟩ := v
  simp only at h0v h8v h10v HQ
  subst h0v h8v h10v
  obtain ⟨u, rfl⟩ := frx_xo hF
  clear hF
  simp only [Tryz.f53, Option.getD_some, regOf] at hc
  injection hc with hc
  subst hc
  have w1 : IntKind.i64.wrap ((at9 : Int) + 1) = ((at9 + 1 : Nat) : Int) := by rw [IntKind.wrap_i64]; omega
  have p1 : (0 : Int) ≤ ((at9 + 1 : Nat) : Int) := by omega
  have q1 : ((at9 + 1 : Nat) : Int) < (n : Int) := by omega
  have w2 : IntKind.i64.wrap ((at9 : Int) + 2) = ((at9 + 2 : Nat) : Int) := by rw [IntKind.wrap_i64]; omega
  have p2 : (0 : Int) ≤ ((at9 + 2 : Nat) : Int) := by omega
  have q2 : ((at9 + 2 : Nat) : Int) < (n : Int) := by omega
  have j2 : (2 : Int) < (n : Int) := by omega
  have d1 : decide ((9007199254740991 : Int) < sq) = false := decide_eq_false h
  have d2 : decide (fi ≤ of9) = true := decide_eq_true h2
  go_quiet (fail)
  go_wp2
  exact HQ.out _ _ ⟨rfl, rfl, rfl, rfl, rfl, rfl, rfl, rfl, rfl, rfl, rfl, rfl, rfl⟩ (by first | rfl | (simp; done))
theorem xo_r10d {K : Act → World → Prop} {c : Code} (hc : regOf (Tryz.f53.body.getD .skip) 10 = some c) (a : Act) {v : Vxo} {wq : World} {g n cp at9 : Nat} {sq of9 fi : Int} (hF : Fxo a v) (h0v : v.v0 = .slice (some ⟨g, 0, none⟩) n cp) (h8v : v.v8 = .int .i64 (at9 : Int)) (h10v : v.v10 = .bool true) (h9v : v.v9 = .int .i64 ((0 : Nat) : Int)) (hk : at9 + 3 ≤ n) (hbig : n ≤ 1000000) (y1 : wq.cell? ⟨g, (at9 + 1) * 3 + 1, none⟩ = some (.int .u64 sq)) (y2 : wq.cell? ⟨g, (at9 + 2) * 3 + 1, none⟩ = some (.int .u64 of9)) (y7 : wq.cell? ⟨g, 7, none⟩ = some (.int .u64 fi)) (h : ¬ sq > 9007199254740991) (h2 : ¬ of9 ≥ fi) 
    (hQ : ∀ a' m, Fxo a' v → a'.tmps.getD 109 undef = .bool false → K a' (wq.drewN m)) :
    Code.wp Tryz.prog c (Exit.then K fun _ _ _ => False) a wq := by
  have HQ := hide hQ
  clear hQ
  obtain ⟨v0, v1, v4, v5, v6, v7, v8, v9, v10, v11, v12⟩ := v
  simp only at h0v h8v h10v h9v HQ
  subst h0v h8v h10v h9v
  obtain ⟨u, rfl⟩ := frx_xo hF
  clear hF
  simp only [Tryz.f53, Option.getD_some, regOf] at hc
  injection hc with hc
  subst hc
  have w1 : IntKind.i64.wrap ((at9 : Int) + 1) = ((at9 + 1 : Nat) : Int) := by rw [IntKind.wrap_i64]; omega
  have p1 : (0 : Int) ≤ ((at9 + 1 : Nat) : Int) := by omega
  have q1 : ((at9 + 1 : Nat) : Int) < (n : Int) := by omega
  have w2 : IntKind.i64.wrap ((at9 : Int) + 2) = ((at9 + 2 : Nat) : Int) := by rw [IntKind.wrap_i64]; omega
  have p2 : (0 : Int) ≤ ((at9 + 2 : Nat) : Int) := by omega
  have q2 : ((at9 + 2 : Nat) : Int) < (n : Int) := by omega
  have j2 : (2 : Int) < (n : Int) := by omega
  have d1 : decide ((9007199254740991 : Int) < sq) = false := decide_eq_false h
  have d2 : decide (fi ≤ of9) = false := decide_eq_false h2
  go_quiet (fail)
  go_wp2
  exact HQ.out _ _ ⟨rfl, rfl, rfl, rfl, rfl, rfl, rfl, rfl, rfl, rfl, rfl, rfl, rfl⟩ (by first | rfl | (simp; done))
theorem xo_r10e {K : Act → World → Prop} {c : Code} (hc : regOf (Tryz.f53.body.getD .skip) 10 = some c) (a : Act) {v : Vxo} {wq : World} {g n cp at9 : Nat} {ii tb pb po pc : Nat} {sq of9 fi : Int} {nm pn : ByteArray} (hF : Fxo a v) (h0v : v.v0 = .slice (some ⟨g, 0, none⟩) n cp) (h8v : v.v8 = .int .i64 (at9 : Int)) (h10v : v.v10 = .bool true) (h9v : v.v9 = .int .i64 (ii : Int)) (h7v : v.v7 = .pointer (some ⟨tb, 0, none⟩)) (hk : at9 + 3 ≤ n) (hbig : n ≤ 1000000) (y1 : wq.cell? ⟨g, (at9 + 1) * 3 + 1, none⟩ = some (.int .u64 sq)) (y2 : wq.cell? ⟨g, (at9 + 2) * 3 + 1, none⟩ = some (.int .u64 of9)) (y7 : wq.cell? ⟨g, 7, none⟩ = some (.int .u64 fi)) (h : ¬ sq > 9007199254740991) (h2 : ¬ of9 ≥ fi) (hi : 0 < ii) (hi2 : ii ≤ 1000000) (y0 : wq.cell? ⟨g, at9 * 3 + 2, none⟩ = some (.string nm)) (z3 : wq.cell? ⟨tb, 3, none⟩ = some (.slice (some ⟨pb, po, none⟩) ii pc)) (z0 : wq.cell? ⟨pb, po + (ii - 1) * 3, none⟩ = some (.string pn)) (hg : g < wq.heap.size) (htb : tb < wq.heap.size) (hpb : pb < wq.heap.size)
    (hQ : ∀ a' w1, Fxo a' v → a'.tmps.getD 109 undef = .bool (Op.bytesLess nm.toList pn.toList || nm.toList == pn.toList) → Below wq.heap.size wq w1 → K a' w1) :
    Code.wp Tryz.prog c (Exit.then K fun _ _ _ => False) a wq := by
  have HQ := hide hQ
  clear hQ
  obtain ⟨v0, v1, v4, v5, v6, v7, v8, v9, v10, v11, v12⟩ := v
  simp only at h0v h8v h10v h9v h7v HQ
  subst h0v h8v h10v h9v h7v
  obtain ⟨u, rfl⟩ := frx_xo hF
  clear hF
  simp only [Tryz.f53, Option.getD_some, regOf] at hc
  injection hc with hc
  subst hc
  have w1 : IntKind.i64.wrap ((at9 : Int) + 1) = (at9 : Int) + 1 := by rw [IntKind.wrap_i64]; omega
  have w2 : IntKind.i64.wrap ((at9 : Int) + 2) = (at9 : Int) + 2 := by rw [IntKind.wrap_i64]; omega
  have p1 : (0 : Int) ≤ (at9 : Int) + 1 := by omega
  have q1 : (at9 : Int) + 1 < (n : Int) := by omega
  have p2 : (0 : Int) ≤ (at9 : Int) + 2 := by omega
  have q2 : (at9 : Int) + 2 < (n : Int) := by omega
  have t1 : ((at9 : Int) + 1).toNat = at9 + 1 := by omega
  have t2 : ((at9 : Int) + 2).toNat = at9 + 2 := by omega
  have j2 : (2 : Int) < (n : Int) := by omega
  have i0 : (0 : Int) ≤ (at9 : Int) := by omega
  have j0 : (at9 : Int) < (n : Int) := by omega
  have w9 : IntKind.i64.wrap ((ii : Int) - 1) = ((ii - 1 : Nat) : Int) := by rw [IntKind.wrap_i64]; omega
  have p9 : (0 : Int) ≤ ((ii - 1 : Nat) : Int) := by omega
  have q9 : ((ii - 1 : Nat) : Int) < (ii : Int) := by omega
  have d9 : decide ((0 : Int) < (ii : Int)) = true := decide_eq_true (by omega)
  have d8 : decide (0 < ii) = true := decide_eq_true hi
  have d1 : decide ((9007199254740991 : Int) < sq) = false := decide_eq_false h
  have d2 : decide (fi ≤ of9) = false := decide_eq_false h2
  have W1 := hide w1
  have P1 := hide p1
  have T1 := hide t1
  have T2 := hide t2
  have Q1 := hide q1
  have W2 := hide w2
  have P2 := hide p2
  have Q2 := hide q2
  have J2 := hide j2
  have I0 := hide i0
  have J0 := hide j0
  have W9 := hide w9
  have P9 := hide p9
  have Q9 := hide q9
  have D9 := hide d9
  have D8 := hide d8
  have D1 := hide d1
  have D2 := hide d2
  have Y0 := hide y0
  have Y1 := hide y1
  have Y2 := hide y2
  have Y7 := hide y7
  have Z3 := hide z3
  have Z0 := hide z0
  have HG := hide hg
  have HTB := hide htb
  have HPB := hide hpb
  clear t1 t2 w1 p1 q1 w2 p2 q2 j2 i0 j0 w9 p9 q9 d9 d8 d1 d2 y0 y1 y2 y7 z3 z0 hg htb hpb h h2 hk hbig hi hi2
  refine wp_region_phi (by kernel_rfl) (ns := 253) (uses := (fun i => match i with | 0 => [65] | 1 => [66] | 2 => [67] | 3 => [68] | 4 => [69] | 5 => [70] | 6 => [71] | 7 => [72] | 8 => [73] | 9 => [74] | 10 => [75] | 11 => [76] | 12 => [77] | 13 => [78] | 14 => [79] | 15 => [80] | 16 => [81] | 17 => [82] | 18 => [83] | 19 => [84] | 20 => [85] | 21 => [86] | 22 => [87] | 23 => [88] | 24 => [89] | 25 => [90] | 26 => [91] | 27 => [92] | 28 => [93] | 29 => [94] | 30 => [95] | 31 => [96] | 32 => [97] | 33 => [98] | 34 => [99] | 35 => [100] | 36 => [101] | 37 => [102] | 38 => [103] | 39 => [104] | 40 => [105] | 41 => [106] | 42 => [107] | 43 => [108] | 44 => [109] | _ => [])) (by kernel_rfl) (by kernel_rfl) (fun _ w w' => Below w.heap.size w w') (fun w => Below wq.heap.size wq w) (fun _ _ _ h r => h.trans (r.mono h.size)) ((Below.refl _ _).drew) (fun i => match i with | 0 => fun s w => s 65 = .bool true | 1 => fun s w => s 66 = .bool false | 2 => fun s w => s 67 = .bool false | 3 => fun s w => s 68 = .slice (some ⟨g, 0, none⟩) n cp | 4 => fun s w => s 69 = .int .i64 (at9 : Int) | 5 => fun s w => s 70 = .int .i64 ((at9 : Int) + 1) | 6 => fun s w => s 71 = .pointer (some ⟨g, (at9 + 1) * 3, none⟩) | 7 => fun s w => s 72 = .pointer (some ⟨g, (at9 + 1) * 3 + 1, none⟩) | 8 => fun s w => s 73 = .int .u64 sq | 9 => fun s w => s 74 = .bool false | 10 => fun s w => s 75 = .bool false | 11 => fun s w => s 76 = .bool false | 12 => fun s w => s 77 = .slice (some ⟨g, 0, none⟩) n cp | 13 => fun s w => s 78 = .int .i64 (at9 : Int) | 14 => fun s w => s 79 = .int .i64 ((at9 : Int) + 2) | 15 => fun s w => s 80 = .pointer (some ⟨g, (at9 + 2) * 3, none⟩) | 16 => fun s w => s 81 = .pointer (some ⟨g, (at9 + 2) * 3 + 1, none⟩) | 17 => fun s w => s 82 = .int .u64 of9 | 18 => fun s w => s 83 = .slice (some ⟨g, 0, none⟩) n cp | 19 => fun s w => s 84 = .pointer (some ⟨g, 6, none⟩) | 20 => fun s w => s 85 = .pointer (some ⟨g, 7, none⟩) | 21 => fun s w => s 86 = .int .u64 fi | 22 => fun s w => s 87 = .bool false | 23 => fun s w => s 88 = .bool false | 24 => fun s w => s 89 = .bool false | 25 => fun s w => s 90 = .int .i64 (ii : Int) | 26 => fun s w => s 91 = .bool true | 27 => fun s w => s 92 = .bool true | 28 => fun s w => s 93 = .slice (some ⟨g, 0, none⟩) n cp | 29 => fun s w => s 94 = .int .i64 (at9 : Int) | 30 => fun s w => s 95 = .pointer (some ⟨g, at9 * 3, none⟩) | 31 => fun s w => s 96 = .pointer (some ⟨g, at9 * 3 + 2, none⟩) | 32 => fun s w => s 97 = .string nm | 33 => fun s w => s 98 = .pointer (some ⟨tb, 0, none⟩) | 34 => fun s w => s 99 = .pointer (some ⟨tb, 0, none⟩) | 35 => fun s w => s 100 = .pointer (some ⟨tb, 3, none⟩) | 36 => fun s w => s 101 = .slice (some ⟨pb, po, none⟩) ii pc | 37 => fun s w => s 102 = .int .i64 (ii : Int) | 38 => fun s w => s 103 = .int .i64 ((ii - 1 : Nat) : Int) | 39 => fun s w => s 104 = .pointer (some ⟨pb, po + (ii - 1) * 3, none⟩) | 40 => fun s w => s 105 = .pointer (some ⟨pb, po + (ii - 1) * 3, none⟩) | 41 => fun s w => s 106 = .string pn | 42 => fun s w => s 107 = .bool (Op.bytesLess nm.toList pn.toList || nm.toList == pn.toList) | 43 => fun s w => s 108 = .bool (Op.bytesLess nm.toList pn.toList || nm.toList == pn.toList) | 44 => fun s w => s 109 = .bool (Op.bytesLess nm.toList pn.toList || nm.toList == pn.toList) | _ => fun _ _ => True) ?phc ?phh ?pstep ?pdone
  case phc =>
    intro i s s' w hx h
    iterate 45 (rcases i with _ | i; · exact (hx _ (List.mem_singleton.2 rfl)).symm.trans h)
    exact h
  case phh =>
    intro i j s w w' hij h hb r
    iterate 45 (rcases i with _ | i; · exact h)
    exact h
  case pstep =>
    intro i o ho a' w' hsa hb hd
    match i, ho with
    | 0, ho =>
      obtain rfl := Option.some.inj ho
      try dsimp only at hd
      have g10 : a'.tmps.getD 10 undef = .bool true := hsa.rest 10 (by rfl)
      refine wpOp_of rfl rfl ?_
      refine op_run (v := .bool true) (w' := w') ?_ ⟨_, rfl, slots_put (ns := 253) (hsa.size.trans rfl) (by decide), Below.refl _ _⟩
      simp only [execOp, Act.eval, g10]; first | (go_simp; done) | rfl
    | 1, ho =>
      obtain rfl := Option.some.inj ho
      try dsimp only at hd
      have d0 : a'.tmps.getD 65 undef = .bool true := hd 0 (by rfl)
      refine wpOp_of rfl rfl ?_
      refine op_run (v := .bool false) (w' := w') ?_ ⟨_, rfl, slots_put (ns := 253) (hsa.size.trans rfl) (by decide), Below.refl _ _⟩
      simp only [execOp, Act.eval, d0]; first | (go_simp; done) | rfl
    | 2, ho =>
      obtain rfl := Option.some.inj ho
      try dsimp only at hd
      have d1 : a'.tmps.getD 66 undef = .bool false := hd 1 (by rfl)
      refine wpOp_of rfl rfl ?_
      refine op_run (v := .bool false) (w' := w') ?_ ⟨_, rfl, slots_put (ns := 253) (hsa.size.trans rfl) (by decide), Below.refl _ _⟩
      simp only [execOp, Act.eval, d1]; first | (go_simp; done) | rfl
    | 3, ho =>
      obtain rfl := Option.some.inj ho
      try dsimp only at hd
      have d2 : a'.tmps.getD 67 undef = .bool false := hd 2 (by rfl)
      have g0 : a'.tmps.getD 0 undef = .slice (some ⟨g, 0, none⟩) n cp := hsa.rest 0 (by rfl)
      refine wpOp_on (j := 2) (dj := 67) rfl rfl rfl d2 ?_
      refine op_run (v := .slice (some ⟨g, 0, none⟩) n cp) (w' := w') ?_ ⟨_, rfl, slots_put (ns := 253) (hsa.size.trans rfl) (by decide), Below.refl _ _⟩
      simp only [execOp, Act.eval, d2, g0]; first | (go_simp; done) | rfl
    | 4, ho =>
      obtain rfl := Option.some.inj ho
      try dsimp only at hd
      have d2 : a'.tmps.getD 67 undef = .bool false := hd 2 (by rfl)
      have g8 : a'.tmps.getD 8 undef = .int .i64 (at9 : Int) := hsa.rest 8 (by rfl)
      refine wpOp_on (j := 2) (dj := 67) rfl rfl rfl d2 ?_
      refine op_run (v := .int .i64 (at9 : Int)) (w' := w') ?_ ⟨_, rfl, slots_put (ns := 253) (hsa.size.trans rfl) (by decide), Below.refl _ _⟩
      simp only [execOp, Act.eval, d2, g8]; first | (go_simp; done) | rfl
    | 5, ho =>
      obtain rfl := Option.some.inj ho
      try dsimp only at hd
      have d2 : a'.tmps.getD 67 undef = .bool false := hd 2 (by rfl)
      have d4 : a'.tmps.getD 69 undef = .int .i64 (at9 : Int) := hd 4 (by rfl)
      have f_W1 := W1.out
      refine wpOp_on (j := 2) (dj := 67) rfl rfl rfl d2 ?_
      refine op_run (v := .int .i64 ((at9 : Int) + 1)) (w' := w') ?_ ⟨_, rfl, slots_put (ns := 253) (hsa.size.trans rfl) (by decide), Below.refl _ _⟩
      simp only [execOp, Act.eval, d2, d4, f_W1]; first | (go_simp; done) | rfl
    | 6, ho =>
      obtain rfl := Option.some.inj ho
      try dsimp only at hd
      have d2 : a'.tmps.getD 67 undef = .bool false := hd 2 (by rfl)
      have d3 : a'.tmps.getD 68 undef = .slice (some ⟨g, 0, none⟩) n cp := hd 3 (by rfl)
      have d5 : a'.tmps.getD 70 undef = .int .i64 ((at9 : Int) + 1) := hd 5 (by rfl)
      have f_P1 := P1.out
      have f_Q1 := Q1.out
      have f_T1 := T1.out
      refine wpOp_on (j := 2) (dj := 67) rfl rfl rfl d2 ?_
      refine op_run (v := .pointer (some ⟨g, (at9 + 1) * 3, none⟩)) (w' := w') ?_ ⟨_, rfl, slots_put (ns := 253) (hsa.size.trans rfl) (by decide), Below.refl _ _⟩
      simp only [execOp, Act.eval, d2, d3, d5, f_P1, f_Q1, f_T1]; first | (go_simp; done) | rfl
    | 7, ho =>
      obtain rfl := Option.some.inj ho
      try dsimp only at hd
      have d2 : a'.tmps.getD 67 undef = .bool false := hd 2 (by rfl)
      have d6 : a'.tmps.getD 71 undef = .pointer (some ⟨g, (at9 + 1) * 3, none⟩) := hd 6 (by rfl)
      refine wpOp_on (j := 2) (dj := 67) rfl rfl rfl d2 ?_
      refine op_run (v := .pointer (some ⟨g, (at9 + 1) * 3 + 1, none⟩)) (w' := w') ?_ ⟨_, rfl, slots_put (ns := 253) (hsa.size.trans rfl) (by decide), Below.refl _ _⟩
      simp only [execOp, Act.eval, d2, d6]; first | (go_simp; done) | rfl
    | 8, ho =>
      obtain rfl := Option.some.inj ho
      try dsimp only at hd
      have d2 : a'.tmps.getD 67 undef = .bool false := hd 2 (by rfl)
      have d7 : a'.tmps.getD 72 undef = .pointer (some ⟨g, (at9 + 1) * 3 + 1, none⟩) := hd 7 (by rfl)
      have z := (hb.cell (p := ⟨g, (at9 + 1) * 3 + 1, none⟩) HG.out).trans Y1.out
      refine wpOp_on (j := 2) (dj := 67) rfl rfl rfl d2 ?_
      refine op_run (v := .int .u64 sq) (w' := w') ?_ ⟨_, rfl, slots_put (ns := 253) (hsa.size.trans rfl) (by decide), Below.refl _ _⟩
      simp only [execOp, Act.eval, d2, d7, z]; first | (go_simp; done) | rfl
    | 9, ho =>
      obtain rfl := Option.some.inj ho
      try dsimp only at hd
      have d2 : a'.tmps.getD 67 undef = .bool false := hd 2 (by rfl)
      have d8 : a'.tmps.getD 73 undef = .int .u64 sq := hd 8 (by rfl)
      have f_D1 := D1.out
      refine wpOp_on (j := 2) (dj := 67) rfl rfl rfl d2 ?_
      refine op_run (v := .bool false) (w' := w') ?_ ⟨_, rfl, slots_put (ns := 253) (hsa.size.trans rfl) (by decide), Below.refl _ _⟩
      simp only [execOp, Act.eval, d2, d8, f_D1]; first | (go_simp; done) | rfl
    | 10, ho =>
      obtain rfl := Option.some.inj ho
      try dsimp only at hd
      have d2 : a'.tmps.getD 67 undef = .bool false := hd 2 (by rfl)
      have d9 : a'.tmps.getD 74 undef = .bool false := hd 9 (by rfl)
      refine wpOp_of rfl rfl ?_
      refine op_run (v := .bool false) (w' := w') ?_ ⟨_, rfl, slots_put (ns := 253) (hsa.size.trans rfl) (by decide), Below.refl _ _⟩
      simp only [execOp, Act.eval, d2, d9]; first | (go_simp; done) | rfl
    | 11, ho =>
      obtain rfl := Option.some.inj ho
      try dsimp only at hd
      have d10 : a'.tmps.getD 75 undef = .bool false := hd 10 (by rfl)
      refine wpOp_of rfl rfl ?_
      refine op_run (v := .bool false) (w' := w') ?_ ⟨_, rfl, slots_put (ns := 253) (hsa.size.trans rfl) (by decide), Below.refl _ _⟩
      simp only [execOp, Act.eval, d10]; first | (go_simp; done) | rfl
    | 12, ho =>
      obtain rfl := Option.some.inj ho
      try dsimp only at hd
      have d11 : a'.tmps.getD 76 undef = .bool false := hd 11 (by rfl)
      have g0 : a'.tmps.getD 0 undef = .slice (some ⟨g, 0, none⟩) n cp := hsa.rest 0 (by rfl)
      refine wpOp_on (j := 11) (dj := 76) rfl rfl rfl d11 ?_
      refine op_run (v := .slice (some ⟨g, 0, none⟩) n cp) (w' := w') ?_ ⟨_, rfl, slots_put (ns := 253) (hsa.size.trans rfl) (by decide), Below.refl _ _⟩
      simp only [execOp, Act.eval, d11, g0]; first | (go_simp; done) | rfl
    | 13, ho =>
      obtain rfl := Option.some.inj ho
      try dsimp only at hd
      have d11 : a'.tmps.getD 76 undef = .bool false := hd 11 (by rfl)
      have g8 : a'.tmps.getD 8 undef = .int .i64 (at9 : Int) := hsa.rest 8 (by rfl)
      refine wpOp_on (j := 11) (dj := 76) rfl rfl rfl d11 ?_
      refine op_run (v := .int .i64 (at9 : Int)) (w' := w') ?_ ⟨_, rfl, slots_put (ns := 253) (hsa.size.trans rfl) (by decide), Below.refl _ _⟩
      simp only [execOp, Act.eval, d11, g8]; first | (go_simp; done) | rfl
    | 14, ho =>
      obtain rfl := Option.some.inj ho
      try dsimp only at hd
      have d11 : a'.tmps.getD 76 undef = .bool false := hd 11 (by rfl)
      have d13 : a'.tmps.getD 78 undef = .int .i64 (at9 : Int) := hd 13 (by rfl)
      have f_W2 := W2.out
      refine wpOp_on (j := 11) (dj := 76) rfl rfl rfl d11 ?_
      refine op_run (v := .int .i64 ((at9 : Int) + 2)) (w' := w') ?_ ⟨_, rfl, slots_put (ns := 253) (hsa.size.trans rfl) (by decide), Below.refl _ _⟩
      simp only [execOp, Act.eval, d11, d13, f_W2]; first | (go_simp; done) | rfl
    | 15, ho =>
      obtain rfl := Option.some.inj ho
      try dsimp only at hd
      have d11 : a'.tmps.getD 76 undef = .bool false := hd 11 (by rfl)
      have d12 : a'.tmps.getD 77 undef = .slice (some ⟨g, 0, none⟩) n cp := hd 12 (by rfl)
      have d14 : a'.tmps.getD 79 undef = .int .i64 ((at9 : Int) + 2) := hd 14 (by rfl)
      have f_P2 := P2.out
      have f_Q2 := Q2.out
      have f_T2 := T2.out
      refine wpOp_on (j := 11) (dj := 76) rfl rfl rfl d11 ?_
      refine op_run (v := .pointer (some ⟨g, (at9 + 2) * 3, none⟩)) (w' := w') ?_ ⟨_, rfl, slots_put (ns := 253) (hsa.size.trans rfl) (by decide), Below.refl _ _⟩
      simp only [execOp, Act.eval, d11, d12, d14, f_P2, f_Q2, f_T2]; first | (go_simp; done) | rfl
    | 16, ho =>
      obtain rfl := Option.some.inj ho
      try dsimp only at hd
      have d11 : a'.tmps.getD 76 undef = .bool false := hd 11 (by rfl)
      have d15 : a'.tmps.getD 80 undef = .pointer (some ⟨g, (at9 + 2) * 3, none⟩) := hd 15 (by rfl)
      refine wpOp_on (j := 11) (dj := 76) rfl rfl rfl d11 ?_
      refine op_run (v := .pointer (some ⟨g, (at9 + 2) * 3 + 1, none⟩)) (w' := w') ?_ ⟨_, rfl, slots_put (ns := 253) (hsa.size.trans rfl) (by decide), Below.refl _ _⟩
      simp only [execOp, Act.eval, d11, d15]; first | (go_simp; done) | rfl
    | 17, ho =>
      obtain rfl := Option.some.inj ho
      try dsimp only at hd
      have d11 : a'.tmps.getD 76 undef = .bool false := hd 11 (by rfl)
      have d16 : a'.tmps.getD 81 undef = .pointer (some ⟨g, (at9 + 2) * 3 + 1, none⟩) := hd 16 (by rfl)
      have z := (hb.cell (p := ⟨g, (at9 + 2) * 3 + 1, none⟩) HG.out).trans Y2.out
      refine wpOp_on (j := 11) (dj := 76) rfl rfl rfl d11 ?_
      refine op_run (v := .int .u64 of9) (w' := w') ?_ ⟨_, rfl, slots_put (ns := 253) (hsa.size.trans rfl) (by decide), Below.refl _ _⟩
      simp only [execOp, Act.eval, d11, d16, z]; first | (go_simp; done) | rfl
    | 18, ho =>
      obtain rfl := Option.some.inj ho
      try dsimp only at hd
      have d11 : a'.tmps.getD 76 undef = .bool false := hd 11 (by rfl)
      have g0 : a'.tmps.getD 0 undef = .slice (some ⟨g, 0, none⟩) n cp := hsa.rest 0 (by rfl)
      refine wpOp_on (j := 11) (dj := 76) rfl rfl rfl d11 ?_
      refine op_run (v := .slice (some ⟨g, 0, none⟩) n cp) (w' := w') ?_ ⟨_, rfl, slots_put (ns := 253) (hsa.size.trans rfl) (by decide), Below.refl _ _⟩
      simp only [execOp, Act.eval, d11, g0]; first | (go_simp; done) | rfl
    | 19, ho =>
      obtain rfl := Option.some.inj ho
      try dsimp only at hd
      have d11 : a'.tmps.getD 76 undef = .bool false := hd 11 (by rfl)
      have d18 : a'.tmps.getD 83 undef = .slice (some ⟨g, 0, none⟩) n cp := hd 18 (by rfl)
      have f_J2 := J2.out
      refine wpOp_on (j := 11) (dj := 76) rfl rfl rfl d11 ?_
      refine op_run (v := .pointer (some ⟨g, 6, none⟩)) (w' := w') ?_ ⟨_, rfl, slots_put (ns := 253) (hsa.size.trans rfl) (by decide), Below.refl _ _⟩
      simp only [execOp, Act.eval, d11, d18, f_J2]; first | (go_simp; done) | rfl
    | 20, ho =>
      obtain rfl := Option.some.inj ho
      try dsimp only at hd
      have d11 : a'.tmps.getD 76 undef = .bool false := hd 11 (by rfl)
      have d19 : a'.tmps.getD 84 undef = .pointer (some ⟨g, 6, none⟩) := hd 19 (by rfl)
      refine wpOp_on (j := 11) (dj := 76) rfl rfl rfl d11 ?_
      refine op_run (v := .pointer (some ⟨g, 7, none⟩)) (w' := w') ?_ ⟨_, rfl, slots_put (ns := 253) (hsa.size.trans rfl) (by decide), Below.refl _ _⟩
      simp only [execOp, Act.eval, d11, d19]; first | (go_simp; done) | rfl
    | 21, ho =>
      obtain rfl := Option.some.inj ho
      try dsimp only at hd
      have d11 : a'.tmps.getD 76 undef = .bool false := hd 11 (by rfl)
      have d20 : a'.tmps.getD 85 undef = .pointer (some ⟨g, 7, none⟩) := hd 20 (by rfl)
      have z := (hb.cell (p := ⟨g, 7, none⟩) HG.out).trans Y7.out
      refine wpOp_on (j := 11) (dj := 76) rfl rfl rfl d11 ?_
      refine op_run (v := .int .u64 fi) (w' := w') ?_ ⟨_, rfl, slots_put (ns := 253) (hsa.size.trans rfl) (by decide), Below.refl _ _⟩
      simp only [execOp, Act.eval, d11, d20, z]; first | (go_simp; done) | rfl
    | 22, ho =>
      obtain rfl := Option.some.inj ho
      try dsimp only at hd
      have d11 : a'.tmps.getD 76 undef = .bool false := hd 11 (by rfl)
      have d17 : a'.tmps.getD 82 undef = .int .u64 of9 := hd 17 (by rfl)
      have d21 : a'.tmps.getD 86 undef = .int .u64 fi := hd 21 (by rfl)
      have f_D2 := D2.out
      refine wpOp_on (j := 11) (dj := 76) rfl rfl rfl d11 ?_
      refine op_run (v := .bool false) (w' := w') ?_ ⟨_, rfl, slots_put (ns := 253) (hsa.size.trans rfl) (by decide), Below.refl _ _⟩
      simp only [execOp, Act.eval, d11, d17, d21, f_D2]; first | (go_simp; done) | rfl
    | 23, ho =>
      obtain rfl := Option.some.inj ho
      try dsimp only at hd
      have d11 : a'.tmps.getD 76 undef = .bool false := hd 11 (by rfl)
      have d22 : a'.tmps.getD 87 undef = .bool false := hd 22 (by rfl)
      refine wpOp_of rfl rfl ?_
      refine op_run (v := .bool false) (w' := w') ?_ ⟨_, rfl, slots_put (ns := 253) (hsa.size.trans rfl) (by decide), Below.refl _ _⟩
      simp only [execOp, Act.eval, d11, d22]; first | (go_simp; done) | rfl
    | 24, ho =>
      obtain rfl := Option.some.inj ho
      try dsimp only at hd
      have d23 : a'.tmps.getD 88 undef = .bool false := hd 23 (by rfl)
      refine wpOp_of rfl rfl ?_
      refine op_run (v := .bool false) (w' := w') ?_ ⟨_, rfl, slots_put (ns := 253) (hsa.size.trans rfl) (by decide), Below.refl _ _⟩
      simp only [execOp, Act.eval, d23]; first | (go_simp; done) | rfl
    | 25, ho =>
      obtain rfl := Option.some.inj ho
      try dsimp only at hd
      have d24 : a'.tmps.getD 89 undef = .bool false := hd 24 (by rfl)
      have g9 : a'.tmps.getD 9 undef = .int .i64 (ii : Int) := hsa.rest 9 (by rfl)
      refine wpOp_on (j := 24) (dj := 89) rfl rfl rfl d24 ?_
      refine op_run (v := .int .i64 (ii : Int)) (w' := w') ?_ ⟨_, rfl, slots_put (ns := 253) (hsa.size.trans rfl) (by decide), Below.refl _ _⟩
      simp only [execOp, Act.eval, d24, g9]; first | (go_simp; done) | rfl
    | 26, ho =>
      obtain rfl := Option.some.inj ho
      try dsimp only at hd
      have d24 : a'.tmps.getD 89 undef = .bool false := hd 24 (by rfl)
      have d25 : a'.tmps.getD 90 undef = .int .i64 (ii : Int) := hd 25 (by rfl)
      have f_D9 := D9.out
      have f_D8 := D8.out
      refine wpOp_on (j := 24) (dj := 89) rfl rfl rfl d24 ?_
      refine op_run (v := .bool true) (w' := w') ?_ ⟨_, rfl, slots_put (ns := 253) (hsa.size.trans rfl) (by decide), Below.refl _ _⟩
      simp only [execOp, Act.eval, d24, d25, f_D9, f_D8]; first | (go_simp; done) | rfl
    | 27, ho =>
      obtain rfl := Option.some.inj ho
      try dsimp only at hd
      have d24 : a'.tmps.getD 89 undef = .bool false := hd 24 (by rfl)
      have d26 : a'.tmps.getD 91 undef = .bool true := hd 26 (by rfl)
      refine wpOp_on (j := 24) (dj := 89) rfl rfl rfl d24 ?_
      refine op_run (v := .bool true) (w' := w') ?_ ⟨_, rfl, slots_put (ns := 253) (hsa.size.trans rfl) (by decide), Below.refl _ _⟩
      simp only [execOp, Act.eval, d24, d26]; first | (go_simp; done) | rfl
    | 28, ho =>
      obtain rfl := Option.some.inj ho
      try dsimp only at hd
      have d27 : a'.tmps.getD 92 undef = .bool true := hd 27 (by rfl)
      have g0 : a'.tmps.getD 0 undef = .slice (some ⟨g, 0, none⟩) n cp := hsa.rest 0 (by rfl)
      refine wpOp_on (j := 27) (dj := 92) rfl rfl rfl d27 ?_
      refine op_run (v := .slice (some ⟨g, 0, none⟩) n cp) (w' := w') ?_ ⟨_, rfl, slots_put (ns := 253) (hsa.size.trans rfl) (by decide), Below.refl _ _⟩
      simp only [execOp, Act.eval, d27, g0]; first | (go_simp; done) | rfl
    | 29, ho =>
      obtain rfl := Option.some.inj ho
      try dsimp only at hd
      have d27 : a'.tmps.getD 92 undef = .bool true := hd 27 (by rfl)
      have g8 : a'.tmps.getD 8 undef = .int .i64 (at9 : Int) := hsa.rest 8 (by rfl)
      refine wpOp_on (j := 27) (dj := 92) rfl rfl rfl d27 ?_
      refine op_run (v := .int .i64 (at9 : Int)) (w' := w') ?_ ⟨_, rfl, slots_put (ns := 253) (hsa.size.trans rfl) (by decide), Below.refl _ _⟩
      simp only [execOp, Act.eval, d27, g8]; first | (go_simp; done) | rfl
    | 30, ho =>
      obtain rfl := Option.some.inj ho
      try dsimp only at hd
      have d27 : a'.tmps.getD 92 undef = .bool true := hd 27 (by rfl)
      have d28 : a'.tmps.getD 93 undef = .slice (some ⟨g, 0, none⟩) n cp := hd 28 (by rfl)
      have d29 : a'.tmps.getD 94 undef = .int .i64 (at9 : Int) := hd 29 (by rfl)
      have f_I0 := I0.out
      have f_J0 := J0.out
      refine wpOp_on (j := 27) (dj := 92) rfl rfl rfl d27 ?_
      refine op_run (v := .pointer (some ⟨g, at9 * 3, none⟩)) (w' := w') ?_ ⟨_, rfl, slots_put (ns := 253) (hsa.size.trans rfl) (by decide), Below.refl _ _⟩
      simp only [execOp, Act.eval, d27, d28, d29, f_I0, f_J0]; first | (go_simp; done) | rfl
    | 31, ho =>
      obtain rfl := Option.some.inj ho
      try dsimp only at hd
      have d27 : a'.tmps.getD 92 undef = .bool true := hd 27 (by rfl)
      have d30 : a'.tmps.getD 95 undef = .pointer (some ⟨g, at9 * 3, none⟩) := hd 30 (by rfl)
      refine wpOp_on (j := 27) (dj := 92) rfl rfl rfl d27 ?_
      refine op_run (v := .pointer (some ⟨g, at9 * 3 + 2, none⟩)) (w' := w') ?_ ⟨_, rfl, slots_put (ns := 253) (hsa.size.trans rfl) (by decide), Below.refl _ _⟩
      simp only [execOp, Act.eval, d27, d30]; first | (go_simp; done) | rfl
    | 32, ho =>
      obtain rfl := Option.some.inj ho
      try dsimp only at hd
      have d27 : a'.tmps.getD 92 undef = .bool true := hd 27 (by rfl)
      have d31 : a'.tmps.getD 96 undef = .pointer (some ⟨g, at9 * 3 + 2, none⟩) := hd 31 (by rfl)
      have z := (hb.cell (p := ⟨g, at9 * 3 + 2, none⟩) HG.out).trans Y0.out
      refine wpOp_on (j := 27) (dj := 92) rfl rfl rfl d27 ?_
      refine op_run (v := .string nm) (w' := w') ?_ ⟨_, rfl, slots_put (ns := 253) (hsa.size.trans rfl) (by decide), Below.refl _ _⟩
      simp only [execOp, Act.eval, d27, d31, z]; first | (go_simp; done) | rfl
    | 33, ho =>
      obtain rfl := Option.some.inj ho
      try dsimp only at hd
      have d27 : a'.tmps.getD 92 undef = .bool true := hd 27 (by rfl)
      have g7 : a'.tmps.getD 7 undef = .pointer (some ⟨tb, 0, none⟩) := hsa.rest 7 (by rfl)
      refine wpOp_on (j := 27) (dj := 92) rfl rfl rfl d27 ?_
      refine op_run (v := .pointer (some ⟨tb, 0, none⟩)) (w' := w') ?_ ⟨_, rfl, slots_put (ns := 253) (hsa.size.trans rfl) (by decide), Below.refl _ _⟩
      simp only [execOp, Act.eval, d27, g7]; first | (go_simp; done) | rfl
    | 34, ho =>
      obtain rfl := Option.some.inj ho
      try dsimp only at hd
      have d27 : a'.tmps.getD 92 undef = .bool true := hd 27 (by rfl)
      have d33 : a'.tmps.getD 98 undef = .pointer (some ⟨tb, 0, none⟩) := hd 33 (by rfl)
      refine wpOp_on (j := 27) (dj := 92) rfl rfl rfl d27 ?_
      refine op_run (v := .pointer (some ⟨tb, 0, none⟩)) (w' := w') ?_ ⟨_, rfl, slots_put (ns := 253) (hsa.size.trans rfl) (by decide), Below.refl _ _⟩
      simp only [execOp, Act.eval, d27, d33]; first | (go_simp; done) | rfl
    | 35, ho =>
      obtain rfl := Option.some.inj ho
      try dsimp only at hd
      have d27 : a'.tmps.getD 92 undef = .bool true := hd 27 (by rfl)
      have d34 : a'.tmps.getD 99 undef = .pointer (some ⟨tb, 0, none⟩) := hd 34 (by rfl)
      refine wpOp_on (j := 27) (dj := 92) rfl rfl rfl d27 ?_
      refine op_run (v := .pointer (some ⟨tb, 3, none⟩)) (w' := w') ?_ ⟨_, rfl, slots_put (ns := 253) (hsa.size.trans rfl) (by decide), Below.refl _ _⟩
      simp only [execOp, Act.eval, d27, d34]; first | (go_simp; done) | rfl
    | 36, ho =>
      obtain rfl := Option.some.inj ho
      try dsimp only at hd
      have d27 : a'.tmps.getD 92 undef = .bool true := hd 27 (by rfl)
      have d35 : a'.tmps.getD 100 undef = .pointer (some ⟨tb, 3, none⟩) := hd 35 (by rfl)
      have z := (hb.cell (p := ⟨tb, 3, none⟩) HTB.out).trans Z3.out
      refine wpOp_on (j := 27) (dj := 92) rfl rfl rfl d27 ?_
      refine op_run (v := .slice (some ⟨pb, po, none⟩) ii pc) (w' := w') ?_ ⟨_, rfl, slots_put (ns := 253) (hsa.size.trans rfl) (by decide), Below.refl _ _⟩
      simp only [execOp, Act.eval, d27, d35, z]; first | (go_simp; done) | rfl
    | 37, ho =>
      obtain rfl := Option.some.inj ho
      try dsimp only at hd
      have d27 : a'.tmps.getD 92 undef = .bool true := hd 27 (by rfl)
      have g9 : a'.tmps.getD 9 undef = .int .i64 (ii : Int) := hsa.rest 9 (by rfl)
      refine wpOp_on (j := 27) (dj := 92) rfl rfl rfl d27 ?_
      refine op_run (v := .int .i64 (ii : Int)) (w' := w') ?_ ⟨_, rfl, slots_put (ns := 253) (hsa.size.trans rfl) (by decide), Below.refl _ _⟩
      simp only [execOp, Act.eval, d27, g9]; first | (go_simp; done) | rfl
    | 38, ho =>
      obtain rfl := Option.some.inj ho
      try dsimp only at hd
      have d27 : a'.tmps.getD 92 undef = .bool true := hd 27 (by rfl)
      have d37 : a'.tmps.getD 102 undef = .int .i64 (ii : Int) := hd 37 (by rfl)
      have f_W9 := W9.out
      refine wpOp_on (j := 27) (dj := 92) rfl rfl rfl d27 ?_
      refine op_run (v := .int .i64 ((ii - 1 : Nat) : Int)) (w' := w') ?_ ⟨_, rfl, slots_put (ns := 253) (hsa.size.trans rfl) (by decide), Below.refl _ _⟩
      simp only [execOp, Act.eval, d27, d37, f_W9]; first | (go_simp; done) | rfl
    | 39, ho =>
      obtain rfl := Option.some.inj ho
      try dsimp only at hd
      have d27 : a'.tmps.getD 92 undef = .bool true := hd 27 (by rfl)
      have d36 : a'.tmps.getD 101 undef = .slice (some ⟨pb, po, none⟩) ii pc := hd 36 (by rfl)
      have d38 : a'.tmps.getD 103 undef = .int .i64 ((ii - 1 : Nat) : Int) := hd 38 (by rfl)
      have f_P9 := P9.out
      have f_Q9 := Q9.out
      refine wpOp_on (j := 27) (dj := 92) rfl rfl rfl d27 ?_
      refine op_run (v := .pointer (some ⟨pb, po + (ii - 1) * 3, none⟩)) (w' := w') ?_ ⟨_, rfl, slots_put (ns := 253) (hsa.size.trans rfl) (by decide), Below.refl _ _⟩
      simp only [execOp, Act.eval, d27, d36, d38, f_P9, f_Q9]; first | (go_simp; done) | rfl
    | 40, ho =>
      obtain rfl := Option.some.inj ho
      try dsimp only at hd
      have d27 : a'.tmps.getD 92 undef = .bool true := hd 27 (by rfl)
      have d39 : a'.tmps.getD 104 undef = .pointer (some ⟨pb, po + (ii - 1) * 3, none⟩) := hd 39 (by rfl)
      refine wpOp_on (j := 27) (dj := 92) rfl rfl rfl d27 ?_
      refine op_run (v := .pointer (some ⟨pb, po + (ii - 1) * 3, none⟩)) (w' := w') ?_ ⟨_, rfl, slots_put (ns := 253) (hsa.size.trans rfl) (by decide), Below.refl _ _⟩
      simp only [execOp, Act.eval, d27, d39]; first | (go_simp; done) | rfl
    | 41, ho =>
      obtain rfl := Option.some.inj ho
      try dsimp only at hd
      have d27 : a'.tmps.getD 92 undef = .bool true := hd 27 (by rfl)
      have d40 : a'.tmps.getD 105 undef = .pointer (some ⟨pb, po + (ii - 1) * 3, none⟩) := hd 40 (by rfl)
      have z := (hb.cell (p := ⟨pb, po + (ii - 1) * 3, none⟩) HPB.out).trans Z0.out
      refine wpOp_on (j := 27) (dj := 92) rfl rfl rfl d27 ?_
      refine op_run (v := .string pn) (w' := w') ?_ ⟨_, rfl, slots_put (ns := 253) (hsa.size.trans rfl) (by decide), Below.refl _ _⟩
      simp only [execOp, Act.eval, d27, d40, z]; first | (go_simp; done) | rfl
    | 42, ho =>
      obtain rfl := Option.some.inj ho
      try dsimp only at hd
      have d27 : a'.tmps.getD 92 undef = .bool true := hd 27 (by rfl)
      have d32 : a'.tmps.getD 97 undef = .string nm := hd 32 (by rfl)
      have d41 : a'.tmps.getD 106 undef = .string pn := hd 41 (by rfl)
      refine wpOp_on (j := 27) (dj := 92) rfl rfl rfl d27 ?_
      refine op_run (v := .bool (Op.bytesLess nm.toList pn.toList || nm.toList == pn.toList)) (w' := w') ?_ ⟨_, rfl, slots_put (ns := 253) (hsa.size.trans rfl) (by decide), Below.refl _ _⟩
      simp only [execOp, Act.eval, d27, d32, d41]; first | (go_simp; done) | rfl
    | 43, ho =>
      obtain rfl := Option.some.inj ho
      try dsimp only at hd
      have d24 : a'.tmps.getD 89 undef = .bool false := hd 24 (by rfl)
      have d27 : a'.tmps.getD 92 undef = .bool true := hd 27 (by rfl)
      have d42 : a'.tmps.getD 107 undef = .bool (Op.bytesLess nm.toList pn.toList || nm.toList == pn.toList) := hd 42 (by rfl)
      refine wpOp_on (j := 24) (dj := 89) rfl rfl rfl d24 ?_
      refine op_run (v := .bool (Op.bytesLess nm.toList pn.toList || nm.toList == pn.toList)) (w' := w') ?_ ⟨_, rfl, slots_put (ns := 253) (hsa.size.trans rfl) (by decide), Below.refl _ _⟩
      simp only [execOp, Act.eval, d24, d27, d42]; first | (go_simp; done) | rfl
    | 44, ho =>
      obtain rfl := Option.some.inj ho
      try dsimp only at hd
      have d24 : a'.tmps.getD 89 undef = .bool false := hd 24 (by rfl)
      have d43 : a'.tmps.getD 108 undef = .bool (Op.bytesLess nm.toList pn.toList || nm.toList == pn.toList) := hd 43 (by rfl)
      refine wpOp_of rfl rfl ?_
      refine op_run (v := .bool (Op.bytesLess nm.toList pn.toList || nm.toList == pn.toList)) (w' := w') ?_ ⟨_, rfl, slots_put (ns := 253) (hsa.size.trans rfl) (by decide), Below.refl _ _⟩
      simp only [execOp, Act.eval, d24, d43]; first | (go_simp; done) | rfl
    | (n + 45), ho => exact absurd ho (by simp)
  case pdone =>
    intro a' w' hsa hb hd
    have d44 : a'.tmps.getD 109 undef = .bool (Op.bytesLess nm.toList pn.toList || nm.toList == pn.toList) := hd 44 (by decide)
    exact HQ.out a' w' ⟨hsa.size.trans rfl, hsa.defers.trans rfl, hsa.rest 0 (by rfl), hsa.rest 1 (by rfl), hsa.rest 4 (by rfl), hsa.rest 5 (by rfl), hsa.rest 6 (by rfl), hsa.rest 7 (by rfl), hsa.rest 8 (by rfl), hsa.rest 9 (by rfl), hsa.rest 10 (by rfl), hsa.rest 11 (by rfl), hsa.rest 12 (by rfl)⟩ d44 hb
theorem xo_r13 {K : Act → World → Prop} {c : Code} (hc : regOf (Tryz.f53.body.getD .skip) 13 = some c) (a : Act) {v : Vxo} {wq : World} {k : Nat} (hF : Fxo a v) (h8v : v.v8 = .int .i64 (k : Int)) (hk : k ≤ 1000000) (hQ : ∀ a', Fxo a' { v with v8 := .int .i64 ((k + 3 : Nat) : Int) } → K a' wq) :
    Code.wp Tryz.prog c (Exit.then K fun _ _ _ => False) a wq := by
  have HQ := hide hQ
  clear hQ
  obtain ⟨v0, v1, v4, v5, v6, v7, v8, v9, v10, v11, v12⟩ := v
  simp only at h8v HQ
  subst h8v
  obtain ⟨u, rfl⟩ := frx_xo hF
  clear hF
  simp only [Tryz.f53, Option.getD_some, regOf] at hc
  injection hc with hc
  subst hc
  have hc : ((k + 3 : Nat) : Int) = (k : Int) + 3 := by omega
  rw [hc] at HQ
  go_wp2
  exact HQ.out _ ⟨rfl, rfl, rfl, rfl, rfl, rfl, rfl, rfl, rfl, rfl, rfl, rfl, rfl⟩
theorem xo_r8 {K : Act → World → Prop} {c : Code} (hc : regOf (Tryz.f53.body.getD .skip) 8 = some c) (a : Act) {v : Vxo} {wq : World} {k : Nat} (hF : Fxo a v) (h9v : v.v9 = .int .i64 (k : Int)) (hk : k ≤ 1000000) (hQ : ∀ a', Fxo a' { v with v9 := .int .i64 ((k + 1 : Nat) : Int) } → K a' wq) :
    Code.wp Tryz.prog c (Exit.then K fun _ _ _ => False) a wq := by
  have HQ := hide hQ
  clear hQ
  obtain ⟨v0, v1, v4, v5, v6, v7, v8, v9, v10, v11, v12⟩ := v
  simp only at h9v HQ
  subst h9v
  obtain ⟨u, rfl⟩ := frx_xo hF
  clear hF
  simp only [Tryz.f53, Option.getD_some, regOf] at hc
  injection hc with hc
  subst hc
  have hc : ((k + 1 : Nat) : Int) = (k : Int) + 1 := by omega
  rw [hc] at HQ
  go_wp2
  exact HQ.out _ ⟨rfl, rfl, rfl, rfl, rfl, rfl, rfl, rfl, rfl, rfl, rfl, rfl, rfl⟩
theorem xo_r22 {K : Act → World → Prop} {c : Code} (hc : regOf (Tryz.f53.body.getD .skip) 22 = some c) (a : Act) {v : Vxo} {wq : World} {k : Nat} (hF : Fxo a v) (h8v : v.v8 = .int .i64 (k : Int)) (hk : k ≤ 1000000) (hQ : ∀ a', Fxo a' { v with v8 := .int .i64 ((k + 5 : Nat) : Int) } → K a' wq) :
    Code.wp Tryz.prog c (Exit.then K fun _ _ _ => False) a wq := by
  have HQ := hide hQ
  clear hQ
  obtain ⟨v0, v1, v4, v5, v6, v7, v8, v9, v10, v11, v12⟩ := v
  simp only at h8v HQ
  subst h8v
  obtain ⟨u, rfl⟩ := frx_xo hF
  clear hF
  simp only [Tryz.f53, Option.getD_some, regOf] at hc
  injection hc with hc
  subst hc
  have hc : ((k + 5 : Nat) : Int) = (k : Int) + 5 := by omega
  rw [hc] at HQ
  go_wp2
  exact HQ.out _ ⟨rfl, rfl, rfl, rfl, rfl, rfl, rfl, rfl, rfl, rfl, rfl, rfl, rfl⟩
theorem xo_r14n {K : Act → World → Prop} {c : Code} (hc : regOf (Tryz.f53.body.getD .skip) 14 = some c) (a : Act) {v : Vxo} {wq : World} {g n cp at9 : Nat} (hF : Fxo a v) (h0v : v.v0 = .slice (some ⟨g, 0, none⟩) n cp) (h8v : v.v8 = .int .i64 (at9 : Int)) (hk : ¬ (at9 : Int) < (n : Int)) (hQ : ∀ a', Fxo a' v → a'.tmps.getD 144 undef = .bool false → K a' wq) :
    Code.wp Tryz.prog c (Exit.then K fun _ _ _ => False) a wq := by
  have HQ := hide hQ
  clear hQ
  obtain ⟨v0, v1, v4, v5, v6, v7, v8, v9, v10, v11, v12⟩ := v
  simp only at h0v h8v HQ
  subst h0v h8v
  obtain ⟨u, rfl⟩ := frx_xo hF
  clear hF
  simp only [Tryz.f53, Option.getD_some, regOf] at hc
  injection hc with hc
  subst hc
  have hd : decide ((at9 : Int) < (n : Int)) = false := decide_eq_false hk
  go_wp2
  exact HQ.out _ ⟨rfl, rfl, rfl, rfl, rfl, rfl, rfl, rfl, rfl, rfl, rfl, rfl, rfl⟩ (by first | rfl | (simp; done))
theorem xo_r14y {K : Act → World → Prop} {c : Code} (hc : regOf (Tryz.f53.body.getD .skip) 14 = some c) (a : Act) {v : Vxo} {wq : World} {g n cp at9 : Nat} (hF : Fxo a v) (h0v : v.v0 = .slice (some ⟨g, 0, none⟩) n cp) (h8v : v.v8 = .int .i64 (at9 : Int)) (hk : (at9 : Int) < (n : Int)) (hQ : ∀ a', Fxo a' v → a'.tmps.getD 144 undef = .bool true → K a' wq) :
    Code.wp Tryz.prog c (Exit.then K fun _ _ _ => False) a wq := by
  have HQ := hide hQ
  clear hQ
  obtain ⟨v0, v1, v4, v5, v6, v7, v8, v9, v10, v11, v12⟩ := v
  simp only at h0v h8v HQ
  subst h0v h8v
  obtain ⟨u, rfl⟩ := frx_xo hF
  clear hF
  simp only [Tryz.f53, Option.getD_some, regOf] at hc
  injection hc with hc
  subst hc
  have hd : decide ((at9 : Int) < (n : Int)) = true := decide_eq_true hk
  go_wp2
  exact HQ.out _ ⟨rfl, rfl, rfl, rfl, rfl, rfl, rfl, rfl, rfl, rfl, rfl, rfl, rfl⟩ (by first | rfl | (simp; done))
theorem xo_r15a {K : Act → World → Prop} {c : Code} (hc : regOf (Tryz.f53.body.getD .skip) 15 = some c) (a : Act) {v : Vxo} {wq : World} {g n cp at9 : Nat} {of9 : Int} (hF : Fxo a v) (h0v : v.v0 = .slice (some ⟨g, 0, none⟩) n cp) (h8v : v.v8 = .int .i64 (at9 : Int)) (hk : at9 + 5 ≤ n) (hbig : n ≤ 1000000) (y0 : wq.cell? ⟨g, at9 * 3 + 1, none⟩ = some (.int .u64 of9)) (h : of9 > 9007199254740991) (hQ : ∀ a', Fxo a' v → a'.tmps.getD 159 undef = .bool true → K a' wq) :
    Code.wp Tryz.prog c (Exit.then K fun _ _ _ => False) a wq := by
  have HQ := hide hQ
  clear hQ
  obtain ⟨v0, v1, v4, v5, v6, v7, v8, v9, v10, v11, v12⟩ := v
  simp only at h0v h8v HQ
  subst h0v h8v
  obtain ⟨u, rfl⟩ := frx_xo hF
  clear hF
  simp only [Tryz.f53, Option.getD_some, regOf] at hc
  injection hc with hc
  subst hc
  have i0 : (0 : Int) ≤ (at9 : Int) := by omega
  have j0 : (at9 : Int) < (n : Int) := by omega
  have d1 : decide ((9007199254740991 : Int) < of9) = true := decide_eq_true h
  go_wp2
  exact HQ.out _ ⟨rfl, rfl, rfl, rfl, rfl, rfl, rfl, rfl, rfl, rfl, rfl, rfl, rfl⟩ (by first | rfl | (simp; done))
theorem xo_r15b {K : Act → World → Prop} {c : Code} (hc : regOf (Tryz.f53.body.getD .skip) 15 = some c) (a : Act) {v : Vxo} {wq : World} {g n cp at9 : Nat} {of9 sq : Int} (hF : Fxo a v) (h0v : v.v0 = .slice (some ⟨g, 0, none⟩) n cp) (h8v : v.v8 = .int .i64 (at9 : Int)) (hk : at9 + 5 ≤ n) (hbig : n ≤ 1000000) (y0 : wq.cell? ⟨g, at9 * 3 + 1, none⟩ = some (.int .u64 of9)) (y2 : wq.cell? ⟨g, (at9 + 2) * 3 + 1, none⟩ = some (.int .u64 sq)) (h : ¬ of9 > 9007199254740991) (hQ : ∀ a', Fxo a' v → a'.tmps.getD 159 undef = .bool (decide (sq > 9007199254740991)) → K a' wq) :
    Code.wp Tryz.prog c (Exit.then K fun _ _ _ => False) a wq := by
  have HQ := hide hQ
  clear hQ
  obtain ⟨v0, v1, v4, v5, v6, v7, v8, v9, v10, v11, v12⟩ := v
  simp only at h0v h8v HQ
  subst h0v h8v
  obtain ⟨u, rfl⟩ := frx_xo hF
  clear hF
  simp only [Tryz.f53, Option.getD_some, regOf] at hc
  injection hc with hc
  subst hc
  have i0 : (0 : Int) ≤ (at9 : Int) := by omega
  have j0 : (at9 : Int) < (n : Int) := by omega
  have w2 : IntKind.i64.wrap ((at9 : Int) + 2) = ((at9 + 2 : Nat) : Int) := by rw [IntKind.wrap_i64]; omega
  have p2 : (0 : Int) ≤ ((at9 + 2 : Nat) : Int) := by omega
  have q2 : ((at9 + 2 : Nat) : Int) < (n : Int) := by omega
  have d1 : decide ((9007199254740991 : Int) < of9) = false := decide_eq_false h
  go_wp2
  exact HQ.out _ ⟨rfl, rfl, rfl, rfl, rfl, rfl, rfl, rfl, rfl, rfl, rfl, rfl, rfl⟩ (by first | rfl | (simp; done))
theorem xo_r17 {K : Act → World → Prop} {c : Code} (hc : regOf (Tryz.f53.body.getD .skip) 17 = some c) (a : Act) {v : Vxo} {wq : World} {g n cp at9 : Nat} {of9 sq : Int} {pd ky vl : ByteArray} (hF : Fxo a v) (h0v : v.v0 = .slice (some ⟨g, 0, none⟩) n cp) (h8v : v.v8 = .int .i64 (at9 : Int)) (hk : at9 + 5 ≤ n) (hbig : n ≤ 1000000) (y0 : wq.cell? ⟨g, at9 * 3 + 1, none⟩ = some (.int .u64 of9)) (y1 : wq.cell? ⟨g, (at9 + 1) * 3 + 2, none⟩ = some (.string pd)) (y2 : wq.cell? ⟨g, (at9 + 2) * 3 + 1, none⟩ = some (.int .u64 sq)) (y3 : wq.cell? ⟨g, (at9 + 3) * 3 + 2, none⟩ = some (.string ky)) (y4 : wq.cell? ⟨g, (at9 + 4) * 3 + 2, none⟩ = some (.string vl)) (hg : g < wq.heap.size) (h0 : 0 ≤ of9) (h1 : of9 ≤ 9007199254740991) (h2 : 0 ≤ sq) (h3 : sq ≤ 9007199254740991)
    (hQ : ∀ a' w1, Fxo a' { v with v11 := .pointer (some ⟨wq.heap.size, 0, none⟩) } → w1.heap[wq.heap.size]? = some (.cells #[.int .i64 of9, .string pd, .int .i64 sq, .string ky, .string vl] 39 (0, 0)) → Below wq.heap.size wq w1 → K a' w1) :
    Code.wp Tryz.prog c (Exit.then K fun _ _ _ => False) a wq := by
  have HQ := hide hQ
  clear hQ
  obtain ⟨v0, v1, v4, v5, v6, v7, v8, v9, v10, v11, v12⟩ := v
  simp only at h0v h8v HQ
  subst h0v h8v
  obtain ⟨u, rfl⟩ := frx_xo hF
  clear hF
  simp only [Tryz.f53, Option.getD_some, regOf] at hc
  injection hc with hc
  subst hc
  have i0 : (0 : Int) ≤ (at9 : Int) := by omega
  have j0 : (at9 : Int) < (n : Int) := by omega
  have w1 : IntKind.i64.wrap ((at9 : Int) + 1) = ((at9 + 1 : Nat) : Int) := by rw [IntKind.wrap_i64]; omega
  have p1 : (0 : Int) ≤ ((at9 + 1 : Nat) : Int) := by omega
  have q1 : ((at9 + 1 : Nat) : Int) < (n : Int) := by omega
  have w2 : IntKind.i64.wrap ((at9 : Int) + 2) = ((at9 + 2 : Nat) : Int) := by rw [IntKind.wrap_i64]; omega
  have p2 : (0 : Int) ≤ ((at9 + 2 : Nat) : Int) := by omega
  have q2 : ((at9 + 2 : Nat) : Int) < (n : Int) := by omega
  have w3 : IntKind.i64.wrap ((at9 : Int) + 3) = ((at9 + 3 : Nat) : Int) := by rw [IntKind.wrap_i64]; omega
  have p3 : (0 : Int) ≤ ((at9 + 3 : Nat) : Int) := by omega
  have q3 : ((at9 + 3 : Nat) : Int) < (n : Int) := by omega
  have w4 : IntKind.i64.wrap ((at9 : Int) + 4) = ((at9 + 4 : Nat) : Int) := by rw [IntKind.wrap_i64]; omega
  have p4 : (0 : Int) ≤ ((at9 + 4 : Nat) : Int) := by omega
  have q4 : ((at9 + 4 : Nat) : Int) < (n : Int) := by omega
  have w7 : IntKind.i64.wrap of9 = of9 := by rw [IntKind.wrap_i64]; omega
  have x7 : wrap64 of9 = of9 := by unfold wrap64; omega
  have w8 : IntKind.i64.wrap sq = sq := by rw [IntKind.wrap_i64]; omega
  have x8 : wrap64 sq = sq := by unfold wrap64; omega
  clear h0 h1 h2 h3 hk
  go_region
  refine HQ.out _ _ ⟨rfl, rfl, rfl, rfl, rfl, rfl, rfl, rfl, rfl, rfl, rfl, rfl, rfl⟩ ?_ ?_
  · exact heap_alloc_new _ _
  · exact ((Below.refl _ _).alloc (Nat.le_refl _) _).drew
theorem xo_r18 {K : Act → World → Prop} {c : Code} (hc : regOf (Tryz.f53.body.getD .skip) 18 = some c) (a : Act) {v : Vxo} {wq : World} {R : World → Prop} {rb : Nat} {of9 sq : Int} {pd ky vl : ByteArray} {b : Bool} (hF : Fxo a v) (h11v : v.v11 = .pointer (some ⟨rb, 0, none⟩)) (hB : wq.heap[rb]? = some (.cells #[.int .i64 of9, .string pd, .int .i64 sq, .string ky, .string vl] 39 (0, 0))) (hE : Calls Tryz.prog 82 #[.agg #[.int .i64 of9, .string pd, .int .i64 sq, .string ky, .string vl]] wq fun e w' => e = .returned (.bool b) ∧ R w')
    (hQ : ∀ a' w1, Fxo a' { v with v12 := .bool b } → R w1 → K a' w1) :
    Code.wp Tryz.prog c (Exit.then K fun _ _ _ => False) a wq := by
  have HQ := hide hQ
  clear hQ
  obtain ⟨v0, v1, v4, v5, v6, v7, v8, v9, v10, v11, v12⟩ := v
  simp only at h11v HQ
  subst h11v
  obtain ⟨u, rfl⟩ := frx_xo hF
  clear hF
  simp only [Tryz.f53, Option.getD_some, regOf] at hc
  injection hc with hc
  subst hc
  have HE := hide hE
  clear hE
  have z0 := box_cell hB 0 rfl
  have z1 := box_cell hB 1 rfl
  have z2 := box_cell hB 2 rfl
  have z3 := box_cell hB 3 rfl
  have z4 := box_cell hB 4 rfl
  clear hB
  go_wp2_with (go_at_call 82; refine HE.out.mono ?_; rintro e w1 ⟨rfl, r1⟩; have R1 := hide r1; clear r1)
  exact HQ.out _ _ ⟨rfl, rfl, rfl, rfl, rfl, rfl, rfl, rfl, rfl, rfl, rfl, rfl, rfl⟩ R1.out
theorem xo_r19a {K : Act → World → Prop} {c : Code} (hc : regOf (Tryz.f53.body.getD .skip) 19 = some c) (a : Act) {v : Vxo} {wq : World} {rb tb : Nat} (hF : Fxo a v) (h11v : v.v11 = .pointer (some ⟨rb, 0, none⟩)) (h7v : v.v7 = .pointer (some ⟨tb, 0, none⟩)) (h12v : v.v12 = .bool false) 
    (hQ : ∀ a' m, Fxo a' v → a'.tmps.getD 239 undef = .bool true → K a' (wq.drewN m)) :
    Code.wp Tryz.prog c (Exit.then K fun _ _ _ => False) a wq := by
  have HQ := hide hQ
  clear hQ
  obtain ⟨v0, v1, v4, v5, v6, v7, v8, v9, v10, v11, v12⟩ := v
  simp only at h11v h7v h12v HQ
  subst h11v h7v h12v
  obtain ⟨u, rfl⟩ := frx_xo hF
  clear hF
  simp only [Tryz.f53, Option.getD_some, regOf] at hc
  injection hc with hc
  subst hc
  go_quiet (fail)
  go_wp2
  exact HQ.out _ _ ⟨rfl, rfl, rfl, rfl, rfl, rfl, rfl, rfl, rfl, rfl, rfl, rfl, rfl⟩ (by first | rfl | (simp; done))
theorem xo_r19b {K : Act → World → Prop} {c : Code} (hc : regOf (Tryz.f53.body.getD .skip) 19 = some c) (a : Act) {v : Vxo} {wq : World} {rb : Nat} {of9 sq : Int} {pd ky vl : ByteArray} {tb : Nat} {lo fi : Int} (hF : Fxo a v) (h11v : v.v11 = .pointer (some ⟨rb, 0, none⟩)) (h7v : v.v7 = .pointer (some ⟨tb, 0, none⟩)) (h12v : v.v12 = .bool true) (hB : wq.heap[rb]? = some (.cells #[.int .i64 of9, .string pd, .int .i64 sq, .string ky, .string vl] 39 (0, 0))) (t1 : wq.cell? ⟨tb, 1, none⟩ = some (.int .i64 lo)) (t2 : wq.cell? ⟨tb, 2, none⟩ = some (.int .i64 fi)) (h : of9 < lo) 
    (hQ : ∀ a' m, Fxo a' v → a'.tmps.getD 239 undef = .bool true → K a' (wq.drewN m)) :
    Code.wp Tryz.prog c (Exit.then K fun _ _ _ => False) a wq := by
  have HQ := hide hQ
  clear hQ
  obtain ⟨v0, v1, v4, v5, v6, v7, v8, v9, v10, v11, v12⟩ := v
  simp only at h11v h7v h12v HQ
  subst h11v h7v h12v
  obtain ⟨u, rfl⟩ := frx_xo hF
  clear hF
  simp only [Tryz.f53, Option.getD_some, regOf] at hc
  injection hc with hc
  subst hc
  have z0 := box_cell hB 0 rfl
  clear hB
  have d1 : decide (of9 < lo) = true := decide_eq_true h
  go_quiet (fail)
  go_wp2
  exact HQ.out _ _ ⟨rfl, rfl, rfl, rfl, rfl, rfl, rfl, rfl, rfl, rfl, rfl, rfl, rfl⟩ (by first | rfl | (simp; done))
theorem xo_r19c {K : Act → World → Prop} {c : Code} (hc : regOf (Tryz.f53.body.getD .skip) 19 = some c) (a : Act) {v : Vxo} {wq : World} {rb : Nat} {of9 sq : Int} {pd ky vl : ByteArray} {tb : Nat} {lo fi : Int} (hF : Fxo a v) (h11v : v.v11 = .pointer (some ⟨rb, 0, none⟩)) (h7v : v.v7 = .pointer (some ⟨tb, 0, none⟩)) (h12v : v.v12 = .bool true) (hB : wq.heap[rb]? = some (.cells #[.int .i64 of9, .string pd, .int .i64 sq, .string ky, .string vl] 39 (0, 0))) (t1 : wq.cell? ⟨tb, 1, none⟩ = some (.int .i64 lo)) (t2 : wq.cell? ⟨tb, 2, none⟩ = some (.int .i64 fi)) (h : ¬ of9 < lo) (h2 : of9 ≥ fi) 
    (hQ : ∀ a' m, Fxo a' v → a'.tmps.getD 239 undef = .bool true → K a' (wq.drewN m)) :
    Code.wp Tryz.prog c (Exit.then K fun _ _ _ => False) a wq := by
  have HQ := hide hQ
  clear hQ
  obtain ⟨v0, v1, v4, v5, v6, v7, v8, v9, v10, v11, v12⟩ := v
  simp only at h11v h7v h12v HQ
  subst h11v h7v h12v
  obtain ⟨u, rfl⟩ := frx_xo hF
  clear hF
  simp only [Tryz.f53, Option.getD_some, regOf] at hc
  injection hc with hc
  subst hc
  have z0 := box_cell hB 0 rfl
  clear hB
  have d1 : decide (of9 < lo) = false := decide_eq_false h
  have d2 : decide (fi ≤ of9) = true := decide_eq_true h2
  go_quiet (fail)
  go_wp2
  exact HQ.out _ _ ⟨rfl, rfl, rfl, rfl, rfl, rfl, rfl, rfl, rfl, rfl, rfl, rfl, rfl⟩ (by first | rfl | (simp; done))
theorem xo_r19d {K : Act → World → Prop} {c : Code} (hc : regOf (Tryz.f53.body.getD .skip) 19 = some c) (a : Act) {v : Vxo} {wq : World} {rb : Nat} {of9 sq : Int} {pd ky vl : ByteArray} {tb rc : Nat} {ro : Option Addr} {lo fi : Int} (hF : Fxo a v) (h11v : v.v11 = .pointer (some ⟨rb, 0, none⟩)) (h7v : v.v7 = .pointer (some ⟨tb, 0, none⟩)) (h12v : v.v12 = .bool true) (hB : wq.heap[rb]? = some (.cells #[.int .i64 of9, .string pd, .int .i64 sq, .string ky, .string vl] 39 (0, 0))) (t1 : wq.cell? ⟨tb, 1, none⟩ = some (.int .i64 lo)) (t2 : wq.cell? ⟨tb, 2, none⟩ = some (.int .i64 fi)) (t4 : wq.cell? ⟨tb, 4, none⟩ = some (.slice ro 0 rc)) (h : ¬ of9 < lo) (h2 : ¬ of9 ≥ fi) 
    (hQ : ∀ a' m, Fxo a' v → a'.tmps.getD 239 undef = .bool false → K a' (wq.drewN m)) :
    Code.wp Tryz.prog c (Exit.then K fun _ _ _ => False) a wq := by
  have HQ := hide hQ
  clear hQ
  obtain ⟨v0, v1, v4, v5, v6, v7, v8, v9, v10, v11, v12⟩ := v
  simp only at h11v h7v h12v HQ
  subst h11v h7v h12v
  obtain ⟨u, rfl⟩ := frx_xo hF
  clear hF
  simp only [Tryz.f53, Option.getD_some, regOf] at hc
  injection hc with hc
  subst hc
  have z0 := box_cell hB 0 rfl
  clear hB
  have d1 : decide (of9 < lo) = false := decide_eq_false h
  have d2 : decide (fi ≤ of9) = false := decide_eq_false h2
  go_quiet (fail)
  go_wp2
  exact HQ.out _ _ ⟨rfl, rfl, rfl, rfl, rfl, rfl, rfl, rfl, rfl, rfl, rfl, rfl, rfl⟩ (by first | rfl | (simp; done))
theorem xo_r19e {K : Act → World → Prop} {c : Code} (hc : regOf (Tryz.f53.body.getD .skip) 19 = some c) (a : Act) {v : Vxo} {wq : World} {rb : Nat} {of9 sq : Int} {pd ky vl : ByteArray} {tb g2 o2 j rc : Nat} {lo fi lx : Int} (hF : Fxo a v) (h11v : v.v11 = .pointer (some ⟨rb, 0, none⟩)) (h7v : v.v7 = .pointer (some ⟨tb, 0, none⟩)) (h12v : v.v12 = .bool true) (hB : wq.heap[rb]? = some (.cells #[.int .i64 of9, .string pd, .int .i64 sq, .string ky, .string vl] 39 (0, 0))) (t1 : wq.cell? ⟨tb, 1, none⟩ = some (.int .i64 lo)) (t2 : wq.cell? ⟨tb, 2, none⟩ = some (.int .i64 fi)) (t4 : wq.cell? ⟨tb, 4, none⟩ = some (.slice (some ⟨g2, o2, none⟩) j rc)) (hl : wq.cell? ⟨g2, o2 + (j - 1) * 5, none⟩ = some (.int .i64 lx)) (h : ¬ of9 < lo) (h2 : ¬ of9 ≥ fi) (hj : 0 < j) (hj2 : j ≤ 1000000) 
    (hQ : ∀ a' m, Fxo a' v → a'.tmps.getD 239 undef = .bool (decide (of9 ≤ lx)) → K a' (wq.drewN m)) :
    Code.wp Tryz.prog c (Exit.then K fun _ _ _ => False) a wq := by
  have HQ := hide hQ
  clear hQ
  obtain ⟨v0, v1, v4, v5, v6, v7, v8, v9, v10, v11, v12⟩ := v
  simp only at h11v h7v h12v HQ
  subst h11v h7v h12v
  obtain ⟨u, rfl⟩ := frx_xo hF
  clear hF
  simp only [Tryz.f53, Option.getD_some, regOf] at hc
  injection hc with hc
  subst hc
  have z0 := box_cell hB 0 rfl
  clear hB
  have d1 : decide (of9 < lo) = false := decide_eq_false h
  have d2 : decide (fi ≤ of9) = false := decide_eq_false h2
  have w9 : IntKind.i64.wrap ((j : Int) - 1) = ((j - 1 : Nat) : Int) := by rw [IntKind.wrap_i64]; omega
  have p9 : (0 : Int) ≤ ((j - 1 : Nat) : Int) := by omega
  have q9 : ((j - 1 : Nat) : Int) < (j : Int) := by omega
  have d9 : decide ((0 : Int) < (j : Int)) = true := decide_eq_true (by omega)
  go_quiet (fail)
  go_wp2
  exact HQ.out _ _ ⟨rfl, rfl, rfl, rfl, rfl, rfl, rfl, rfl, rfl, rfl, rfl, rfl, rfl⟩ (by first | rfl | (simp; done))
theorem xo_r23 {K : Act → World → Prop} {c : Code} (hc : regOf (Tryz.f53.body.getD .skip) 23 = some c) (a : Act) {v : Vxo} {wq : World}  (hF : Fxo a v) (hQ : ∀ a', Fxo a' { v with v4 := v.v7, v5 := .bool true } → K a' wq) :
    Code.wp Tryz.prog c (Exit.then K fun _ _ _ => False) a wq := by
  have HQ := hide hQ
  clear hQ
  obtain ⟨v0, v1, v4, v5, v6, v7, v8, v9, v10, v11, v12⟩ := v
  obtain ⟨u, rfl⟩ := frx_xo hF
  clear hF
  simp only [Tryz.f53, Option.getD_some, regOf] at hc
  injection hc with hc
  subst hc
  go_wp2
  exact HQ.out _ ⟨rfl, rfl, rfl, rfl, rfl, rfl, rfl, rfl, rfl, rfl, rfl, rfl, rfl⟩
theorem xo_ret {W : World} {a : Act} {v : Vxo} {p : Option Addr} {b : Bool} {R : Ending → World → Prop} (hF : Fxo a v) (h4 : v.v4 = .pointer p) (h5 : v.v5 = .bool b) (h : R (.returned (.tuple #[.pointer p, .bool b])) W) : bodyPost Tryz.prog Tryz.f53 R .ret a W := by
  have g4 := slot_get (hF.s4.trans h4)
  have g5 := slot_get (hF.s5.trans h5)
  refine bodyPost_ret (v := .tuple #[.pointer p, .bool b]) ?_ hF.defers h
  simp [results, Tryz.results53, go_sem, g4, g5]
end Go.Proofs.YtfoomgdlbkjaeaaGreat.Y
