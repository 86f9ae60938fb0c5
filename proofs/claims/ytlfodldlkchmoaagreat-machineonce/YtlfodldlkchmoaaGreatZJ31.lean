/-
  MachineOnce's regions (mkj31.py).
-/
import Derived.Test.YtlfodldlkchmoaaGreatZJ24
import Derived.Test.YtlfodldlkchmoaaGreatZPhiT
import Derived.Laws.StructEq
namespace Go.Proofs.YtlfodldlkchmoaaGreat.Y
open Go.RowKit
set_option maxHeartbeats 8000000
set_option maxRecDepth 100000
attribute [local go_sem ↓] Go.wp_at_zero Go.wp_at_succ
set_option linter.unusedSimpArgs false
set_option linter.unusedVariables false
open Go.Maps
theorem frame_on (t : Array Value) (h : t.size = 184) : ∃ u : Nat → Value, t = List.toArray (u 0 :: u 1 :: u 2 :: u 3 :: u 4 :: u 5 :: u 6 :: u 7 :: u 8 :: u 9 :: u 10 :: u 11 :: u 12 :: u 13 :: u 14 :: u 15 :: u 16 :: u 17 :: u 18 :: u 19 :: u 20 :: u 21 :: u 22 :: u 23 :: u 24 :: u 25 :: u 26 :: u 27 :: u 28 :: u 29 :: u 30 :: u 31 :: u 32 :: u 33 :: u 34 :: u 35 :: u 36 :: u 37 :: u 38 :: u 39 :: u 40 :: u 41 :: u 42 :: u 43 :: u 44 :: u 45 :: u 46 :: u 47 :: u 48 :: u 49 :: u 50 :: u 51 :: u 52 :: u 53 :: u 54 :: u 55 :: u 56 :: u 57 :: u 58 :: u 59 :: u 60 :: u 61 :: u 62 :: u 63 :: u 64 :: u 65 :: u 66 :: u 67 :: u 68 :: u 69 :: u 70 :: u 71 :: u 72 :: u 73 :: u 74 :: u 75 :: u 76 :: u 77 :: u 78 :: u 79 :: u 80 :: u 81 :: u 82 :: u 83 :: u 84 :: u 85 :: u 86 :: u 87 :: u 88 :: u 89 :: u 90 :: u 91 :: u 92 :: u 93 :: u 94 :: u 95 :: u 96 :: u 97 :: u 98 :: u 99 :: u 100 :: u 101 :: u 102 :: u 103 :: u 104 :: u 105 :: u 106 :: u 107 :: u 108 :: u 109 :: u 110 :: u 111 :: u 112 :: u 113 :: u 114 :: u 115 :: u 116 :: u 117 :: u 118 :: u 119 :: u 120 :: u 121 :: u 122 :: u 123 :: u 124 :: u 125 :: u 126 :: u 127 :: u 128 :: u 129 :: u 130 :: u 131 :: u 132 :: u 133 :: u 134 :: u 135 :: u 136 :: u 137 :: u 138 :: u 139 :: u 140 :: u 141 :: u 142 :: u 143 :: u 144 :: u 145 :: u 146 :: u 147 :: u 148 :: u 149 :: u 150 :: u 151 :: u 152 :: u 153 :: u 154 :: u 155 :: u 156 :: u 157 :: u 158 :: u 159 :: u 160 :: u 161 :: u 162 :: u 163 :: u 164 :: u 165 :: u 166 :: u 167 :: u 168 :: u 169 :: u 170 :: u 171 :: u 172 :: u 173 :: u 174 :: u 175 :: u 176 :: u 177 :: u 178 :: u 179 :: u 180 :: u 181 :: u 182 :: u 183 :: []) := by
  refine ⟨fun i => t.getD i undef, ?_⟩
  refine Eq.trans (b := ((List.range 184).map fun i => t.getD i undef).toArray) ?_ rfl
  apply Array.ext
  · simp [h]
  · intro k h1 h2
    simp [Array.getD, h1]
structure Von where
  v0 : Value
  v1 : Value
  v2 : Value
  v4 : Value
  v6 : Value
  v7 : Value
  v8 : Value
  v10 : Value
  v11 : Value
  v12 : Value
  v13 : Value
  v14 : Value
  v15 : Value
  v16 : Value
  v17 : Value
  v18 : Value
  v19 : Value
  v20 : Value
structure Fon (a : Act) (v : Von) : Prop where
  size : a.tmps.size = 184
  defers : a.defers = []
  s0 : a.tmps.getD 0 undef = v.v0
  s1 : a.tmps.getD 1 undef = v.v1
  s2 : a.tmps.getD 2 undef = v.v2
  s4 : a.tmps.getD 4 undef = v.v4
  s6 : a.tmps.getD 6 undef = v.v6
  s7 : a.tmps.getD 7 undef = v.v7
  s8 : a.tmps.getD 8 undef = v.v8
  s10 : a.tmps.getD 10 undef = v.v10
  s11 : a.tmps.getD 11 undef = v.v11
  s12 : a.tmps.getD 12 undef = v.v12
  s13 : a.tmps.getD 13 undef = v.v13
  s14 : a.tmps.getD 14 undef = v.v14
  s15 : a.tmps.getD 15 undef = v.v15
  s16 : a.tmps.getD 16 undef = v.v16
  s17 : a.tmps.getD 17 undef = v.v17
  s18 : a.tmps.getD 18 undef = v.v18
  s19 : a.tmps.getD 19 undef = v.v19
  s20 : a.tmps.getD 20 undef = v.v20
theorem frx_on {a : Act} {v0 v1 v2 v4 v6 v7 v8 v10 v11 v12 v13 v14 v15 v16 v17 v18 v19 v20 : Value} (h : Fon a ⟨v0, v1, v2, v4, v6, v7, v8, v10, v11, v12, v13, v14, v15, v16, v17, v18, v19, v20⟩) : ∃ u : Nat → Value, a = ⟨List.toArray (v0 :: v1 :: v2 :: u 3 :: v4 :: u 5 :: v6 :: v7 :: v8 :: u 9 :: v10 :: v11 :: v12 :: v13 :: v14 :: v15 :: v16 :: v17 :: v18 :: v19 :: v20 :: u 21 :: u 22 :: u 23 :: u 24 :: u 25 :: u 26 :: u 27 :: u 28 :: u 29 :: u 30 :: u 31 :: u 32 :: u 33 :: u 34 :: u 35 :: u 36 :: u 37 :: u 38 :: u 39 :: u 40 :: u 41 :: u 42 :: u 43 :: u 44 :: u 45 :: u 46 :: u 47 :: u 48 :: u 49 :: u 50 :: u 51 :: u 52 :: u 53 :: u 54 :: u 55 :: u 56 :: u 57 :: u 58 :: u 59 :: u 60 :: u 61 :: u 62 :: u 63 :: u 64 :: u 65 :: u 66 :: u 67 :: u 68 :: u 69 :: u 70 :: u 71 :: u 72 :: u 73 :: u 74 :: u 75 :: u 76 :: u 77 :: u 78 :: u 79 :: u 80 :: u 81 :: u 82 :: u 83 :: u 84 :: u 85 :: u 86 :: u 87 :: u 88 :: u 89 :: u 90 :: u 91 :: u 92 :: u 93 :: u 94 :: u 95 :: u 96 :: u 97 :: u 98 :: u 99 :: u 100 :: u 101 :: u 102 :: u 103 :: u 104 :: u 105 :: u 106 :: u 107 :: u 108 :: u 109 :: u 110 :: u 111 :: u 112 :: u 113 :: u 114 :: u 115 :: u 116 :: u 117 :: u 118 :: u 119 :: u 120 :: u 121 :: u 122 :: u 123 :: u 124 :: u 125 :: u 126 :: u 127 :: u 128 :: u 129 :: u 130 :: u 131 :: u 132 :: u 133 :: u 134 :: u 135 :: u 136 :: u 137 :: u 138 :: u 139 :: u 140 :: u 141 :: u 142 :: u 143 :: u 144 :: u 145 :: u 146 :: u 147 :: u 148 :: u 149 :: u 150 :: u 151 :: u 152 :: u 153 :: u 154 :: u 155 :: u 156 :: u 157 :: u 158 :: u 159 :: u 160 :: u 161 :: u 162 :: u 163 :: u 164 :: u 165 :: u 166 :: u 167 :: u 168 :: u 169 :: u 170 :: u 171 :: u 172 :: u 173 :: u 174 :: u 175 :: u 176 :: u 177 :: u 178 :: u 179 :: u 180 :: u 181 :: u 182 :: u 183 :: []), []⟩ := by
  obtain ⟨t', d'⟩ := a
  obtain ⟨hs, hd, q0, q1, q2, q4, q6, q7, q8, q10, q11, q12, q13, q14, q15, q16, q17, q18, q19, q20⟩ := h
  obtain ⟨u, hu⟩ := frame_on t' hs
  simp only at hd q0 q1 q2 q4 q6 q7 q8 q10 q11 q12 q13 q14 q15 q16 q17 q18 q19 q20
  subst hu hd
  have e0 : u 0 = v0 := q0
  have e1 : u 1 = v1 := q1
  have e2 : u 2 = v2 := q2
  have e4 : u 4 = v4 := q4
  have e6 : u 6 = v6 := q6
  have e7 : u 7 = v7 := q7
  have e8 : u 8 = v8 := q8
  have e10 : u 10 = v10 := q10
  have e11 : u 11 = v11 := q11
  have e12 : u 12 = v12 := q12
  have e13 : u 13 = v13 := q13
  have e14 : u 14 = v14 := q14
  have e15 : u 15 = v15 := q15
  have e16 : u 16 = v16 := q16
  have e17 : u 17 = v17 := q17
  have e18 : u 18 = v18 := q18
  have e19 : u 19 = v19 := q19
  have e20 : u 20 = v20 := q20
  refine ⟨u, ?_⟩
  rw [e0, e1, e2, e4, e6, e7, e8, e10, e11, e12, e13, e14, e15, e16, e17, e18, e19, e20]
theorem on_r0 {K : Act → World → Prop} {c : Code} (hc : regOf (Tryz.f5.body.getD .skip) 0 = some c) (a : Act) {v : Von} {wq : World} {cm : CM} (hF : Fon a v) (h1v : v.v1 = .agg #[.int .i64 cm.kind, .string cm.topic, .string cm.name, .int .i64 cm.seq, .string cm.key, .string cm.val, .int .i64 cm.n, .int .i64 cm.node, .int .i64 cm.ask]) (hQ : ∀ a', Fon a' { v with v4 := .pointer (some ⟨wq.heap.size, 0, none⟩), v6 := .bool false } → K a' (wq.alloc (.cells #[.int .i64 cm.kind, .string cm.topic, .string cm.name, .int .i64 cm.seq, .string cm.key, .string cm.val, .int .i64 cm.n, .int .i64 cm.node, .int .i64 cm.ask] 31))) :
    Code.wp Tryz.prog c (Exit.then K fun _ _ _ => False) a wq := by
  have HQ := hide hQ
  clear hQ
  obtain ⟨v0, v1, v2, v4, v6, v7, v8, v10, v11, v12, v13, v14, v15, v16, v17, v18, v19, v20⟩ := v
  simp only at h1v HQ
  subst h1v
  obtain ⟨u, rfl⟩ := frx_on hF
  clear hF
  simp only [Tryz.f5, Option.getD_some, regOf] at hc
  injection hc with hc
  subst hc
  go_wp2
  exact HQ.out _ ⟨rfl, rfl, rfl, rfl, rfl, rfl, rfl, rfl, rfl, rfl, rfl, rfl, rfl, rfl, rfl, rfl, rfl, rfl, rfl, rfl⟩
theorem on_r1 {K : Act → World → Prop} {c : Code} (hc : regOf (Tryz.f5.body.getD .skip) 1 = some c) (a : Act) {v : Von} {wq : World}  (hF : Fon a v) (hE : Calls Tryz.prog 8 #[] wq fun e w' => e = .returned (.bool true) ∧ Below wq.heap.size wq w')
    (hQ : ∀ a' w1, Fon a' { v with v7 := .bool true } → Below wq.heap.size wq w1 → K a' w1) :
    Code.wp Tryz.prog c (Exit.then K fun _ _ _ => False) a wq := by
  have HQ := hide hQ
  clear hQ
  obtain ⟨v0, v1, v2, v4, v6, v7, v8, v10, v11, v12, v13, v14, v15, v16, v17, v18, v19, v20⟩ := v
  obtain ⟨u, rfl⟩ := frx_on hF
  clear hF
  simp only [Tryz.f5, Option.getD_some, regOf] at hc
  injection hc with hc
  subst hc
  have HE := hide hE
  clear hE
  go_wp2_with (go_at_call 8; refine HE.out.mono ?_; rintro e w1 ⟨rfl, b1⟩; have B1 := hide b1; clear b1)
  exact HQ.out _ _ ⟨rfl, rfl, rfl, rfl, rfl, rfl, rfl, rfl, rfl, rfl, rfl, rfl, rfl, rfl, rfl, rfl, rfl, rfl, rfl, rfl⟩ B1.out
theorem on_r2 {K : Act → World → Prop} {c : Code} (hc : regOf (Tryz.f5.body.getD .skip) 2 = some c) (a : Act) {v : Von} {wq : World} {ec : Int} {R : Option Addr → World → Prop} (hF : Fon a v) (hE : Calls Tryz.prog 9 #[.int .i64 3] wq fun e w' => ∃ po, e = .returned (.tuple #[.pointer po, .int .i64 ec]) ∧ R po w')
    (hQ : ∀ a' w1 po, Fon a' { v with v8 := .pointer po } → R po w1 → K a' w1) :
    Code.wp Tryz.prog c (Exit.then K fun _ _ _ => False) a wq := by
  have HQ := hide hQ
  clear hQ
  obtain ⟨v0, v1, v2, v4, v6, v7, v8, v10, v11, v12, v13, v14, v15, v16, v17, v18, v19, v20⟩ := v
  obtain ⟨u, rfl⟩ := frx_on hF
  clear hF
  simp only [Tryz.f5, Option.getD_some, regOf] at hc
  injection hc with hc
  subst hc
  have HE := hide hE
  clear hE
  go_wp2_with (go_at_call 9; refine HE.out.mono ?_; rintro e w1 ⟨po, rfl, r1⟩; have R1 := hide r1; clear r1)
  exact HQ.out _ _ _ ⟨rfl, rfl, rfl, rfl, rfl, rfl, rfl, rfl, rfl, rfl, rfl, rfl, rfl, rfl, rfl, rfl, rfl, rfl, rfl, rfl⟩ R1.out
theorem on_r3 {K : Act → World → Prop} {c : Code} (hc : regOf (Tryz.f5.body.getD .skip) 3 = some c) (a : Act) {v : Von} {wq : World} {mb : Nat} (hF : Fon a v) (h8v : v.v8 = .pointer (some ⟨mb, 0, none⟩)) (hQ : ∀ a', Fon a' v → a'.tmps.getD 27 undef = .bool false → K a' wq) :
    Code.wp Tryz.prog c (Exit.then K fun _ _ _ => False) a wq := by
  have HQ := hide hQ
  clear hQ
  obtain ⟨v0, v1, v2, v4, v6, v7, v8, v10, v11, v12, v13, v14, v15, v16, v17, v18, v19, v20⟩ := v
  simp only at h8v HQ
  subst h8v
  obtain ⟨u, rfl⟩ := frx_on hF
  clear hF
  simp only [Tryz.f5, Option.getD_some, regOf] at hc
  injection hc with hc
  subst hc
  go_wp2
  exact HQ.out _ ⟨rfl, rfl, rfl, rfl, rfl, rfl, rfl, rfl, rfl, rfl, rfl, rfl, rfl, rfl, rfl, rfl, rfl, rfl, rfl, rfl⟩ (by first | rfl | (simp; done))
theorem on_r5 {K : Act → World → Prop} {c : Code} (hc : regOf (Tryz.f5.body.getD .skip) 5 = some c) (a : Act) {v : Von} {wq : World}  (hF : Fon a v) (hQ : ∀ a', Fon a' { v with v10 := .int .i64 ((0 : Nat) : Int) } → K a' wq) :
    Code.wp Tryz.prog c (Exit.then K fun _ _ _ => False) a wq := by
  have HQ := hide hQ
  clear hQ
  obtain ⟨v0, v1, v2, v4, v6, v7, v8, v10, v11, v12, v13, v14, v15, v16, v17, v18, v19, v20⟩ := v
  obtain ⟨u, rfl⟩ := frx_on hF
  clear hF
  simp only [Tryz.f5, Option.getD_some, regOf] at hc
  injection hc with hc
  subst hc
  go_wp2
  exact HQ.out _ ⟨rfl, rfl, rfl, rfl, rfl, rfl, rfl, rfl, rfl, rfl, rfl, rfl, rfl, rfl, rfl, rfl, rfl, rfl, rfl, rfl⟩
theorem on_r6n {K : Act → World → Prop} {c : Code} (hc : regOf (Tryz.f5.body.getD .skip) 6 = some c) (a : Act) {v : Von} {wq : World} {ao : Option Addr} {n cp k : Nat} (hF : Fon a v) (h0v : v.v0 = .slice ao n cp) (h10v : v.v10 = .int .i64 (k : Int)) (hk : ¬ (k : Int) < (n : Int)) (hQ : ∀ a', Fon a' v → a'.tmps.getD 35 undef = .bool false → K a' wq) :
    Code.wp Tryz.prog c (Exit.then K fun _ _ _ => False) a wq := by
  have HQ := hide hQ
  clear hQ
  obtain ⟨v0, v1, v2, v4, v6, v7, v8, v10, v11, v12, v13, v14, v15, v16, v17, v18, v19, v20⟩ := v
  simp only at h0v h10v HQ
  subst h0v h10v
  obtain ⟨u, rfl⟩ := frx_on hF
  clear hF
  simp only [Tryz.f5, Option.getD_some, regOf] at hc
  injection hc with hc
  subst hc
  have hd : decide ((k : Int) < (n : Int)) = false := decide_eq_false hk
  go_wp2
  exact HQ.out _ ⟨rfl, rfl, rfl, rfl, rfl, rfl, rfl, rfl, rfl, rfl, rfl, rfl, rfl, rfl, rfl, rfl, rfl, rfl, rfl, rfl⟩ (by first | rfl | (simp; done))
theorem on_r6y {K : Act → World → Prop} {c : Code} (hc : regOf (Tryz.f5.body.getD .skip) 6 = some c) (a : Act) {v : Von} {wq : World} {ao : Option Addr} {n cp k : Nat} (hF : Fon a v) (h0v : v.v0 = .slice ao n cp) (h10v : v.v10 = .int .i64 (k : Int)) (hk : (k : Int) < (n : Int)) (hQ : ∀ a', Fon a' v → a'.tmps.getD 35 undef = .bool (decide ((k : Int) < 40)) → K a' wq) :
    Code.wp Tryz.prog c (Exit.then K fun _ _ _ => False) a wq := by
  have HQ := hide hQ
  clear hQ
  obtain ⟨v0, v1, v2, v4, v6, v7, v8, v10, v11, v12, v13, v14, v15, v16, v17, v18, v19, v20⟩ := v
  simp only at h0v h10v HQ
  subst h0v h10v
  obtain ⟨u, rfl⟩ := frx_on hF
  clear hF
  simp only [Tryz.f5, Option.getD_some, regOf] at hc
  injection hc with hc
  subst hc
  have hd : decide ((k : Int) < (n : Int)) = true := decide_eq_true hk
  go_wp2
  exact HQ.out _ ⟨rfl, rfl, rfl, rfl, rfl, rfl, rfl, rfl, rfl, rfl, rfl, rfl, rfl, rfl, rfl, rfl, rfl, rfl, rfl, rfl⟩ (by first | rfl | (simp; done))
theorem on_r17n {K : Act → World → Prop} {c : Code} (hc : regOf (Tryz.f5.body.getD .skip) 17 = some c) (a : Act) {v : Von} {wq : World} {ao : Option Addr} {n cp k : Nat} (hF : Fon a v) (h2v : v.v2 = .slice ao n cp) (h13v : v.v13 = .int .i64 (k : Int)) (hk : ¬ (k : Int) < (n : Int)) (hQ : ∀ a', Fon a' v → a'.tmps.getD 70 undef = .bool false → K a' wq) :
    Code.wp Tryz.prog c (Exit.then K fun _ _ _ => False) a wq := by
  have HQ := hide hQ
  clear hQ
  obtain ⟨v0, v1, v2, v4, v6, v7, v8, v10, v11, v12, v13, v14, v15, v16, v17, v18, v19, v20⟩ := v
  simp only at h2v h13v HQ
  subst h2v h13v
  obtain ⟨u, rfl⟩ := frx_on hF
  clear hF
  simp only [Tryz.f5, Option.getD_some, regOf] at hc
  injection hc with hc
  subst hc
  have hd : decide ((k : Int) < (n : Int)) = false := decide_eq_false hk
  go_wp2
  exact HQ.out _ ⟨rfl, rfl, rfl, rfl, rfl, rfl, rfl, rfl, rfl, rfl, rfl, rfl, rfl, rfl, rfl, rfl, rfl, rfl, rfl, rfl⟩ (by first | rfl | (simp; done))
theorem on_r17y {K : Act → World → Prop} {c : Code} (hc : regOf (Tryz.f5.body.getD .skip) 17 = some c) (a : Act) {v : Von} {wq : World} {ao : Option Addr} {n cp k : Nat} (hF : Fon a v) (h2v : v.v2 = .slice ao n cp) (h13v : v.v13 = .int .i64 (k : Int)) (hk : (k : Int) < (n : Int)) (hQ : ∀ a', Fon a' v → a'.tmps.getD 70 undef = .bool (decide ((k : Int) < 40)) → K a' wq) :
    Code.wp Tryz.prog c (Exit.then K fun _ _ _ => False) a wq := by
  have HQ := hide hQ
  clear hQ
  obtain ⟨v0, v1, v2, v4, v6, v7, v8, v10, v11, v12, v13, v14, v15, v16, v17, v18, v19, v20⟩ := v
  simp only at h2v h13v HQ
  subst h2v h13v
  obtain ⟨u, rfl⟩ := frx_on hF
  clear hF
  simp only [Tryz.f5, Option.getD_some, regOf] at hc
  injection hc with hc
  subst hc
  have hd : decide ((k : Int) < (n : Int)) = true := decide_eq_true hk
  go_wp2
  exact HQ.out _ ⟨rfl, rfl, rfl, rfl, rfl, rfl, rfl, rfl, rfl, rfl, rfl, rfl, rfl, rfl, rfl, rfl, rfl, rfl, rfl, rfl⟩ (by first | rfl | (simp; done))
theorem on_r8 {K : Act → World → Prop} {c : Code} (hc : regOf (Tryz.f5.body.getD .skip) 8 = some c) (a : Act) {v : Von} {wq : World} {db df n cp k : Nat} {de : GD} (hF : Fon a v) (h0v : v.v0 = .slice (some ⟨db, df, none⟩) n cp) (h10v : v.v10 = .int .i64 (k : Int)) (hk : k < n) (hD : GDAt wq db (df + k * 10) de)
    (hQ : ∀ a', Fon a' { v with v11 := .pointer (some ⟨wq.heap.size, 0, none⟩) } → K a' (wq.alloc (.cells #[.int .i64 de.c.kind, .string de.c.topic, .string de.c.name, .int .i64 de.c.seq, .string de.c.key, .string de.c.val, .int .i64 de.c.n, .int .i64 de.c.node, .int .i64 de.c.ask] 31))) :
    Code.wp Tryz.prog c (Exit.then K fun _ _ _ => False) a wq := by
  have HQ := hide hQ
  clear hQ
  obtain ⟨v0, v1, v2, v4, v6, v7, v8, v10, v11, v12, v13, v14, v15, v16, v17, v18, v19, v20⟩ := v
  simp only at h0v h10v HQ
  subst h0v h10v
  obtain ⟨u, rfl⟩ := frx_on hF
  clear hF
  simp only [Tryz.f5, Option.getD_some, regOf] at hc
  injection hc with hc
  subst hc
  obtain ⟨c0, c1, c2, c3, c4, c5, c6, c7, c8, c9⟩ := hD
  have i0 : (0 : Int) ≤ (k : Int) := by omega
  have i1 : (k : Int) < (n : Int) := by omega
  go_wp2
  exact HQ.out _ ⟨rfl, rfl, rfl, rfl, rfl, rfl, rfl, rfl, rfl, rfl, rfl, rfl, rfl, rfl, rfl, rfl, rfl, rfl, rfl, rfl⟩
theorem on_r19 {K : Act → World → Prop} {c : Code} (hc : regOf (Tryz.f5.body.getD .skip) 19 = some c) (a : Act) {v : Von} {wq : World} {db df n cp k : Nat} {de : GD} (hF : Fon a v) (h2v : v.v2 = .slice (some ⟨db, df, none⟩) n cp) (h13v : v.v13 = .int .i64 (k : Int)) (hk : k < n) (hD : GDAt wq db (df + k * 10) de)
    (hQ : ∀ a', Fon a' { v with v14 := .pointer (some ⟨wq.heap.size, 0, none⟩) } → K a' (wq.alloc (.cells #[.int .i64 de.c.kind, .string de.c.topic, .string de.c.name, .int .i64 de.c.seq, .string de.c.key, .string de.c.val, .int .i64 de.c.n, .int .i64 de.c.node, .int .i64 de.c.ask] 31))) :
    Code.wp Tryz.prog c (Exit.then K fun _ _ _ => False) a wq := by
  have HQ := hide hQ
  clear hQ
  obtain ⟨v0, v1, v2, v4, v6, v7, v8, v10, v11, v12, v13, v14, v15, v16, v17, v18, v19, v20⟩ := v
  simp only at h2v h13v HQ
  subst h2v h13v
  obtain ⟨u, rfl⟩ := frx_on hF
  clear hF
  simp only [Tryz.f5, Option.getD_some, regOf] at hc
  injection hc with hc
  subst hc
  obtain ⟨c0, c1, c2, c3, c4, c5, c6, c7, c8, c9⟩ := hD
  have i0 : (0 : Int) ≤ (k : Int) := by omega
  have i1 : (k : Int) < (n : Int) := by omega
  go_wp2
  exact HQ.out _ ⟨rfl, rfl, rfl, rfl, rfl, rfl, rfl, rfl, rfl, rfl, rfl, rfl, rfl, rfl, rfl, rfl, rfl, rfl, rfl, rfl⟩
theorem on_r9a {K : Act → World → Prop} {c : Code} (hc : regOf (Tryz.f5.body.getD .skip) 9 = some c) (a : Act) {v : Von} {wq : World} {cb : Nat} {cm : CM} (hF : Fon a v) (h11v : v.v11 = .pointer (some ⟨cb, 0, none⟩)) (hC : wq.heap[cb]? = some (.cells #[.int .i64 cm.kind, .string cm.topic, .string cm.name, .int .i64 cm.seq, .string cm.key, .string cm.val, .int .i64 cm.n, .int .i64 cm.node, .int .i64 cm.ask] 31 (0, 0))) (h0 : cm.kind = 8) (hQ : ∀ a', Fon a' v → a'.tmps.getD 50 undef = .bool false → K a' wq) :
    Code.wp Tryz.prog c (Exit.then K fun _ _ _ => False) a wq := by
  have HQ := hide hQ
  clear hQ
  obtain ⟨v0, v1, v2, v4, v6, v7, v8, v10, v11, v12, v13, v14, v15, v16, v17, v18, v19, v20⟩ := v
  simp only at h11v HQ
  subst h11v
  obtain ⟨u, rfl⟩ := frx_on hF
  clear hF
  simp only [Tryz.f5, Option.getD_some, regOf] at hc
  injection hc with hc
  subst hc
  have z0 := box_cell hC 0 rfl
  clear hC
  have hd : (cm.kind == 8) = true := beq_iff_eq.2 h0
  have he : (cm.kind != 8) = false := by rw [bne, hd]; rfl
  go_wp2
  exact HQ.out _ ⟨rfl, rfl, rfl, rfl, rfl, rfl, rfl, rfl, rfl, rfl, rfl, rfl, rfl, rfl, rfl, rfl, rfl, rfl, rfl, rfl⟩ (by first | rfl | (simp; done) | (simp [hd]; done) | (simp [hd, he]; done) | (simp [*]; done))
theorem on_r9b {K : Act → World → Prop} {c : Code} (hc : regOf (Tryz.f5.body.getD .skip) 9 = some c) (a : Act) {v : Von} {wq : World} {cb : Nat} {cm : CM} (hF : Fon a v) (h11v : v.v11 = .pointer (some ⟨cb, 0, none⟩)) (hC : wq.heap[cb]? = some (.cells #[.int .i64 cm.kind, .string cm.topic, .string cm.name, .int .i64 cm.seq, .string cm.key, .string cm.val, .int .i64 cm.n, .int .i64 cm.node, .int .i64 cm.ask] 31 (0, 0))) (h0 : cm.kind = 9) (hQ : ∀ a', Fon a' v → a'.tmps.getD 50 undef = .bool false → K a' wq) :
    Code.wp Tryz.prog c (Exit.then K fun _ _ _ => False) a wq := by
  have HQ := hide hQ
  clear hQ
  obtain ⟨v0, v1, v2, v4, v6, v7, v8, v10, v11, v12, v13, v14, v15, v16, v17, v18, v19, v20⟩ := v
  simp only at h11v HQ
  subst h11v
  obtain ⟨u, rfl⟩ := frx_on hF
  clear hF
  simp only [Tryz.f5, Option.getD_some, regOf] at hc
  injection hc with hc
  subst hc
  have z0 := box_cell hC 0 rfl
  clear hC
  have hd : (cm.kind == 8) = false := beq_eq_false_iff_ne.2 (by omega)
  have he : (cm.kind == 9) = true := beq_iff_eq.2 h0
  go_wp2
  exact HQ.out _ ⟨rfl, rfl, rfl, rfl, rfl, rfl, rfl, rfl, rfl, rfl, rfl, rfl, rfl, rfl, rfl, rfl, rfl, rfl, rfl, rfl⟩ (by first | rfl | (simp; done) | (simp [hd]; done) | (simp [hd, he]; done) | (simp [*]; done))
theorem on_r9c {K : Act → World → Prop} {c : Code} (hc : regOf (Tryz.f5.body.getD .skip) 9 = some c) (a : Act) {v : Von} {wq : World} {cb : Nat} {cm : CM} (hF : Fon a v) (h11v : v.v11 = .pointer (some ⟨cb, 0, none⟩)) (hC : wq.heap[cb]? = some (.cells #[.int .i64 cm.kind, .string cm.topic, .string cm.name, .int .i64 cm.seq, .string cm.key, .string cm.val, .int .i64 cm.n, .int .i64 cm.node, .int .i64 cm.ask] 31 (0, 0))) (h0 : cm.kind ≠ 8 ∧ cm.kind ≠ 9) (hQ : ∀ a', Fon a' v → a'.tmps.getD 50 undef = .bool true → K a' wq) :
    Code.wp Tryz.prog c (Exit.then K fun _ _ _ => False) a wq := by
  have HQ := hide hQ
  clear hQ
  obtain ⟨v0, v1, v2, v4, v6, v7, v8, v10, v11, v12, v13, v14, v15, v16, v17, v18, v19, v20⟩ := v
  simp only at h11v HQ
  subst h11v
  obtain ⟨u, rfl⟩ := frx_on hF
  clear hF
  simp only [Tryz.f5, Option.getD_some, regOf] at hc
  injection hc with hc
  subst hc
  have z0 := box_cell hC 0 rfl
  clear hC
  have hd : (cm.kind == 8) = false := beq_eq_false_iff_ne.2 h0.1
  have he : (cm.kind == 9) = false := beq_eq_false_iff_ne.2 h0.2
  go_wp2
  exact HQ.out _ ⟨rfl, rfl, rfl, rfl, rfl, rfl, rfl, rfl, rfl, rfl, rfl, rfl, rfl, rfl, rfl, rfl, rfl, rfl, rfl, rfl⟩ (by first | rfl | (simp; done) | (simp [hd]; done) | (simp [hd, he]; done) | (simp [*]; done))
theorem on_r10 {K : Act → World → Prop} {c : Code} (hc : regOf (Tryz.f5.body.getD .skip) 10 = some c) (a : Act) {v : Von} {wq : World} {mb cb : Nat} {cm : CM} {R : World → Prop} (hF : Fon a v) (h8v : v.v8 = .pointer (some ⟨mb, 0, none⟩)) (h11v : v.v11 = .pointer (some ⟨cb, 0, none⟩)) (hC : wq.heap[cb]? = some (.cells #[.int .i64 cm.kind, .string cm.topic, .string cm.name, .int .i64 cm.seq, .string cm.key, .string cm.val, .int .i64 cm.n, .int .i64 cm.node, .int .i64 cm.ask] 31 (0, 0))) (hE : Calls Tryz.prog 19 #[.pointer (some ⟨mb, 0, none⟩), .agg #[.int .i64 cm.kind, .string cm.topic, .string cm.name, .int .i64 cm.seq, .string cm.key, .string cm.val, .int .i64 cm.n, .int .i64 cm.node, .int .i64 cm.ask]] wq fun e w' => ∃ x y ln aq cq, e = .returned (.agg #[.int .i64 x, .int .i64 y, .slice aq ln cq]) ∧ R w')
    (hQ : ∀ a' w1, Fon a' v → R w1 → K a' w1) :
    Code.wp Tryz.prog c (Exit.then K fun _ _ _ => False) a wq := by
  have HQ := hide hQ
  clear hQ
  obtain ⟨v0, v1, v2, v4, v6, v7, v8, v10, v11, v12, v13, v14, v15, v16, v17, v18, v19, v20⟩ := v
  simp only at h8v h11v HQ
  subst h8v h11v
  obtain ⟨u, rfl⟩ := frx_on hF
  clear hF
  simp only [Tryz.f5, Option.getD_some, regOf] at hc
  injection hc with hc
  subst hc
  have HE := hide hE
  clear hE
  have z0 := box_cell hC 0 rfl
  have z1 := box_cell hC 1 rfl
  have z2 := box_cell hC 2 rfl
  have z3 := box_cell hC 3 rfl
  have z4 := box_cell hC 4 rfl
  have z5 := box_cell hC 5 rfl
  have z6 := box_cell hC 6 rfl
  have z7 := box_cell hC 7 rfl
  have z8 := box_cell hC 8 rfl
  clear hC
  go_wp2_with (go_at_call 19; refine HE.out.mono ?_; rintro e w1 ⟨x, y, ln, aq, cq, rfl, r1⟩; have R1 := hide r1; clear r1)
  exact HQ.out _ _ ⟨rfl, rfl, rfl, rfl, rfl, rfl, rfl, rfl, rfl, rfl, rfl, rfl, rfl, rfl, rfl, rfl, rfl, rfl, rfl, rfl⟩ R1.out
theorem on_r21 {K : Act → World → Prop} {c : Code} (hc : regOf (Tryz.f5.body.getD .skip) 21 = some c) (a : Act) {v : Von} {wq : World} {mb cb : Nat} {cm : CM} {R : World → Prop} (hF : Fon a v) (h8v : v.v8 = .pointer (some ⟨mb, 0, none⟩)) (h14v : v.v14 = .pointer (some ⟨cb, 0, none⟩)) (hC : wq.heap[cb]? = some (.cells #[.int .i64 cm.kind, .string cm.topic, .string cm.name, .int .i64 cm.seq, .string cm.key, .string cm.val, .int .i64 cm.n, .int .i64 cm.node, .int .i64 cm.ask] 31 (0, 0))) (hE : Calls Tryz.prog 19 #[.pointer (some ⟨mb, 0, none⟩), .agg #[.int .i64 cm.kind, .string cm.topic, .string cm.name, .int .i64 cm.seq, .string cm.key, .string cm.val, .int .i64 cm.n, .int .i64 cm.node, .int .i64 cm.ask]] wq fun e w' => ∃ x y ln aq cq, e = .returned (.agg #[.int .i64 x, .int .i64 y, .slice aq ln cq]) ∧ R w')
    (hQ : ∀ a' w1, Fon a' v → R w1 → K a' w1) :
    Code.wp Tryz.prog c (Exit.then K fun _ _ _ => False) a wq := by
  have HQ := hide hQ
  clear hQ
  obtain ⟨v0, v1, v2, v4, v6, v7, v8, v10, v11, v12, v13, v14, v15, v16, v17, v18, v19, v20⟩ := v
  simp only at h8v h14v HQ
  subst h8v h14v
  obtain ⟨u, rfl⟩ := frx_on hF
  clear hF
  simp only [Tryz.f5, Option.getD_some, regOf] at hc
  injection hc with hc
  subst hc
  have HE := hide hE
  clear hE
  have z0 := box_cell hC 0 rfl
  have z1 := box_cell hC 1 rfl
  have z2 := box_cell hC 2 rfl
  have z3 := box_cell hC 3 rfl
  have z4 := box_cell hC 4 rfl
  have z5 := box_cell hC 5 rfl
  have z6 := box_cell hC 6 rfl
  have z7 := box_cell hC 7 rfl
  have z8 := box_cell hC 8 rfl
  clear hC
  go_wp2_with (go_at_call 19; refine HE.out.mono ?_; rintro e w1 ⟨x, y, ln, aq, cq, rfl, r1⟩; have R1 := hide r1; clear r1)
  exact HQ.out _ _ ⟨rfl, rfl, rfl, rfl, rfl, rfl, rfl, rfl, rfl, rfl, rfl, rfl, rfl, rfl, rfl, rfl, rfl, rfl, rfl, rfl⟩ R1.out
theorem on_r7 {K : Act → World → Prop} {c : Code} (hc : regOf (Tryz.f5.body.getD .skip) 7 = some c) (a : Act) {v : Von} {wq : World} {i : Nat} (hF : Fon a v) (h10v : v.v10 = .int .i64 (i : Int)) (hi : i ≤ 1000000)
    (hQ : ∀ a', Fon a' { v with v10 := .int .i64 ((i + 1 : Nat) : Int) } → K a' wq) :
    Code.wp Tryz.prog c (Exit.then K fun _ _ _ => False) a wq := by
  have HQ := hide hQ
  clear hQ
  obtain ⟨v0, v1, v2, v4, v6, v7, v8, v10, v11, v12, v13, v14, v15, v16, v17, v18, v19, v20⟩ := v
  simp only at h10v HQ
  subst h10v
  obtain ⟨u, rfl⟩ := frx_on hF
  clear hF
  simp only [Tryz.f5, Option.getD_some, regOf] at hc
  injection hc with hc
  subst hc
  go_wp2
  exact HQ.out _ ⟨rfl, rfl, rfl, rfl, rfl, rfl, rfl, rfl, rfl, (by first | rfl | (simp; done) | (go_num; done)), rfl, rfl, rfl, rfl, rfl, rfl, rfl, rfl, rfl, rfl⟩
theorem on_r18 {K : Act → World → Prop} {c : Code} (hc : regOf (Tryz.f5.body.getD .skip) 18 = some c) (a : Act) {v : Von} {wq : World} {i : Nat} (hF : Fon a v) (h13v : v.v13 = .int .i64 (i : Int)) (hi : i ≤ 1000000)
    (hQ : ∀ a', Fon a' { v with v13 := .int .i64 ((i + 1 : Nat) : Int) } → K a' wq) :
    Code.wp Tryz.prog c (Exit.then K fun _ _ _ => False) a wq := by
  have HQ := hide hQ
  clear hQ
  obtain ⟨v0, v1, v2, v4, v6, v7, v8, v10, v11, v12, v13, v14, v15, v16, v17, v18, v19, v20⟩ := v
  simp only at h13v HQ
  subst h13v
  obtain ⟨u, rfl⟩ := frx_on hF
  clear hF
  simp only [Tryz.f5, Option.getD_some, regOf] at hc
  injection hc with hc
  subst hc
  go_wp2
  exact HQ.out _ ⟨rfl, rfl, rfl, rfl, rfl, rfl, rfl, rfl, rfl, rfl, rfl, rfl, (by first | rfl | (simp; done) | (go_num; done)), rfl, rfl, rfl, rfl, rfl, rfl, rfl⟩
theorem on_r32 {K : Act → World → Prop} {c : Code} (hc : regOf (Tryz.f5.body.getD .skip) 32 = some c) (a : Act) {v : Von} {wq : World} {i : Nat} (hF : Fon a v) (h19v : v.v19 = .int .i64 (i : Int)) (hi : i ≤ 1000000)
    (hQ : ∀ a', Fon a' { v with v19 := .int .i64 ((i + 1 : Nat) : Int) } → K a' wq) :
    Code.wp Tryz.prog c (Exit.then K fun _ _ _ => False) a wq := by
  have HQ := hide hQ
  clear hQ
  obtain ⟨v0, v1, v2, v4, v6, v7, v8, v10, v11, v12, v13, v14, v15, v16, v17, v18, v19, v20⟩ := v
  simp only at h19v HQ
  subst h19v
  obtain ⟨u, rfl⟩ := frx_on hF
  clear hF
  simp only [Tryz.f5, Option.getD_some, regOf] at hc
  injection hc with hc
  subst hc
  go_wp2
  exact HQ.out _ ⟨rfl, rfl, rfl, rfl, rfl, rfl, rfl, rfl, rfl, rfl, rfl, rfl, rfl, rfl, rfl, rfl, rfl, rfl, (by first | rfl | (simp; done) | (go_num; done)), rfl⟩
theorem on_r30 {K : Act → World → Prop} {c : Code} (hc : regOf (Tryz.f5.body.getD .skip) 30 = some c) (a : Act) {v : Von} {wq : World} {i : Nat} (hF : Fon a v) (h20v : v.v20 = .int .i64 (i : Int)) (hi : i ≤ 1000000)
    (hQ : ∀ a', Fon a' { v with v20 := .int .i64 ((i + 1 : Nat) : Int) } → K a' wq) :
    Code.wp Tryz.prog c (Exit.then K fun _ _ _ => False) a wq := by
  have HQ := hide hQ
  clear hQ
  obtain ⟨v0, v1, v2, v4, v6, v7, v8, v10, v11, v12, v13, v14, v15, v16, v17, v18, v19, v20⟩ := v
  simp only at h20v HQ
  subst h20v
  obtain ⟨u, rfl⟩ := frx_on hF
  clear hF
  simp only [Tryz.f5, Option.getD_some, regOf] at hc
  injection hc with hc
  subst hc
  go_wp2
  exact HQ.out _ ⟨rfl, rfl, rfl, rfl, rfl, rfl, rfl, rfl, rfl, rfl, rfl, rfl, rfl, rfl, rfl, rfl, rfl, rfl, rfl, (by first | rfl | (simp; done) | (go_num; done))⟩
theorem on_r11 {K : Act → World → Prop} {c : Code} (hc : regOf (Tryz.f5.body.getD .skip) 11 = some c) (a : Act) {v : Von} {wq : World} {cb : Nat} {cm : CM} (hF : Fon a v) (h4v : v.v4 = .pointer (some ⟨cb, 0, none⟩)) (hC : wq.heap[cb]? = some (.cells #[.int .i64 cm.kind, .string cm.topic, .string cm.name, .int .i64 cm.seq, .string cm.key, .string cm.val, .int .i64 cm.n, .int .i64 cm.node, .int .i64 cm.ask] 31 (0, 0)))
    (hQ : ∀ a', Fon a' v → K a' (wq.setCell ⟨cb, 0, none⟩ (.int .i64 2))) :
    Code.wp Tryz.prog c (Exit.then K fun _ _ _ => False) a wq := by
  have HQ := hide hQ
  clear hQ
  obtain ⟨v0, v1, v2, v4, v6, v7, v8, v10, v11, v12, v13, v14, v15, v16, v17, v18, v19, v20⟩ := v
  simp only at h4v HQ
  subst h4v
  obtain ⟨u, rfl⟩ := frx_on hF
  clear hF
  simp only [Tryz.f5, Option.getD_some, regOf] at hc
  injection hc with hc
  subst hc
  have z := box_cell hC 0 rfl
  have f0 := box_free hC 0
  clear hC
  go_wp2
  exact HQ.out _ ⟨rfl, rfl, rfl, rfl, rfl, rfl, rfl, rfl, rfl, rfl, rfl, rfl, rfl, rfl, rfl, rfl, rfl, rfl, rfl, rfl⟩
theorem on_r12 {K : Act → World → Prop} {c : Code} (hc : regOf (Tryz.f5.body.getD .skip) 12 = some c) (a : Act) {v : Von} {wq : World} {cb : Nat} {cm : CM} (hF : Fon a v) (h4v : v.v4 = .pointer (some ⟨cb, 0, none⟩)) (hC : wq.heap[cb]? = some (.cells #[.int .i64 cm.kind, .string cm.topic, .string cm.name, .int .i64 cm.seq, .string cm.key, .string cm.val, .int .i64 cm.n, .int .i64 cm.node, .int .i64 cm.ask] 31 (0, 0)))
    (hQ : ∀ a', Fon a' v → K a' (wq.setCell ⟨cb, 6, none⟩ (.int .i64 0))) :
    Code.wp Tryz.prog c (Exit.then K fun _ _ _ => False) a wq := by
  have HQ := hide hQ
  clear hQ
  obtain ⟨v0, v1, v2, v4, v6, v7, v8, v10, v11, v12, v13, v14, v15, v16, v17, v18, v19, v20⟩ := v
  simp only at h4v HQ
  subst h4v
  obtain ⟨u, rfl⟩ := frx_on hF
  clear hF
  simp only [Tryz.f5, Option.getD_some, regOf] at hc
  injection hc with hc
  subst hc
  have z := box_cell hC 6 rfl
  have f0 := box_free hC 6
  clear hC
  go_wp2
  exact HQ.out _ ⟨rfl, rfl, rfl, rfl, rfl, rfl, rfl, rfl, rfl, rfl, rfl, rfl, rfl, rfl, rfl, rfl, rfl, rfl, rfl, rfl⟩
theorem on_r13 {K : Act → World → Prop} {c : Code} (hc : regOf (Tryz.f5.body.getD .skip) 13 = some c) (a : Act) {v : Von} {wq : World} {mb cb ln : Nat} {x y : Int} {cm : CM} {R : Option Addr → Nat → World → Prop} (hF : Fon a v) (h8v : v.v8 = .pointer (some ⟨mb, 0, none⟩)) (h4v : v.v4 = .pointer (some ⟨cb, 0, none⟩)) (hC : wq.heap[cb]? = some (.cells #[.int .i64 cm.kind, .string cm.topic, .string cm.name, .int .i64 cm.seq, .string cm.key, .string cm.val, .int .i64 cm.n, .int .i64 cm.node, .int .i64 cm.ask] 31 (0, 0))) (hE : Calls Tryz.prog 19 #[.pointer (some ⟨mb, 0, none⟩), .agg #[.int .i64 cm.kind, .string cm.topic, .string cm.name, .int .i64 cm.seq, .string cm.key, .string cm.val, .int .i64 cm.n, .int .i64 cm.node, .int .i64 cm.ask]] wq fun e w' => ∃ aq cq, e = .returned (.agg #[.int .i64 x, .int .i64 y, .slice aq ln cq]) ∧ R aq cq w')
    (hQ : ∀ a' w1 aq cq, Fon a' { v with v12 := .pointer (some ⟨w1.heap.size, 0, none⟩) } → R aq cq w1 → K a' (w1.alloc (.cells #[.int .i64 x, .int .i64 y, .slice aq ln cq] 37))) :
    Code.wp Tryz.prog c (Exit.then K fun _ _ _ => False) a wq := by
  have HQ := hide hQ
  clear hQ
  obtain ⟨v0, v1, v2, v4, v6, v7, v8, v10, v11, v12, v13, v14, v15, v16, v17, v18, v19, v20⟩ := v
  simp only at h8v h4v HQ
  subst h8v h4v
  obtain ⟨u, rfl⟩ := frx_on hF
  clear hF
  simp only [Tryz.f5, Option.getD_some, regOf] at hc
  injection hc with hc
  subst hc
  have HE := hide hE
  clear hE
  have z0 := box_cell hC 0 rfl
  have z1 := box_cell hC 1 rfl
  have z2 := box_cell hC 2 rfl
  have z3 := box_cell hC 3 rfl
  have z4 := box_cell hC 4 rfl
  have z5 := box_cell hC 5 rfl
  have z6 := box_cell hC 6 rfl
  have z7 := box_cell hC 7 rfl
  have z8 := box_cell hC 8 rfl
  clear hC
  go_wp2_with (go_at_call 19; refine HE.out.mono ?_; rintro e w1 ⟨aq, cq, rfl, r1⟩; have R1 := hide r1; clear r1)
  exact HQ.out _ _ _ _ ⟨rfl, rfl, rfl, rfl, rfl, rfl, rfl, rfl, rfl, rfl, rfl, rfl, rfl, rfl, rfl, rfl, rfl, rfl, rfl, rfl⟩ R1.out
theorem on_r22 {K : Act → World → Prop} {c : Code} (hc : regOf (Tryz.f5.body.getD .skip) 22 = some c) (a : Act) {v : Von} {wq : World} {mb cb ln : Nat} {x y : Int} {cm : CM} {R : Option Addr → Nat → World → Prop} (hF : Fon a v) (h8v : v.v8 = .pointer (some ⟨mb, 0, none⟩)) (h4v : v.v4 = .pointer (some ⟨cb, 0, none⟩)) (hC : wq.heap[cb]? = some (.cells #[.int .i64 cm.kind, .string cm.topic, .string cm.name, .int .i64 cm.seq, .string cm.key, .string cm.val, .int .i64 cm.n, .int .i64 cm.node, .int .i64 cm.ask] 31 (0, 0))) (hE : Calls Tryz.prog 19 #[.pointer (some ⟨mb, 0, none⟩), .agg #[.int .i64 cm.kind, .string cm.topic, .string cm.name, .int .i64 cm.seq, .string cm.key, .string cm.val, .int .i64 cm.n, .int .i64 cm.node, .int .i64 cm.ask]] wq fun e w' => ∃ aq cq, e = .returned (.agg #[.int .i64 x, .int .i64 y, .slice aq ln cq]) ∧ R aq cq w')
    (hQ : ∀ a' w1 aq cq, Fon a' { v with v15 := .pointer (some ⟨w1.heap.size, 0, none⟩) } → R aq cq w1 → K a' (w1.alloc (.cells #[.int .i64 x, .int .i64 y, .slice aq ln cq] 37))) :
    Code.wp Tryz.prog c (Exit.then K fun _ _ _ => False) a wq := by
  have HQ := hide hQ
  clear hQ
  obtain ⟨v0, v1, v2, v4, v6, v7, v8, v10, v11, v12, v13, v14, v15, v16, v17, v18, v19, v20⟩ := v
  simp only at h8v h4v HQ
  subst h8v h4v
  obtain ⟨u, rfl⟩ := frx_on hF
  clear hF
  simp only [Tryz.f5, Option.getD_some, regOf] at hc
  injection hc with hc
  subst hc
  have HE := hide hE
  clear hE
  have z0 := box_cell hC 0 rfl
  have z1 := box_cell hC 1 rfl
  have z2 := box_cell hC 2 rfl
  have z3 := box_cell hC 3 rfl
  have z4 := box_cell hC 4 rfl
  have z5 := box_cell hC 5 rfl
  have z6 := box_cell hC 6 rfl
  have z7 := box_cell hC 7 rfl
  have z8 := box_cell hC 8 rfl
  clear hC
  go_wp2_with (go_at_call 19; refine HE.out.mono ?_; rintro e w1 ⟨aq, cq, rfl, r1⟩; have R1 := hide r1; clear r1)
  exact HQ.out _ _ _ _ ⟨rfl, rfl, rfl, rfl, rfl, rfl, rfl, rfl, rfl, rfl, rfl, rfl, rfl, rfl, rfl, rfl, rfl, rfl, rfl, rfl⟩ R1.out
theorem on_r14o {K : Act → World → Prop} {c : Code} (hc : regOf (Tryz.f5.body.getD .skip) 14 = some c) (a : Act) {v : Von} {wq : World} {rb : Nat} {ln1 qc1 : Nat} {qo1 : Option Addr} {x1 y1 : Int}  (hF : Fon a v) (h12v : v.v12 = .pointer (some ⟨rb, 0, none⟩)) (hp1 : wq.heap[rb]? = some (.cells #[.int .i64 x1, .int .i64 y1, .slice qo1 ln1 qc1] 37 (0, 0))) (hx : x1 = 0) (hQ : ∀ a', Fon a' v → a'.tmps.getD 61 undef = .bool false → K a' wq) :
    Code.wp Tryz.prog c (Exit.then K fun _ _ _ => False) a wq := by
  have HQ := hide hQ
  clear hQ
  obtain ⟨v0, v1, v2, v4, v6, v7, v8, v10, v11, v12, v13, v14, v15, v16, v17, v18, v19, v20⟩ := v
  simp only at h12v HQ
  subst h12v
  obtain ⟨u, rfl⟩ := frx_on hF
  clear hF
  simp only [Tryz.f5, Option.getD_some, regOf] at hc
  injection hc with hc
  subst hc
  have u10 := box_cell hp1 0 rfl
  have u11 := box_cell hp1 1 rfl
  clear hp1
  subst hx
  go_wp2
  exact HQ.out _ ⟨rfl, rfl, rfl, rfl, rfl, rfl, rfl, rfl, rfl, rfl, rfl, rfl, rfl, rfl, rfl, rfl, rfl, rfl, rfl, rfl⟩ (by first | rfl | (simp; done) | (simp [hd]; done) | (simp [hd, he]; done) | (simp [*]; done))
theorem on_r14n {K : Act → World → Prop} {c : Code} (hc : regOf (Tryz.f5.body.getD .skip) 14 = some c) (a : Act) {v : Von} {wq : World} {rb : Nat} {ln1 qc1 : Nat} {qo1 : Option Addr} {x1 y1 : Int}  (hF : Fon a v) (h12v : v.v12 = .pointer (some ⟨rb, 0, none⟩)) (hp1 : wq.heap[rb]? = some (.cells #[.int .i64 x1, .int .i64 y1, .slice qo1 ln1 qc1] 37 (0, 0))) (hx : x1 ≠ 0) (hQ : ∀ a', Fon a' v → a'.tmps.getD 61 undef = .bool true → K a' wq) :
    Code.wp Tryz.prog c (Exit.then K fun _ _ _ => False) a wq := by
  have HQ := hide hQ
  clear hQ
  obtain ⟨v0, v1, v2, v4, v6, v7, v8, v10, v11, v12, v13, v14, v15, v16, v17, v18, v19, v20⟩ := v
  simp only at h12v HQ
  subst h12v
  obtain ⟨u, rfl⟩ := frx_on hF
  clear hF
  simp only [Tryz.f5, Option.getD_some, regOf] at hc
  injection hc with hc
  subst hc
  have u10 := box_cell hp1 0 rfl
  have u11 := box_cell hp1 1 rfl
  clear hp1
  have hd : (x1 == 0) = false := beq_eq_false_iff_ne.2 hx
  go_wp2
  exact HQ.out _ ⟨rfl, rfl, rfl, rfl, rfl, rfl, rfl, rfl, rfl, rfl, rfl, rfl, rfl, rfl, rfl, rfl, rfl, rfl, rfl, rfl⟩ (by first | rfl | (simp; done) | (simp [hd]; done) | (simp [hd, he]; done) | (simp [*]; done))
theorem on_r15 {K : Act → World → Prop} {c : Code} (hc : regOf (Tryz.f5.body.getD .skip) 15 = some c) (a : Act) {v : Von} {wq : World}  (hF : Fon a v) (h7v : v.v7 = .bool true) (hQ : ∀ a', Fon a' { v with v6 := .bool true } → K a' wq) :
    Code.wp Tryz.prog c (Exit.then K fun _ _ _ => False) a wq := by
  have HQ := hide hQ
  clear hQ
  obtain ⟨v0, v1, v2, v4, v6, v7, v8, v10, v11, v12, v13, v14, v15, v16, v17, v18, v19, v20⟩ := v
  simp only at h7v HQ
  subst h7v
  obtain ⟨u, rfl⟩ := frx_on hF
  clear hF
  simp only [Tryz.f5, Option.getD_some, regOf] at hc
  injection hc with hc
  subst hc
  go_wp2
  exact HQ.out _ ⟨rfl, rfl, rfl, rfl, rfl, rfl, rfl, rfl, rfl, rfl, rfl, rfl, rfl, rfl, rfl, rfl, rfl, rfl, rfl, rfl⟩
theorem on_r16 {K : Act → World → Prop} {c : Code} (hc : regOf (Tryz.f5.body.getD .skip) 16 = some c) (a : Act) {v : Von} {wq : World}  (hF : Fon a v) (hQ : ∀ a', Fon a' { v with v13 := .int .i64 ((0 : Nat) : Int) } → K a' wq) :
    Code.wp Tryz.prog c (Exit.then K fun _ _ _ => False) a wq := by
  have HQ := hide hQ
  clear hQ
  obtain ⟨v0, v1, v2, v4, v6, v7, v8, v10, v11, v12, v13, v14, v15, v16, v17, v18, v19, v20⟩ := v
  obtain ⟨u, rfl⟩ := frx_on hF
  clear hF
  simp only [Tryz.f5, Option.getD_some, regOf] at hc
  injection hc with hc
  subst hc
  go_wp2
  exact HQ.out _ ⟨rfl, rfl, rfl, rfl, rfl, rfl, rfl, rfl, rfl, rfl, rfl, rfl, rfl, rfl, rfl, rfl, rfl, rfl, rfl, rfl⟩
theorem on_r20a {K : Act → World → Prop} {c : Code} (hc : regOf (Tryz.f5.body.getD .skip) 20 = some c) (a : Act) {v : Von} {wq : World} {cb db : Nat} {cm dm : CM} (hF : Fon a v) (h4v : v.v4 = .pointer (some ⟨cb, 0, none⟩)) (h14v : v.v14 = .pointer (some ⟨db, 0, none⟩)) (hC : wq.heap[cb]? = some (.cells #[.int .i64 cm.kind, .string cm.topic, .string cm.name, .int .i64 cm.seq, .string cm.key, .string cm.val, .int .i64 cm.n, .int .i64 cm.node, .int .i64 cm.ask] 31 (0, 0))) (hD : wq.heap[db]? = some (.cells #[.int .i64 dm.kind, .string dm.topic, .string dm.name, .int .i64 dm.seq, .string dm.key, .string dm.val, .int .i64 dm.n, .int .i64 dm.node, .int .i64 dm.ask] 31 (0, 0))) (h0 : dm.kind = 8) (hQ : ∀ a', Fon a' v → a'.tmps.getD 111 undef = .bool true → K a' wq) :
    Code.wp Tryz.prog c (Exit.then K fun _ _ _ => False) a wq := by
  have HQ := hide hQ
  clear hQ
  obtain ⟨v0, v1, v2, v4, v6, v7, v8, v10, v11, v12, v13, v14, v15, v16, v17, v18, v19, v20⟩ := v
  simp only at h4v h14v HQ
  subst h4v h14v
  obtain ⟨u, rfl⟩ := frx_on hF
  clear hF
  simp only [Tryz.f5, Option.getD_some, regOf] at hc
  injection hc with hc
  subst hc
  have z1 := box_cell hC 1 rfl
  have z2 := box_cell hC 2 rfl
  have z3 := box_cell hC 3 rfl
  have y0 := box_cell hD 0 rfl
  have y1 := box_cell hD 1 rfl
  have y2 := box_cell hD 2 rfl
  have y3 := box_cell hD 3 rfl
  clear hC hD
  have d8 : (dm.kind == 8) = true := beq_iff_eq.2 h0
  go_wp2
  exact HQ.out _ ⟨rfl, rfl, rfl, rfl, rfl, rfl, rfl, rfl, rfl, rfl, rfl, rfl, rfl, rfl, rfl, rfl, rfl, rfl, rfl, rfl⟩ (by first | rfl | (simp; done) | (simp [*]; done))
theorem on_r20b {K : Act → World → Prop} {c : Code} (hc : regOf (Tryz.f5.body.getD .skip) 20 = some c) (a : Act) {v : Von} {wq : World} {cb db : Nat} {cm dm : CM} (hF : Fon a v) (h4v : v.v4 = .pointer (some ⟨cb, 0, none⟩)) (h14v : v.v14 = .pointer (some ⟨db, 0, none⟩)) (hC : wq.heap[cb]? = some (.cells #[.int .i64 cm.kind, .string cm.topic, .string cm.name, .int .i64 cm.seq, .string cm.key, .string cm.val, .int .i64 cm.n, .int .i64 cm.node, .int .i64 cm.ask] 31 (0, 0))) (hD : wq.heap[db]? = some (.cells #[.int .i64 dm.kind, .string dm.topic, .string dm.name, .int .i64 dm.seq, .string dm.key, .string dm.val, .int .i64 dm.n, .int .i64 dm.node, .int .i64 dm.ask] 31 (0, 0))) (h0 : dm.kind = 9) (hQ : ∀ a', Fon a' v → a'.tmps.getD 111 undef = .bool true → K a' wq) :
    Code.wp Tryz.prog c (Exit.then K fun _ _ _ => False) a wq := by
  have HQ := hide hQ
  clear hQ
  obtain ⟨v0, v1, v2, v4, v6, v7, v8, v10, v11, v12, v13, v14, v15, v16, v17, v18, v19, v20⟩ := v
  simp only at h4v h14v HQ
  subst h4v h14v
  obtain ⟨u, rfl⟩ := frx_on hF
  clear hF
  simp only [Tryz.f5, Option.getD_some, regOf] at hc
  injection hc with hc
  subst hc
  have z1 := box_cell hC 1 rfl
  have z2 := box_cell hC 2 rfl
  have z3 := box_cell hC 3 rfl
  have y0 := box_cell hD 0 rfl
  have y1 := box_cell hD 1 rfl
  have y2 := box_cell hD 2 rfl
  have y3 := box_cell hD 3 rfl
  clear hC hD
  have d8 : (dm.kind == 8) = false := beq_eq_false_iff_ne.2 (by omega)
  have d9 : (dm.kind == 9) = true := beq_iff_eq.2 h0
  go_wp2
  exact HQ.out _ ⟨rfl, rfl, rfl, rfl, rfl, rfl, rfl, rfl, rfl, rfl, rfl, rfl, rfl, rfl, rfl, rfl, rfl, rfl, rfl, rfl⟩ (by first | rfl | (simp; done) | (simp [*]; done))
theorem on_r20k {K : Act → World → Prop} {c : Code} (hc : regOf (Tryz.f5.body.getD .skip) 20 = some c) (a : Act) {v : Von} {wq : World} {cb db : Nat} {cm dm : CM} (hF : Fon a v) (h4v : v.v4 = .pointer (some ⟨cb, 0, none⟩)) (h14v : v.v14 = .pointer (some ⟨db, 0, none⟩)) (hC : wq.heap[cb]? = some (.cells #[.int .i64 cm.kind, .string cm.topic, .string cm.name, .int .i64 cm.seq, .string cm.key, .string cm.val, .int .i64 cm.n, .int .i64 cm.node, .int .i64 cm.ask] 31 (0, 0))) (hD : wq.heap[db]? = some (.cells #[.int .i64 dm.kind, .string dm.topic, .string dm.name, .int .i64 dm.seq, .string dm.key, .string dm.val, .int .i64 dm.n, .int .i64 dm.node, .int .i64 dm.ask] 31 (0, 0))) (h8 : dm.kind ≠ 8) (h9 : dm.kind ≠ 9) (h2 : dm.kind ≠ 2) (hQ : ∀ a', Fon a' v → a'.tmps.getD 111 undef = .bool false → K a' wq) :
    Code.wp Tryz.prog c (Exit.then K fun _ _ _ => False) a wq := by
  have HQ := hide hQ
  clear hQ
  obtain ⟨v0, v1, v2, v4, v6, v7, v8, v10, v11, v12, v13, v14, v15, v16, v17, v18, v19, v20⟩ := v
  simp only at h4v h14v HQ
  subst h4v h14v
  obtain ⟨u, rfl⟩ := frx_on hF
  clear hF
  simp only [Tryz.f5, Option.getD_some, regOf] at hc
  injection hc with hc
  subst hc
  have z1 := box_cell hC 1 rfl
  have z2 := box_cell hC 2 rfl
  have z3 := box_cell hC 3 rfl
  have y0 := box_cell hD 0 rfl
  have y1 := box_cell hD 1 rfl
  have y2 := box_cell hD 2 rfl
  have y3 := box_cell hD 3 rfl
  clear hC hD
  have d8 : (dm.kind == 8) = false := beq_eq_false_iff_ne.2 (by omega)
  have d9 : (dm.kind == 9) = false := beq_eq_false_iff_ne.2 (by omega)
  have d2 : (dm.kind == 2) = false := beq_eq_false_iff_ne.2 h2
  go_wp2
  exact HQ.out _ ⟨rfl, rfl, rfl, rfl, rfl, rfl, rfl, rfl, rfl, rfl, rfl, rfl, rfl, rfl, rfl, rfl, rfl, rfl, rfl, rfl⟩ (by first | rfl | (simp; done) | (simp [*]; done))
theorem on_r20t {K : Act → World → Prop} {c : Code} (hc : regOf (Tryz.f5.body.getD .skip) 20 = some c) (a : Act) {v : Von} {wq : World} {cb db : Nat} {cm dm : CM} (hF : Fon a v) (h4v : v.v4 = .pointer (some ⟨cb, 0, none⟩)) (h14v : v.v14 = .pointer (some ⟨db, 0, none⟩)) (hC : wq.heap[cb]? = some (.cells #[.int .i64 cm.kind, .string cm.topic, .string cm.name, .int .i64 cm.seq, .string cm.key, .string cm.val, .int .i64 cm.n, .int .i64 cm.node, .int .i64 cm.ask] 31 (0, 0))) (hD : wq.heap[db]? = some (.cells #[.int .i64 dm.kind, .string dm.topic, .string dm.name, .int .i64 dm.seq, .string dm.key, .string dm.val, .int .i64 dm.n, .int .i64 dm.node, .int .i64 dm.ask] 31 (0, 0))) (h2 : dm.kind = 2) (ht : dm.topic.toList ≠ cm.topic.toList) (hQ : ∀ a', Fon a' v → a'.tmps.getD 111 undef = .bool false → K a' wq) :
    Code.wp Tryz.prog c (Exit.then K fun _ _ _ => False) a wq := by
  have HQ := hide hQ
  clear hQ
  obtain ⟨v0, v1, v2, v4, v6, v7, v8, v10, v11, v12, v13, v14, v15, v16, v17, v18, v19, v20⟩ := v
  simp only at h4v h14v HQ
  subst h4v h14v
  obtain ⟨u, rfl⟩ := frx_on hF
  clear hF
  simp only [Tryz.f5, Option.getD_some, regOf] at hc
  injection hc with hc
  subst hc
  have z1 := box_cell hC 1 rfl
  have z2 := box_cell hC 2 rfl
  have z3 := box_cell hC 3 rfl
  have y0 := box_cell hD 0 rfl
  have y1 := box_cell hD 1 rfl
  have y2 := box_cell hD 2 rfl
  have y3 := box_cell hD 3 rfl
  clear hC hD
  have d8 : (dm.kind == 8) = false := beq_eq_false_iff_ne.2 (by omega)
  have d9 : (dm.kind == 9) = false := beq_eq_false_iff_ne.2 (by omega)
  have d2 : (dm.kind == 2) = true := beq_iff_eq.2 (by omega)
  have dt : (dm.topic.toList == cm.topic.toList) = false := beq_eq_false_iff_ne.2 ht
  go_wp2
  exact HQ.out _ ⟨rfl, rfl, rfl, rfl, rfl, rfl, rfl, rfl, rfl, rfl, rfl, rfl, rfl, rfl, rfl, rfl, rfl, rfl, rfl, rfl⟩ (by first | rfl | (simp; done) | (simp [*]; done))
theorem on_r20n {K : Act → World → Prop} {c : Code} (hc : regOf (Tryz.f5.body.getD .skip) 20 = some c) (a : Act) {v : Von} {wq : World} {cb db : Nat} {cm dm : CM} (hF : Fon a v) (h4v : v.v4 = .pointer (some ⟨cb, 0, none⟩)) (h14v : v.v14 = .pointer (some ⟨db, 0, none⟩)) (hC : wq.heap[cb]? = some (.cells #[.int .i64 cm.kind, .string cm.topic, .string cm.name, .int .i64 cm.seq, .string cm.key, .string cm.val, .int .i64 cm.n, .int .i64 cm.node, .int .i64 cm.ask] 31 (0, 0))) (hD : wq.heap[db]? = some (.cells #[.int .i64 dm.kind, .string dm.topic, .string dm.name, .int .i64 dm.seq, .string dm.key, .string dm.val, .int .i64 dm.n, .int .i64 dm.node, .int .i64 dm.ask] 31 (0, 0))) (h2 : dm.kind = 2) (ht : dm.topic = cm.topic) (hn : dm.name.toList ≠ cm.name.toList) (hQ : ∀ a', Fon a' v → a'.tmps.getD 111 undef = .bool false → K a' wq) :
    Code.wp Tryz.prog c (Exit.then K fun _ _ _ => False) a wq := by
  have HQ := hide hQ
  clear hQ
  obtain ⟨v0, v1, v2, v4, v6, v7, v8, v10, v11, v12, v13, v14, v15, v16, v17, v18, v19, v20⟩ := v
  simp only at h4v h14v HQ
  subst h4v h14v
  obtain ⟨u, rfl⟩ := frx_on hF
  clear hF
  simp only [Tryz.f5, Option.getD_some, regOf] at hc
  injection hc with hc
  subst hc
  have z1 := box_cell hC 1 rfl
  have z2 := box_cell hC 2 rfl
  have z3 := box_cell hC 3 rfl
  have y0 := box_cell hD 0 rfl
  have y1 := box_cell hD 1 rfl
  have y2 := box_cell hD 2 rfl
  have y3 := box_cell hD 3 rfl
  clear hC hD
  have d8 : (dm.kind == 8) = false := beq_eq_false_iff_ne.2 (by omega)
  have d9 : (dm.kind == 9) = false := beq_eq_false_iff_ne.2 (by omega)
  have d2 : (dm.kind == 2) = true := beq_iff_eq.2 (by omega)
  have dt : (dm.topic.toList == cm.topic.toList) = true := by rw [ht]; exact beq_self_eq_true _
  have dn : (dm.name.toList == cm.name.toList) = false := beq_eq_false_iff_ne.2 hn
  go_wp2
  exact HQ.out _ ⟨rfl, rfl, rfl, rfl, rfl, rfl, rfl, rfl, rfl, rfl, rfl, rfl, rfl, rfl, rfl, rfl, rfl, rfl, rfl, rfl⟩ (by first | rfl | (simp; done) | (simp [*]; done))
theorem on_r20s {K : Act → World → Prop} {c : Code} (hc : regOf (Tryz.f5.body.getD .skip) 20 = some c) (a : Act) {v : Von} {wq : World} {cb db : Nat} {cm dm : CM} (hF : Fon a v) (h4v : v.v4 = .pointer (some ⟨cb, 0, none⟩)) (h14v : v.v14 = .pointer (some ⟨db, 0, none⟩)) (hC : wq.heap[cb]? = some (.cells #[.int .i64 cm.kind, .string cm.topic, .string cm.name, .int .i64 cm.seq, .string cm.key, .string cm.val, .int .i64 cm.n, .int .i64 cm.node, .int .i64 cm.ask] 31 (0, 0))) (hD : wq.heap[db]? = some (.cells #[.int .i64 dm.kind, .string dm.topic, .string dm.name, .int .i64 dm.seq, .string dm.key, .string dm.val, .int .i64 dm.n, .int .i64 dm.node, .int .i64 dm.ask] 31 (0, 0))) (h2 : dm.kind = 2) (ht : dm.topic = cm.topic) (hn : dm.name = cm.name) (hQ : ∀ a', Fon a' v → a'.tmps.getD 111 undef = .bool (decide (cm.seq < dm.seq)) → K a' wq) :
    Code.wp Tryz.prog c (Exit.then K fun _ _ _ => False) a wq := by
  have HQ := hide hQ
  clear hQ
  obtain ⟨v0, v1, v2, v4, v6, v7, v8, v10, v11, v12, v13, v14, v15, v16, v17, v18, v19, v20⟩ := v
  simp only at h4v h14v HQ
  subst h4v h14v
  obtain ⟨u, rfl⟩ := frx_on hF
  clear hF
  simp only [Tryz.f5, Option.getD_some, regOf] at hc
  injection hc with hc
  subst hc
  have z1 := box_cell hC 1 rfl
  have z2 := box_cell hC 2 rfl
  have z3 := box_cell hC 3 rfl
  have y0 := box_cell hD 0 rfl
  have y1 := box_cell hD 1 rfl
  have y2 := box_cell hD 2 rfl
  have y3 := box_cell hD 3 rfl
  clear hC hD
  have d8 : (dm.kind == 8) = false := beq_eq_false_iff_ne.2 (by omega)
  have d9 : (dm.kind == 9) = false := beq_eq_false_iff_ne.2 (by omega)
  have d2 : (dm.kind == 2) = true := beq_iff_eq.2 (by omega)
  have dt : (dm.topic.toList == cm.topic.toList) = true := by rw [ht]; exact beq_self_eq_true _
  have dn : (dm.name.toList == cm.name.toList) = true := by rw [hn]; exact beq_self_eq_true _
  go_wp2
  exact HQ.out _ ⟨rfl, rfl, rfl, rfl, rfl, rfl, rfl, rfl, rfl, rfl, rfl, rfl, rfl, rfl, rfl, rfl, rfl, rfl, rfl, rfl⟩ (by first | rfl | (simp; done) | (simp [*]; done))
theorem on_r23 {K : Act → World → Prop} {c : Code} (hc : regOf (Tryz.f5.body.getD .skip) 23 = some c) (a : Act) {v : Von} {wq : World} {mb cb : Nat} {cm : CM} {po : Option Addr} {ok : Bool} (hF : Fon a v) (h8v : v.v8 = .pointer (some ⟨mb, 0, none⟩)) (h4v : v.v4 = .pointer (some ⟨cb, 0, none⟩)) (hC : wq.heap[cb]? = some (.cells #[.int .i64 cm.kind, .string cm.topic, .string cm.name, .int .i64 cm.seq, .string cm.key, .string cm.val, .int .i64 cm.n, .int .i64 cm.node, .int .i64 cm.ask] 31 (0, 0))) (hE : Calls Tryz.prog 20 #[.pointer (some ⟨mb, 0, none⟩), .string cm.topic] wq fun e w' => e = .returned (.tuple #[.pointer po, .bool ok]) ∧ w' = wq)
    (hQ : ∀ a', Fon a' { v with v16 := .pointer po, v17 := .bool ok } → K a' wq) :
    Code.wp Tryz.prog c (Exit.then K fun _ _ _ => False) a wq := by
  have HQ := hide hQ
  clear hQ
  obtain ⟨v0, v1, v2, v4, v6, v7, v8, v10, v11, v12, v13, v14, v15, v16, v17, v18, v19, v20⟩ := v
  simp only at h8v h4v HQ
  subst h8v h4v
  obtain ⟨u, rfl⟩ := frx_on hF
  clear hF
  simp only [Tryz.f5, Option.getD_some, regOf] at hc
  injection hc with hc
  subst hc
  have HE := hide hE
  clear hE
  have z1 := box_cell hC 1 rfl
  clear hC
  go_wp2_with (go_at_call 20; refine HE.out.mono ?_; rintro e w1 ⟨rfl, r1⟩; obtain rfl := r1.symm)
  exact HQ.out _ ⟨rfl, rfl, rfl, rfl, rfl, rfl, rfl, rfl, rfl, rfl, rfl, rfl, rfl, rfl, rfl, rfl, rfl, rfl, rfl, rfl⟩
theorem on_r24 {K : Act → World → Prop} {c : Code} (hc : regOf (Tryz.f5.body.getD .skip) 24 = some c) (a : Act) {v : Von} {wq : World} {r1 r2 tb : Nat} {ln1 qc1 : Nat} {qo1 : Option Addr} {x1 y1 : Int} {ln2 qc2 : Nat} {qo2 : Option Addr} {x2 y2 : Int}  (hF : Fon a v) (h12v : v.v12 = .pointer (some ⟨r1, 0, none⟩)) (h15v : v.v15 = .pointer (some ⟨r2, 0, none⟩)) (h16v : v.v16 = .pointer (some ⟨tb, 0, none⟩)) (h17v : v.v17 = .bool true) (hp1 : wq.heap[r1]? = some (.cells #[.int .i64 x1, .int .i64 y1, .slice qo1 ln1 qc1] 37 (0, 0))) (hp2 : wq.heap[r2]? = some (.cells #[.int .i64 x2, .int .i64 y2, .slice qo2 ln2 qc2] 37 (0, 0))) (hx : x2 = 0) (hy : y2 = y1) (hQ : ∀ a', Fon a' v → a'.tmps.getD 142 undef = .bool false → K a' wq) :
    Code.wp Tryz.prog c (Exit.then K fun _ _ _ => False) a wq := by
  have HQ := hide hQ
  clear hQ
  obtain ⟨v0, v1, v2, v4, v6, v7, v8, v10, v11, v12, v13, v14, v15, v16, v17, v18, v19, v20⟩ := v
  simp only at h12v h15v h16v h17v HQ
  subst h12v h15v h16v h17v
  obtain ⟨u, rfl⟩ := frx_on hF
  clear hF
  simp only [Tryz.f5, Option.getD_some, regOf] at hc
  injection hc with hc
  subst hc
  have u10 := box_cell hp1 0 rfl
  have u11 := box_cell hp1 1 rfl
  clear hp1
  have u20 := box_cell hp2 0 rfl
  have u21 := box_cell hp2 1 rfl
  clear hp2
  subst hx hy
  go_wp2
  exact HQ.out _ ⟨rfl, rfl, rfl, rfl, rfl, rfl, rfl, rfl, rfl, rfl, rfl, rfl, rfl, rfl, rfl, rfl, rfl, rfl, rfl, rfl⟩ (by first | rfl | (simp; done) | (simp [hd]; done) | (simp [hd, he]; done) | (simp [*]; done))
theorem on_r26 {K : Act → World → Prop} {c : Code} (hc : regOf (Tryz.f5.body.getD .skip) 26 = some c) (a : Act) {v : Von} {wq : World} {tb ln : Nat} {R : Option Addr → Nat → World → Prop} (hF : Fon a v) (h16v : v.v16 = .pointer (some ⟨tb, 0, none⟩)) (hE : Calls Tryz.prog 21 #[.pointer (some ⟨tb, 0, none⟩), .int .i64 0, .int .i64 10000] wq fun e w' => ∃ ao cp, e = .returned (.slice ao ln cp) ∧ R ao cp w')
    (hQ : ∀ a' w1 ao cp, Fon a' { v with v18 := .slice ao ln cp } → R ao cp w1 → K a' w1) :
    Code.wp Tryz.prog c (Exit.then K fun _ _ _ => False) a wq := by
  have HQ := hide hQ
  clear hQ
  obtain ⟨v0, v1, v2, v4, v6, v7, v8, v10, v11, v12, v13, v14, v15, v16, v17, v18, v19, v20⟩ := v
  simp only at h16v HQ
  subst h16v
  obtain ⟨u, rfl⟩ := frx_on hF
  clear hF
  simp only [Tryz.f5, Option.getD_some, regOf] at hc
  injection hc with hc
  subst hc
  have HE := hide hE
  clear hE
  go_wp2_with (go_at_call 21; refine HE.out.mono ?_; rintro e w1 ⟨ao, cp, rfl, r1⟩; have R1 := hide r1; clear r1)
  exact HQ.out _ _ _ _ ⟨rfl, rfl, rfl, rfl, rfl, rfl, rfl, rfl, rfl, rfl, rfl, rfl, rfl, rfl, rfl, rfl, rfl, rfl, rfl, rfl⟩ R1.out
theorem on_r27 {K : Act → World → Prop} {c : Code} (hc : regOf (Tryz.f5.body.getD .skip) 27 = some c) (a : Act) {v : Von} {wq : World}  (hF : Fon a v) (hQ : ∀ a', Fon a' { v with v19 := .int .i64 ((0 : Nat) : Int) } → K a' wq) :
    Code.wp Tryz.prog c (Exit.then K fun _ _ _ => False) a wq := by
  have HQ := hide hQ
  clear hQ
  obtain ⟨v0, v1, v2, v4, v6, v7, v8, v10, v11, v12, v13, v14, v15, v16, v17, v18, v19, v20⟩ := v
  obtain ⟨u, rfl⟩ := frx_on hF
  clear hF
  simp only [Tryz.f5, Option.getD_some, regOf] at hc
  injection hc with hc
  subst hc
  go_wp2
  exact HQ.out _ ⟨rfl, rfl, rfl, rfl, rfl, rfl, rfl, rfl, rfl, rfl, rfl, rfl, rfl, rfl, rfl, rfl, rfl, rfl, rfl, rfl⟩
theorem on_r28 {K : Act → World → Prop} {c : Code} (hc : regOf (Tryz.f5.body.getD .skip) 28 = some c) (a : Act) {v : Von} {wq : World}  (hF : Fon a v) (hQ : ∀ a', Fon a' { v with v20 := .int .i64 ((0 : Nat) : Int) } → K a' wq) :
    Code.wp Tryz.prog c (Exit.then K fun _ _ _ => False) a wq := by
  have HQ := hide hQ
  clear hQ
  obtain ⟨v0, v1, v2, v4, v6, v7, v8, v10, v11, v12, v13, v14, v15, v16, v17, v18, v19, v20⟩ := v
  obtain ⟨u, rfl⟩ := frx_on hF
  clear hF
  simp only [Tryz.f5, Option.getD_some, regOf] at hc
  injection hc with hc
  subst hc
  go_wp2
  exact HQ.out _ ⟨rfl, rfl, rfl, rfl, rfl, rfl, rfl, rfl, rfl, rfl, rfl, rfl, rfl, rfl, rfl, rfl, rfl, rfl, rfl, rfl⟩
theorem on_r29 {K : Act → World → Prop} {c : Code} (hc : regOf (Tryz.f5.body.getD .skip) 29 = some c) (a : Act) {v : Von} {wq : World} {ao : Option Addr} {n cp k : Nat} (hF : Fon a v) (h18v : v.v18 = .slice ao n cp) (h20v : v.v20 = .int .i64 (k : Int)) (hQ : ∀ a', Fon a' v → a'.tmps.getD 148 undef = .bool (decide ((k : Int) < (n : Int))) → K a' wq) :
    Code.wp Tryz.prog c (Exit.then K fun _ _ _ => False) a wq := by
  have HQ := hide hQ
  clear hQ
  obtain ⟨v0, v1, v2, v4, v6, v7, v8, v10, v11, v12, v13, v14, v15, v16, v17, v18, v19, v20⟩ := v
  simp only at h18v h20v HQ
  subst h18v h20v
  obtain ⟨u, rfl⟩ := frx_on hF
  clear hF
  simp only [Tryz.f5, Option.getD_some, regOf] at hc
  injection hc with hc
  subst hc
  go_wp2
  exact HQ.out _ ⟨rfl, rfl, rfl, rfl, rfl, rfl, rfl, rfl, rfl, rfl, rfl, rfl, rfl, rfl, rfl, rfl, rfl, rfl, rfl, rfl⟩ (by first | rfl | (simp; done))
theorem on_r31p {K : Act → World → Prop} {c : Code} (hc : regOf (Tryz.f5.body.getD .skip) 31 = some c) (a : Act) {v : Von} {wq : World} {cb lb lf n cp k : Nat} {cm : CM} {r : Rec} (hF : Fon a v) (h4v : v.v4 = .pointer (some ⟨cb, 0, none⟩)) (h18v : v.v18 = .slice (some ⟨lb, lf, none⟩) n cp) (h20v : v.v20 = .int .i64 (k : Int)) (hC : wq.heap[cb]? = some (.cells #[.int .i64 cm.kind, .string cm.topic, .string cm.name, .int .i64 cm.seq, .string cm.key, .string cm.val, .int .i64 cm.n, .int .i64 cm.node, .int .i64 cm.ask] 31 (0, 0))) (hk : k < n) (hR : ∀ j, j < 5 → wq.cell? ⟨lb, lf + k * 5 + j, none⟩ = r.cells[j]?) (hp : r.prod.toList ≠ cm.name.toList) (hQ : ∀ a' nn, Fon a' v → a'.tmps.getD 168 undef = .bool false → K a' (wq.drewN nn)) :
    Code.wp Tryz.prog c (Exit.then K fun _ _ _ => False) a wq := by
  have HQ := hide hQ
  clear hQ
  obtain ⟨v0, v1, v2, v4, v6, v7, v8, v10, v11, v12, v13, v14, v15, v16, v17, v18, v19, v20⟩ := v
  simp only at h4v h18v h20v HQ
  subst h4v h18v h20v
  obtain ⟨u, rfl⟩ := frx_on hF
  clear hF
  simp only [Tryz.f5, Option.getD_some, regOf] at hc
  injection hc with hc
  subst hc
  have z2 := box_cell hC 2 rfl
  have z3 := box_cell hC 3 rfl
  clear hC
  have r0 := hR 0 (by omega)
  have r1 := hR 1 (by omega)
  have r2 := hR 2 (by omega)
  clear hR
  simp only [Rec.cells, List.getElem?_cons_zero, List.getElem?_cons_succ, Nat.add_zero] at r0 r1 r2
  have i0 : (0 : Int) ≤ (k : Int) := by omega
  have i1 : (k : Int) < (n : Int) := by omega
  have dn : (r.prod.toList == cm.name.toList) = false := beq_eq_false_iff_ne.2 hp
  go_quiet (fail)
  go_wp2
  exact HQ.out _ _ ⟨rfl, rfl, rfl, rfl, rfl, rfl, rfl, rfl, rfl, rfl, rfl, rfl, rfl, rfl, rfl, rfl, rfl, rfl, rfl, rfl⟩ (by first | rfl | (simp; done) | (simp [*]; done))
theorem on_r31s {K : Act → World → Prop} {c : Code} (hc : regOf (Tryz.f5.body.getD .skip) 31 = some c) (a : Act) {v : Von} {wq : World} {cb lb lf n cp k : Nat} {cm : CM} {r : Rec} (hF : Fon a v) (h4v : v.v4 = .pointer (some ⟨cb, 0, none⟩)) (h18v : v.v18 = .slice (some ⟨lb, lf, none⟩) n cp) (h20v : v.v20 = .int .i64 (k : Int)) (hC : wq.heap[cb]? = some (.cells #[.int .i64 cm.kind, .string cm.topic, .string cm.name, .int .i64 cm.seq, .string cm.key, .string cm.val, .int .i64 cm.n, .int .i64 cm.node, .int .i64 cm.ask] 31 (0, 0))) (hk : k < n) (hR : ∀ j, j < 5 → wq.cell? ⟨lb, lf + k * 5 + j, none⟩ = r.cells[j]?) (hp : r.prod = cm.name) (hs : r.seq ≠ cm.seq) (hQ : ∀ a' nn, Fon a' v → a'.tmps.getD 168 undef = .bool false → K a' (wq.drewN nn)) :
    Code.wp Tryz.prog c (Exit.then K fun _ _ _ => False) a wq := by
  have HQ := hide hQ
  clear hQ
  obtain ⟨v0, v1, v2, v4, v6, v7, v8, v10, v11, v12, v13, v14, v15, v16, v17, v18, v19, v20⟩ := v
  simp only at h4v h18v h20v HQ
  subst h4v h18v h20v
  obtain ⟨u, rfl⟩ := frx_on hF
  clear hF
  simp only [Tryz.f5, Option.getD_some, regOf] at hc
  injection hc with hc
  subst hc
  have z2 := box_cell hC 2 rfl
  have z3 := box_cell hC 3 rfl
  clear hC
  have r0 := hR 0 (by omega)
  have r1 := hR 1 (by omega)
  have r2 := hR 2 (by omega)
  clear hR
  simp only [Rec.cells, List.getElem?_cons_zero, List.getElem?_cons_succ, Nat.add_zero] at r0 r1 r2
  have i0 : (0 : Int) ≤ (k : Int) := by omega
  have i1 : (k : Int) < (n : Int) := by omega
  have dn : (r.prod.toList == cm.name.toList) = true := by rw [hp]; exact beq_self_eq_true _
  have ds : (r.seq == cm.seq) = false := beq_eq_false_iff_ne.2 hs
  go_quiet (fail)
  go_wp2
  exact HQ.out _ _ ⟨rfl, rfl, rfl, rfl, rfl, rfl, rfl, rfl, rfl, rfl, rfl, rfl, rfl, rfl, rfl, rfl, rfl, rfl, rfl, rfl⟩ (by first | rfl | (simp; done) | (simp [*]; done))
theorem on_r31y {K : Act → World → Prop} {c : Code} (hc : regOf (Tryz.f5.body.getD .skip) 31 = some c) (a : Act) {v : Von} {wq : World} {cb lb lf n cp k : Nat} {cm : CM} {r : Rec} (hF : Fon a v) (h4v : v.v4 = .pointer (some ⟨cb, 0, none⟩)) (h18v : v.v18 = .slice (some ⟨lb, lf, none⟩) n cp) (h20v : v.v20 = .int .i64 (k : Int)) (hC : wq.heap[cb]? = some (.cells #[.int .i64 cm.kind, .string cm.topic, .string cm.name, .int .i64 cm.seq, .string cm.key, .string cm.val, .int .i64 cm.n, .int .i64 cm.node, .int .i64 cm.ask] 31 (0, 0))) (hk : k < n) (hR : ∀ j, j < 5 → wq.cell? ⟨lb, lf + k * 5 + j, none⟩ = r.cells[j]?) (hp : r.prod = cm.name) (hs : r.seq = cm.seq) (hQ : ∀ a' nn, Fon a' v → a'.tmps.getD 168 undef = .bool true → K a' (wq.drewN nn)) :
    Code.wp Tryz.prog c (Exit.then K fun _ _ _ => False) a wq := by
  have HQ := hide hQ
  clear hQ
  obtain ⟨v0, v1, v2, v4, v6, v7, v8, v10, v11, v12, v13, v14, v15, v16, v17, v18, v19, v20⟩ := v
  simp only at h4v h18v h20v HQ
  subst h4v h18v h20v
  obtain ⟨u, rfl⟩ := frx_on hF
  clear hF
  simp only [Tryz.f5, Option.getD_some, regOf] at hc
  injection hc with hc
  subst hc
  have z2 := box_cell hC 2 rfl
  have z3 := box_cell hC 3 rfl
  clear hC
  have r0 := hR 0 (by omega)
  have r1 := hR 1 (by omega)
  have r2 := hR 2 (by omega)
  clear hR
  simp only [Rec.cells, List.getElem?_cons_zero, List.getElem?_cons_succ, Nat.add_zero] at r0 r1 r2
  have i0 : (0 : Int) ≤ (k : Int) := by omega
  have i1 : (k : Int) < (n : Int) := by omega
  have dn : (r.prod.toList == cm.name.toList) = true := by rw [hp]; exact beq_self_eq_true _
  have ds : (r.seq == cm.seq) = true := beq_iff_eq.2 hs
  go_quiet (fail)
  go_wp2
  exact HQ.out _ _ ⟨rfl, rfl, rfl, rfl, rfl, rfl, rfl, rfl, rfl, rfl, rfl, rfl, rfl, rfl, rfl, rfl, rfl, rfl, rfl, rfl⟩ (by first | rfl | (simp; done) | (simp [*]; done))
theorem on_r33 {K : Act → World → Prop} {c : Code} (hc : regOf (Tryz.f5.body.getD .skip) 33 = some c) (a : Act) {v : Von} {wq : World} {rb lb lf n cp k : Nat} {r : Rec} {ln1 qc1 : Nat} {qo1 : Option Addr} {x1 y1 : Int}  (hF : Fon a v) (h12v : v.v12 = .pointer (some ⟨rb, 0, none⟩)) (h18v : v.v18 = .slice (some ⟨lb, lf, none⟩) n cp) (h20v : v.v20 = .int .i64 (k : Int)) (hp1 : wq.heap[rb]? = some (.cells #[.int .i64 x1, .int .i64 y1, .slice qo1 ln1 qc1] 37 (0, 0))) (hk : k < n) (hR : ∀ j, j < 5 → wq.cell? ⟨lb, lf + k * 5 + j, none⟩ = r.cells[j]?) (hy : r.off = y1)
    (hQ : ∀ a' nn, Fon a' v → a'.tmps.getD 178 undef = .bool false → K a' (wq.drewN nn)) :
    Code.wp Tryz.prog c (Exit.then K fun _ _ _ => False) a wq := by
  have HQ := hide hQ
  clear hQ
  obtain ⟨v0, v1, v2, v4, v6, v7, v8, v10, v11, v12, v13, v14, v15, v16, v17, v18, v19, v20⟩ := v
  simp only at h12v h18v h20v HQ
  subst h12v h18v h20v
  obtain ⟨u, rfl⟩ := frx_on hF
  clear hF
  simp only [Tryz.f5, Option.getD_some, regOf] at hc
  injection hc with hc
  subst hc
  have u10 := box_cell hp1 0 rfl
  have u11 := box_cell hp1 1 rfl
  clear hp1
  have r0 := hR 0 (by omega)
  have r1 := hR 1 (by omega)
  have r2 := hR 2 (by omega)
  clear hR
  simp only [Rec.cells, List.getElem?_cons_zero, List.getElem?_cons_succ, Nat.add_zero] at r0 r1 r2
  have i0 : (0 : Int) ≤ (k : Int) := by omega
  have i1 : (k : Int) < (n : Int) := by omega
  subst hy
  go_quiet (fail)
  go_wp2
  exact HQ.out _ _ ⟨rfl, rfl, rfl, rfl, rfl, rfl, rfl, rfl, rfl, rfl, rfl, rfl, rfl, rfl, rfl, rfl, rfl, rfl, rfl, rfl⟩ (by first | rfl | (simp; done) | (simp [*]; done))
theorem on_r35 {K : Act → World → Prop} {c : Code} (hc : regOf (Tryz.f5.body.getD .skip) 35 = some c) (a : Act) {v : Von} {wq : World}  (hF : Fon a v) (h7v : v.v7 = .bool true) (h19v : v.v19 = .int .i64 1) (hQ : ∀ a', Fon a' { v with v6 := .bool true } → K a' wq) :
    Code.wp Tryz.prog c (Exit.then K fun _ _ _ => False) a wq := by
  have HQ := hide hQ
  clear hQ
  obtain ⟨v0, v1, v2, v4, v6, v7, v8, v10, v11, v12, v13, v14, v15, v16, v17, v18, v19, v20⟩ := v
  simp only at h7v h19v HQ
  subst h7v h19v
  obtain ⟨u, rfl⟩ := frx_on hF
  clear hF
  simp only [Tryz.f5, Option.getD_some, regOf] at hc
  injection hc with hc
  subst hc
  go_wp2
  exact HQ.out _ ⟨rfl, rfl, rfl, rfl, rfl, rfl, rfl, rfl, rfl, rfl, rfl, rfl, rfl, rfl, rfl, rfl, rfl, rfl, rfl, rfl⟩
theorem on_ret {W : World} {a : Act} {v : Von} {x : Value} {R : Ending → World → Prop} (hF : Fon a v) (h2 : v.v6 = x) (h : R (.returned x) W) : bodyPost Tryz.prog Tryz.f5 R .ret a W := by
  have g0 := slot_get (hF.s6.trans h2)
  refine bodyPost_ret (v := x) ?_ hF.defers h
  simp [results, Tryz.results5, go_sem, g0]
end Go.Proofs.YtlfodldlkchmoaaGreat.Y
