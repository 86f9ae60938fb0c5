/-
  MachineWants' regions (mkj28.py).
-/
import Derived.Test.YtlfodldlkchmoaaGreatZJ24
import Derived.Test.YtlfodldlkchmoaaGreatZYCl
import Derived.Test.YtlfodldlkchmoaaGreatZJ9
import Derived.Laws.StructEq
namespace Go.Proofs.YtlfodldlkchmoaaGreat.Y
open Go.RowKit
set_option maxHeartbeats 8000000
set_option maxRecDepth 100000
attribute [local go_sem ↓] Go.wp_at_zero Go.wp_at_succ
set_option linter.unusedSimpArgs false
set_option linter.unusedVariables false
open Go.Maps
def none7 : Array Value := (List.replicate 7 (Value.bool false)).toArray
theorem makeIn (w : World) : (Instr.makeSlice 58 (.int .i64 7) (.int .i64 7)).run Tryz.prog w = .ok (.slice (some ⟨w.heap.size, 0, none⟩) 7 7) (w.alloc (.cells none7 4)) := by kernel_rfl
theorem frame_wa (t : Array Value) (h : t.size = 163) : ∃ u : Nat → Value, t = List.toArray (u 0 :: u 1 :: u 2 :: u 3 :: u 4 :: u 5 :: u 6 :: u 7 :: u 8 :: u 9 :: u 10 :: u 11 :: u 12 :: u 13 :: u 14 :: u 15 :: u 16 :: u 17 :: u 18 :: u 19 :: u 20 :: u 21 :: u 22 :: u 23 :: u 24 :: u 25 :: u 26 :: u 27 :: u 28 :: u 29 :: u 30 :: u 31 :: u 32 :: u 33 :: u 34 :: u 35 :: u 36 :: u 37 :: u 38 :: u 39 :: u 40 :: u 41 :: u 42 :: u 43 :: u 44 :: u 45 :: u 46 :: u 47 :: u 48 :: u 49 :: u 50 :: u 51 :: u 52 :: u 53 :: u 54 :: u 55 :: u 56 :: u 57 :: u 58 :: u 59 :: u 60 :: u 61 :: u 62 :: u 63 :: u 64 :: u 65 :: u 66 :: u 67 :: u 68 :: u 69 :: u 70 :: u 71 :: u 72 :: u 73 :: u 74 :: u 75 :: u 76 :: u 77 :: u 78 :: u 79 :: u 80 :: u 81 :: u 82 :: u 83 :: u 84 :: u 85 :: u 86 :: u 87 :: u 88 :: u 89 :: u 90 :: u 91 :: u 92 :: u 93 :: u 94 :: u 95 :: u 96 :: u 97 :: u 98 :: u 99 :: u 100 :: u 101 :: u 102 :: u 103 :: u 104 :: u 105 :: u 106 :: u 107 :: u 108 :: u 109 :: u 110 :: u 111 :: u 112 :: u 113 :: u 114 :: u 115 :: u 116 :: u 117 :: u 118 :: u 119 :: u 120 :: u 121 :: u 122 :: u 123 :: u 124 :: u 125 :: u 126 :: u 127 :: u 128 :: u 129 :: u 130 :: u 131 :: u 132 :: u 133 :: u 134 :: u 135 :: u 136 :: u 137 :: u 138 :: u 139 :: u 140 :: u 141 :: u 142 :: u 143 :: u 144 :: u 145 :: u 146 :: u 147 :: u 148 :: u 149 :: u 150 :: u 151 :: u 152 :: u 153 :: u 154 :: u 155 :: u 156 :: u 157 :: u 158 :: u 159 :: u 160 :: u 161 :: u 162 :: []) := by
  refine ⟨fun i => t.getD i undef, ?_⟩
  refine Eq.trans (b := ((List.range 163).map fun i => t.getD i undef).toArray) ?_ rfl
  apply Array.ext
  · simp [h]
  · intro k h1 h2
    simp [Array.getD, h1]
structure Vwa where
  v0 : Value
  v1 : Value
  v2 : Value
  v6 : Value
  v7 : Value
  v8 : Value
  v9 : Value
  v10 : Value
  v11 : Value
  v12 : Value
  v13 : Value
  v14 : Value
  v15 : Value
  v16 : Value
  v17 : Value
  v18 : Value
  v19 : Value
  v20 : Value
structure Fwa (a : Act) (v : Vwa) : Prop where
  size : a.tmps.size = 163
  defers : a.defers = []
  s0 : a.tmps.getD 0 undef = v.v0
  s1 : a.tmps.getD 1 undef = v.v1
  s2 : a.tmps.getD 2 undef = v.v2
  s6 : a.tmps.getD 6 undef = v.v6
  s7 : a.tmps.getD 7 undef = v.v7
  s8 : a.tmps.getD 8 undef = v.v8
  s9 : a.tmps.getD 9 undef = v.v9
  s10 : a.tmps.getD 10 undef = v.v10
  s11 : a.tmps.getD 11 undef = v.v11
  s12 : a.tmps.getD 12 undef = v.v12
  s13 : a.tmps.getD 13 undef = v.v13
  s14 : a.tmps.getD 14 undef = v.v14
  s15 : a.tmps.getD 15 undef = v.v15
  s16 : a.tmps.getD 16 undef = v.v16
  s17 : a.tmps.getD 17 undef = v.v17
  s18 : a.tmps.getD 18 undef = v.v18
  s19 : a.tmps.getD 19 undef = v.v19
  s20 : a.tmps.getD 20 undef = v.v20
theorem frx_wa {a : Act} {v0 v1 v2 v6 v7 v8 v9 v10 v11 v12 v13 v14 v15 v16 v17 v18 v19 v20 : Value} (h : Fwa a ⟨v0, v1, v2, v6, v7, v8, v9, v10, v11, v12, v13, v14, v15, v16, v17, v18, v19, v20⟩) : ∃ u : Nat → Value, a = ⟨List.toArray (v0 :: v1 :: v2 :: u 3 :: u 4 :: u 5 :: v6 :: v7 :: v8 :: v9 :: v10 :: v11 :: v12 :: v13 :: v14 :: v15 :: v16 :: v17 :: v18 :: v19 :: v20 :: u 21 :: u 22 :: u 23 :: u 24 :: u 25 :: u 26 :: u 27 :: u 28 :: u 29 :: u 30 :: u 31 :: u 32 :: u 33 :: u 34 :: u 35 :: u 36 :: u 37 :: u 38 :: u 39 :: u 40 :: u 41 :: u 42 :: u 43 :: u 44 :: u 45 :: u 46 :: u 47 :: u 48 :: u 49 :: u 50 :: u 51 :: u 52 :: u 53 :: u 54 :: u 55 :: u 56 :: u 57 :: u 58 :: u 59 :: u 60 :: u 61 :: u 62 :: u 63 :: u 64 :: u 65 :: u 66 :: u 67 :: u 68 :: u 69 :: u 70 :: u 71 :: u 72 :: u 73 :: u 74 :: u 75 :: u 76 :: u 77 :: u 78 :: u 79 :: u 80 :: u 81 :: u 82 :: u 83 :: u 84 :: u 85 :: u 86 :: u 87 :: u 88 :: u 89 :: u 90 :: u 91 :: u 92 :: u 93 :: u 94 :: u 95 :: u 96 :: u 97 :: u 98 :: u 99 :: u 100 :: u 101 :: u 102 :: u 103 :: u 104 :: u 105 :: u 106 :: u 107 :: u 108 :: u 109 :: u 110 :: u 111 :: u 112 :: u 113 :: u 114 :: u 115 :: u 116 :: u 117 :: u 118 :: u 119 :: u 120 :: u 121 :: u 122 :: u 123 :: u 124 :: u 125 :: u 126 :: u 127 :: u 128 :: u 129 :: u 130 :: u 131 :: u 132 :: u 133 :: u 134 :: u 135 :: u 136 :: u 137 :: u 138 :: u 139 :: u 140 :: u 141 :: u 142 :: u 143 :: u 144 :: u 145 :: u 146 :: u 147 :: u 148 :: u 149 :: u 150 :: u 151 :: u 152 :: u 153 :: u 154 :: u 155 :: u 156 :: u 157 :: u 158 :: u 159 :: u 160 :: u 161 :: u 162 :: []), []⟩ := by
  obtain ⟨t', d'⟩ := a
  obtain ⟨hs, hd, q0, q1, q2, q6, q7, q8, q9, q10, q11, q12, q13, q14, q15, q16, q17, q18, q19, q20⟩ := h
  obtain ⟨u, hu⟩ := frame_wa t' hs
  simp only at hd q0 q1 q2 q6 q7 q8 q9 q10 q11 q12 q13 q14 q15 q16 q17 q18 q19 q20
  subst hu hd
  have e0 : u 0 = v0 := q0
  have e1 : u 1 = v1 := q1
  have e2 : u 2 = v2 := q2
  have e6 : u 6 = v6 := q6
  have e7 : u 7 = v7 := q7
  have e8 : u 8 = v8 := q8
  have e9 : u 9 = v9 := q9
  have e10 : u 10 = v10 := q10
  have e11 : u 11 = v11 := q11
  have e12 : u 12 = v12 := q12
  have e13 : u 13 = v13 := q13
  have e14 : u 14 = v14 := q14
  have e15 : u 15 = v15 := q15
  have e16 : u 16 = v16 := q16
  have e17 : u 17 = v17 := q17
  have e18 : u 18 = v18 := q18
  have e19 : u 19 = v19 := q19
  have e20 : u 20 = v20 := q20
  refine ⟨u, ?_⟩
  rw [e0, e1, e2, e6, e7, e8, e9, e10, e11, e12, e13, e14, e15, e16, e17, e18, e19, e20]
theorem wa_r0 {K : Act → World → Prop} {c : Code} (hc : regOf (Tryz.f7.body.getD .skip) 0 = some c) (a : Act) {v : Vwa} {wq : World}  (hF : Fwa a v) (hQ : ∀ a', Fwa a' { v with v6 := .bool false } → K a' wq) :
    Code.wp Tryz.prog c (Exit.then K fun _ _ _ => False) a wq := by
  have HQ := hide hQ
  clear hQ
  obtain ⟨v0, v1, v2, v6, v7, v8, v9, v10, v11, v12, v13, v14, v15, v16, v17, v18, v19, v20⟩ := v
  obtain ⟨u, rfl⟩ := frx_wa hF
  clear hF
  simp only [Tryz.f7, Option.getD_some, regOf] at hc
  injection hc with hc
  subst hc
  go_wp2
  exact HQ.out _ ⟨rfl, rfl, rfl, rfl, rfl, rfl, rfl, rfl, rfl, rfl, rfl, rfl, rfl, rfl, rfl, rfl, rfl, rfl, rfl, rfl⟩
theorem wa_r1 {K : Act → World → Prop} {c : Code} (hc : regOf (Tryz.f7.body.getD .skip) 1 = some c) (a : Act) {v : Vwa} {wq : World}  (hF : Fwa a v) (hE : Calls Tryz.prog 8 #[] wq fun e w' => e = .returned (.bool true) ∧ Below wq.heap.size wq w')
    (hQ : ∀ a' w1, Fwa a' { v with v7 := .bool true } → Below wq.heap.size wq w1 → K a' w1) :
    Code.wp Tryz.prog c (Exit.then K fun _ _ _ => False) a wq := by
  have HQ := hide hQ
  clear hQ
  obtain ⟨v0, v1, v2, v6, v7, v8, v9, v10, v11, v12, v13, v14, v15, v16, v17, v18, v19, v20⟩ := v
  obtain ⟨u, rfl⟩ := frx_wa hF
  clear hF
  simp only [Tryz.f7, Option.getD_some, regOf] at hc
  injection hc with hc
  subst hc
  have HE := hide hE
  clear hE
  go_wp2_with (go_at_call 8; refine HE.out.mono ?_; rintro e w1 ⟨rfl, b1⟩; have B1 := hide b1; clear b1)
  exact HQ.out _ _ ⟨rfl, rfl, rfl, rfl, rfl, rfl, rfl, rfl, rfl, rfl, rfl, rfl, rfl, rfl, rfl, rfl, rfl, rfl, rfl, rfl⟩ B1.out
theorem wa_r2 {K : Act → World → Prop} {c : Code} (hc : regOf (Tryz.f7.body.getD .skip) 2 = some c) (a : Act) {v : Vwa} {wq : World} {n ec : Int} {R : Option Addr → World → Prop} (hF : Fwa a v) (h0v : v.v0 = .int .i64 n) (hE : Calls Tryz.prog 9 #[.int .i64 n] wq fun e w' => ∃ po, e = .returned (.tuple #[.pointer po, .int .i64 ec]) ∧ R po w')
    (hQ : ∀ a' w1 po, Fwa a' { v with v8 := .pointer po, v9 := .int .i64 ec } → R po w1 → K a' w1) :
    Code.wp Tryz.prog c (Exit.then K fun _ _ _ => False) a wq := by
  have HQ := hide hQ
  clear hQ
  obtain ⟨v0, v1, v2, v6, v7, v8, v9, v10, v11, v12, v13, v14, v15, v16, v17, v18, v19, v20⟩ := v
  simp only at h0v HQ
  subst h0v
  obtain ⟨u, rfl⟩ := frx_wa hF
  clear hF
  simp only [Tryz.f7, Option.getD_some, regOf] at hc
  injection hc with hc
  subst hc
  have HE := hide hE
  clear hE
  go_wp2_with (go_at_call 9; refine HE.out.mono ?_; rintro e w1 ⟨po, rfl, r1⟩; have R1 := hide r1; clear r1)
  exact HQ.out _ _ _ ⟨rfl, rfl, rfl, rfl, rfl, rfl, rfl, rfl, rfl, rfl, rfl, rfl, rfl, rfl, rfl, rfl, rfl, rfl, rfl, rfl⟩ R1.out
theorem wa_r3b {K : Act → World → Prop} {c : Code} (hc : regOf (Tryz.f7.body.getD .skip) 3 = some c) (a : Act) {v : Vwa} {wq : World}  (hF : Fwa a v) (h9v : v.v9 = .int .i64 1) (hQ : ∀ a', Fwa a' v → a'.tmps.getD 32 undef = .bool true → K a' wq) :
    Code.wp Tryz.prog c (Exit.then K fun _ _ _ => False) a wq := by
  have HQ := hide hQ
  clear hQ
  obtain ⟨v0, v1, v2, v6, v7, v8, v9, v10, v11, v12, v13, v14, v15, v16, v17, v18, v19, v20⟩ := v
  simp only at h9v HQ
  subst h9v
  obtain ⟨u, rfl⟩ := frx_wa hF
  clear hF
  simp only [Tryz.f7, Option.getD_some, regOf] at hc
  injection hc with hc
  subst hc
  go_wp2
  exact HQ.out _ ⟨rfl, rfl, rfl, rfl, rfl, rfl, rfl, rfl, rfl, rfl, rfl, rfl, rfl, rfl, rfl, rfl, rfl, rfl, rfl, rfl⟩ (by first | rfl | (simp; done))
theorem wa_r3g {K : Act → World → Prop} {c : Code} (hc : regOf (Tryz.f7.body.getD .skip) 3 = some c) (a : Act) {v : Vwa} {wq : World} {mb : Nat} (hF : Fwa a v) (h8v : v.v8 = .pointer (some ⟨mb, 0, none⟩)) (h9v : v.v9 = .int .i64 0) (hQ : ∀ a', Fwa a' v → a'.tmps.getD 32 undef = .bool false → K a' wq) :
    Code.wp Tryz.prog c (Exit.then K fun _ _ _ => False) a wq := by
  have HQ := hide hQ
  clear hQ
  obtain ⟨v0, v1, v2, v6, v7, v8, v9, v10, v11, v12, v13, v14, v15, v16, v17, v18, v19, v20⟩ := v
  simp only at h8v h9v HQ
  subst h8v h9v
  obtain ⟨u, rfl⟩ := frx_wa hF
  clear hF
  simp only [Tryz.f7, Option.getD_some, regOf] at hc
  injection hc with hc
  subst hc
  go_wp2
  exact HQ.out _ ⟨rfl, rfl, rfl, rfl, rfl, rfl, rfl, rfl, rfl, rfl, rfl, rfl, rfl, rfl, rfl, rfl, rfl, rfl, rfl, rfl⟩ (by first | rfl | (simp; done))
theorem wa_r4 {K : Act → World → Prop} {c : Code} (hc : regOf (Tryz.f7.body.getD .skip) 4 = some c) (a : Act) {v : Vwa} {wq : World}  (hF : Fwa a v) (h7v : v.v7 = .bool true) (h8v : v.v8 = .pointer none) (hQ : ∀ a', Fwa a' { v with v6 := .bool true } → K a' wq) :
    Code.wp Tryz.prog c (Exit.then K fun _ _ _ => False) a wq := by
  have HQ := hide hQ
  clear hQ
  obtain ⟨v0, v1, v2, v6, v7, v8, v9, v10, v11, v12, v13, v14, v15, v16, v17, v18, v19, v20⟩ := v
  simp only at h7v h8v HQ
  subst h7v h8v
  obtain ⟨u, rfl⟩ := frx_wa hF
  clear hF
  simp only [Tryz.f7, Option.getD_some, regOf] at hc
  injection hc with hc
  subst hc
  go_wp2
  exact HQ.out _ ⟨rfl, rfl, rfl, rfl, rfl, rfl, rfl, rfl, rfl, rfl, rfl, rfl, rfl, rfl, rfl, rfl, rfl, rfl, rfl, rfl⟩
theorem wa_r5 {K : Act → World → Prop} {c : Code} (hc : regOf (Tryz.f7.body.getD .skip) 5 = some c) (a : Act) {v : Vwa} {wq : World}  (hF : Fwa a v) (hQ : ∀ a', Fwa a' { v with v10 := .slice (some ⟨wq.heap.size, 0, none⟩) 7 7 } → K a' (wq.alloc (.cells none7 4))) :
    Code.wp Tryz.prog c (Exit.then K fun _ _ _ => False) a wq := by
  have HQ := hide hQ
  clear hQ
  obtain ⟨v0, v1, v2, v6, v7, v8, v9, v10, v11, v12, v13, v14, v15, v16, v17, v18, v19, v20⟩ := v
  obtain ⟨u, rfl⟩ := frx_wa hF
  clear hF
  simp only [Tryz.f7, Option.getD_some, regOf] at hc
  injection hc with hc
  subst hc
  have hmk := makeIn
  go_wp2
  exact HQ.out _ ⟨rfl, rfl, rfl, rfl, rfl, rfl, rfl, rfl, rfl, rfl, rfl, rfl, rfl, rfl, rfl, rfl, rfl, rfl, rfl, rfl⟩
theorem wa_r6 {K : Act → World → Prop} {c : Code} (hc : regOf (Tryz.f7.body.getD .skip) 6 = some c) (a : Act) {v : Vwa} {wq : World}  (hF : Fwa a v) (hQ : ∀ a', Fwa a' { v with v11 := .int .i64 ((0 : Nat) : Int) } → K a' wq) :
    Code.wp Tryz.prog c (Exit.then K fun _ _ _ => False) a wq := by
  have HQ := hide hQ
  clear hQ
  obtain ⟨v0, v1, v2, v6, v7, v8, v9, v10, v11, v12, v13, v14, v15, v16, v17, v18, v19, v20⟩ := v
  obtain ⟨u, rfl⟩ := frx_wa hF
  clear hF
  simp only [Tryz.f7, Option.getD_some, regOf] at hc
  injection hc with hc
  subst hc
  go_wp2
  exact HQ.out _ ⟨rfl, rfl, rfl, rfl, rfl, rfl, rfl, rfl, rfl, rfl, rfl, rfl, rfl, rfl, rfl, rfl, rfl, rfl, rfl, rfl⟩
theorem wa_r7 {K : Act → World → Prop} {c : Code} (hc : regOf (Tryz.f7.body.getD .skip) 7 = some c) (a : Act) {v : Vwa} {wq : World} {k : Nat} {n : Int} (hF : Fwa a v) (h0v : v.v0 = .int .i64 n) (h11v : v.v11 = .int .i64 (k : Int)) (hQ : ∀ a', Fwa a' v → a'.tmps.getD 41 undef = .bool (decide ((k : Int) < n)) → K a' wq) :
    Code.wp Tryz.prog c (Exit.then K fun _ _ _ => False) a wq := by
  have HQ := hide hQ
  clear hQ
  obtain ⟨v0, v1, v2, v6, v7, v8, v9, v10, v11, v12, v13, v14, v15, v16, v17, v18, v19, v20⟩ := v
  simp only at h0v h11v HQ
  subst h0v h11v
  obtain ⟨u, rfl⟩ := frx_wa hF
  clear hF
  simp only [Tryz.f7, Option.getD_some, regOf] at hc
  injection hc with hc
  subst hc
  go_wp2
  exact HQ.out _ ⟨rfl, rfl, rfl, rfl, rfl, rfl, rfl, rfl, rfl, rfl, rfl, rfl, rfl, rfl, rfl, rfl, rfl, rfl, rfl, rfl⟩ (by first | rfl | (simp; done))
theorem wa_r9 {K : Act → World → Prop} {c : Code} (hc : regOf (Tryz.f7.body.getD .skip) 9 = some c) (a : Act) {v : Vwa} {wq : World} {ib k : Nat} {bs : Array Value} {y : Value} (hF : Fwa a v) (h10v : v.v10 = .slice (some ⟨ib, 0, none⟩) 7 7) (h11v : v.v11 = .int .i64 (k : Int)) (hI : wq.heap[ib]? = some (.cells bs 4 (0, 0))) (hk : k < 7) (hy : bs[k]? = some y)
    (hQ : ∀ a', Fwa a' v → K a' (wq.setCell ⟨ib, k, none⟩ (.bool true))) :
    Code.wp Tryz.prog c (Exit.then K fun _ _ _ => False) a wq := by
  have HQ := hide hQ
  clear hQ
  obtain ⟨v0, v1, v2, v6, v7, v8, v9, v10, v11, v12, v13, v14, v15, v16, v17, v18, v19, v20⟩ := v
  simp only at h10v h11v HQ
  subst h10v h11v
  obtain ⟨u, rfl⟩ := frx_wa hF
  clear hF
  simp only [Tryz.f7, Option.getD_some, regOf] at hc
  injection hc with hc
  subst hc
  have z0 := box_cell hI k hy
  have f0 := box_free hI k
  have i0 : (0 : Int) ≤ (k : Int) := by omega
  have i1 : (k : Int) < 7 := by omega
  clear hI
  go_wp2
  exact HQ.out _ ⟨rfl, rfl, rfl, rfl, rfl, rfl, rfl, rfl, rfl, rfl, rfl, rfl, rfl, rfl, rfl, rfl, rfl, rfl, rfl, rfl⟩
theorem wa_r8 {K : Act → World → Prop} {c : Code} (hc : regOf (Tryz.f7.body.getD .skip) 8 = some c) (a : Act) {v : Vwa} {wq : World} {i : Nat} (hF : Fwa a v) (h11v : v.v11 = .int .i64 (i : Int)) (hi : i ≤ 1000000)
    (hQ : ∀ a', Fwa a' { v with v11 := .int .i64 ((i + 1 : Nat) : Int) } → K a' wq) :
    Code.wp Tryz.prog c (Exit.then K fun _ _ _ => False) a wq := by
  have HQ := hide hQ
  clear hQ
  obtain ⟨v0, v1, v2, v6, v7, v8, v9, v10, v11, v12, v13, v14, v15, v16, v17, v18, v19, v20⟩ := v
  simp only at h11v HQ
  subst h11v
  obtain ⟨u, rfl⟩ := frx_wa hF
  clear hF
  simp only [Tryz.f7, Option.getD_some, regOf] at hc
  injection hc with hc
  subst hc
  go_wp2
  exact HQ.out _ ⟨rfl, rfl, rfl, rfl, rfl, rfl, rfl, rfl, rfl, rfl, (by first | rfl | (simp; done) | (go_num; done)), rfl, rfl, rfl, rfl, rfl, rfl, rfl, rfl, rfl⟩
theorem wa_r20 {K : Act → World → Prop} {c : Code} (hc : regOf (Tryz.f7.body.getD .skip) 20 = some c) (a : Act) {v : Vwa} {wq : World} {i : Nat} (hF : Fwa a v) (h15v : v.v15 = .int .i64 (i : Int)) (hi : i ≤ 1000000)
    (hQ : ∀ a', Fwa a' { v with v15 := .int .i64 ((i + 1 : Nat) : Int) } → K a' wq) :
    Code.wp Tryz.prog c (Exit.then K fun _ _ _ => False) a wq := by
  have HQ := hide hQ
  clear hQ
  obtain ⟨v0, v1, v2, v6, v7, v8, v9, v10, v11, v12, v13, v14, v15, v16, v17, v18, v19, v20⟩ := v
  simp only at h15v HQ
  subst h15v
  obtain ⟨u, rfl⟩ := frx_wa hF
  clear hF
  simp only [Tryz.f7, Option.getD_some, regOf] at hc
  injection hc with hc
  subst hc
  go_wp2
  exact HQ.out _ ⟨rfl, rfl, rfl, rfl, rfl, rfl, rfl, rfl, rfl, rfl, rfl, rfl, rfl, rfl, (by first | rfl | (simp; done) | (go_num; done)), rfl, rfl, rfl, rfl, rfl⟩
theorem wa_r22 {K : Act → World → Prop} {c : Code} (hc : regOf (Tryz.f7.body.getD .skip) 22 = some c) (a : Act) {v : Vwa} {wq : World} {i : Nat} (hF : Fwa a v) (h14v : v.v14 = .int .i64 (i : Int)) (hi : i ≤ 1000000)
    (hQ : ∀ a', Fwa a' { v with v14 := .int .i64 ((i + 1 : Nat) : Int) } → K a' wq) :
    Code.wp Tryz.prog c (Exit.then K fun _ _ _ => False) a wq := by
  have HQ := hide hQ
  clear hQ
  obtain ⟨v0, v1, v2, v6, v7, v8, v9, v10, v11, v12, v13, v14, v15, v16, v17, v18, v19, v20⟩ := v
  simp only at h14v HQ
  subst h14v
  obtain ⟨u, rfl⟩ := frx_wa hF
  clear hF
  simp only [Tryz.f7, Option.getD_some, regOf] at hc
  injection hc with hc
  subst hc
  go_wp2
  exact HQ.out _ ⟨rfl, rfl, rfl, rfl, rfl, rfl, rfl, rfl, rfl, rfl, rfl, rfl, rfl, (by first | rfl | (simp; done) | (go_num; done)), rfl, rfl, rfl, rfl, rfl, rfl⟩
theorem wa_r32 {K : Act → World → Prop} {c : Code} (hc : regOf (Tryz.f7.body.getD .skip) 32 = some c) (a : Act) {v : Vwa} {wq : World} {i : Nat} (hF : Fwa a v) (h14v : v.v14 = .int .i64 (i : Int)) (hi : i ≤ 1000000)
    (hQ : ∀ a', Fwa a' { v with v14 := .int .i64 ((i + 1 : Nat) : Int) } → K a' wq) :
    Code.wp Tryz.prog c (Exit.then K fun _ _ _ => False) a wq := by
  have HQ := hide hQ
  clear hQ
  obtain ⟨v0, v1, v2, v6, v7, v8, v9, v10, v11, v12, v13, v14, v15, v16, v17, v18, v19, v20⟩ := v
  simp only at h14v HQ
  subst h14v
  obtain ⟨u, rfl⟩ := frx_wa hF
  clear hF
  simp only [Tryz.f7, Option.getD_some, regOf] at hc
  injection hc with hc
  subst hc
  go_wp2
  exact HQ.out _ ⟨rfl, rfl, rfl, rfl, rfl, rfl, rfl, rfl, rfl, rfl, rfl, rfl, rfl, (by first | rfl | (simp; done) | (go_num; done)), rfl, rfl, rfl, rfl, rfl, rfl⟩
theorem wa_r12 {K : Act → World → Prop} {c : Code} (hc : regOf (Tryz.f7.body.getD .skip) 12 = some c) (a : Act) {v : Vwa} {wq : World} {i : Nat} (hF : Fwa a v) (h12v : v.v12 = .int .i64 (i : Int)) (hi : i ≤ 1000000)
    (hQ : ∀ a', Fwa a' { v with v12 := .int .i64 ((i + 1 : Nat) : Int) } → K a' wq) :
    Code.wp Tryz.prog c (Exit.then K fun _ _ _ => False) a wq := by
  have HQ := hide hQ
  clear hQ
  obtain ⟨v0, v1, v2, v6, v7, v8, v9, v10, v11, v12, v13, v14, v15, v16, v17, v18, v19, v20⟩ := v
  simp only at h12v HQ
  subst h12v
  obtain ⟨u, rfl⟩ := frx_wa hF
  clear hF
  simp only [Tryz.f7, Option.getD_some, regOf] at hc
  injection hc with hc
  subst hc
  go_wp2
  exact HQ.out _ ⟨rfl, rfl, rfl, rfl, rfl, rfl, rfl, rfl, rfl, rfl, rfl, (by first | rfl | (simp; done) | (go_num; done)), rfl, rfl, rfl, rfl, rfl, rfl, rfl, rfl⟩
theorem wa_r43 {K : Act → World → Prop} {c : Code} (hc : regOf (Tryz.f7.body.getD .skip) 43 = some c) (a : Act) {v : Vwa} {wq : World} {i : Nat} (hF : Fwa a v) (h19v : v.v19 = .int .i64 (i : Int)) (hi : i ≤ 1000000)
    (hQ : ∀ a', Fwa a' { v with v19 := .int .i64 ((i + 1 : Nat) : Int) } → K a' wq) :
    Code.wp Tryz.prog c (Exit.then K fun _ _ _ => False) a wq := by
  have HQ := hide hQ
  clear hQ
  obtain ⟨v0, v1, v2, v6, v7, v8, v9, v10, v11, v12, v13, v14, v15, v16, v17, v18, v19, v20⟩ := v
  simp only at h19v HQ
  subst h19v
  obtain ⟨u, rfl⟩ := frx_wa hF
  clear hF
  simp only [Tryz.f7, Option.getD_some, regOf] at hc
  injection hc with hc
  subst hc
  go_wp2
  exact HQ.out _ ⟨rfl, rfl, rfl, rfl, rfl, rfl, rfl, rfl, rfl, rfl, rfl, rfl, rfl, rfl, rfl, rfl, rfl, rfl, (by first | rfl | (simp; done) | (go_num; done)), rfl⟩
theorem wa_r39 {K : Act → World → Prop} {c : Code} (hc : regOf (Tryz.f7.body.getD .skip) 39 = some c) (a : Act) {v : Vwa} {wq : World} {i : Nat} (hF : Fwa a v) (h20v : v.v20 = .int .i64 (i : Int)) (hi : i ≤ 1000000)
    (hQ : ∀ a', Fwa a' { v with v20 := .int .i64 ((i + 1 : Nat) : Int) } → K a' wq) :
    Code.wp Tryz.prog c (Exit.then K fun _ _ _ => False) a wq := by
  have HQ := hide hQ
  clear hQ
  obtain ⟨v0, v1, v2, v6, v7, v8, v9, v10, v11, v12, v13, v14, v15, v16, v17, v18, v19, v20⟩ := v
  simp only at h20v HQ
  subst h20v
  obtain ⟨u, rfl⟩ := frx_wa hF
  clear hF
  simp only [Tryz.f7, Option.getD_some, regOf] at hc
  injection hc with hc
  subst hc
  go_wp2
  exact HQ.out _ ⟨rfl, rfl, rfl, rfl, rfl, rfl, rfl, rfl, rfl, rfl, rfl, rfl, rfl, rfl, rfl, rfl, rfl, rfl, rfl, (by first | rfl | (simp; done) | (go_num; done))⟩
theorem wa_r10 {K : Act → World → Prop} {c : Code} (hc : regOf (Tryz.f7.body.getD .skip) 10 = some c) (a : Act) {v : Vwa} {wq : World}  (hF : Fwa a v) (hQ : ∀ a', Fwa a' { v with v12 := .int .i64 ((0 : Nat) : Int) } → K a' wq) :
    Code.wp Tryz.prog c (Exit.then K fun _ _ _ => False) a wq := by
  have HQ := hide hQ
  clear hQ
  obtain ⟨v0, v1, v2, v6, v7, v8, v9, v10, v11, v12, v13, v14, v15, v16, v17, v18, v19, v20⟩ := v
  obtain ⟨u, rfl⟩ := frx_wa hF
  clear hF
  simp only [Tryz.f7, Option.getD_some, regOf] at hc
  injection hc with hc
  subst hc
  go_wp2
  exact HQ.out _ ⟨rfl, rfl, rfl, rfl, rfl, rfl, rfl, rfl, rfl, rfl, rfl, rfl, rfl, rfl, rfl, rfl, rfl, rfl, rfl, rfl⟩
theorem wa_r11a {K : Act → World → Prop} {c : Code} (hc : regOf (Tryz.f7.body.getD .skip) 11 = some c) (a : Act) {v : Vwa} {wq : World} {ao bo : Option Addr} {n m cp cq k : Nat} (hF : Fwa a v) (h1v : v.v1 = .slice ao n cp) (h2v : v.v2 = .slice bo m cq) (h12v : v.v12 = .int .i64 (k : Int)) (hk : ¬ (k : Int) < (n : Int)) (hQ : ∀ a', Fwa a' v → a'.tmps.getD 60 undef = .bool false → K a' wq) :
    Code.wp Tryz.prog c (Exit.then K fun _ _ _ => False) a wq := by
  have HQ := hide hQ
  clear hQ
  obtain ⟨v0, v1, v2, v6, v7, v8, v9, v10, v11, v12, v13, v14, v15, v16, v17, v18, v19, v20⟩ := v
  simp only at h1v h2v h12v HQ
  subst h1v h2v h12v
  obtain ⟨u, rfl⟩ := frx_wa hF
  clear hF
  simp only [Tryz.f7, Option.getD_some, regOf] at hc
  injection hc with hc
  subst hc
  have hd : decide ((k : Int) < (n : Int)) = false := decide_eq_false hk
  go_wp2
  exact HQ.out _ ⟨rfl, rfl, rfl, rfl, rfl, rfl, rfl, rfl, rfl, rfl, rfl, rfl, rfl, rfl, rfl, rfl, rfl, rfl, rfl, rfl⟩ (by first | rfl | (simp; done))
theorem wa_r11b {K : Act → World → Prop} {c : Code} (hc : regOf (Tryz.f7.body.getD .skip) 11 = some c) (a : Act) {v : Vwa} {wq : World} {ao bo : Option Addr} {n m cp cq k : Nat} (hF : Fwa a v) (h1v : v.v1 = .slice ao n cp) (h2v : v.v2 = .slice bo m cq) (h12v : v.v12 = .int .i64 (k : Int)) (hk : (k : Int) < (n : Int)) (hm : ¬ (k : Int) < (m : Int)) (hQ : ∀ a', Fwa a' v → a'.tmps.getD 60 undef = .bool false → K a' wq) :
    Code.wp Tryz.prog c (Exit.then K fun _ _ _ => False) a wq := by
  have HQ := hide hQ
  clear hQ
  obtain ⟨v0, v1, v2, v6, v7, v8, v9, v10, v11, v12, v13, v14, v15, v16, v17, v18, v19, v20⟩ := v
  simp only at h1v h2v h12v HQ
  subst h1v h2v h12v
  obtain ⟨u, rfl⟩ := frx_wa hF
  clear hF
  simp only [Tryz.f7, Option.getD_some, regOf] at hc
  injection hc with hc
  subst hc
  have hd : decide ((k : Int) < (n : Int)) = true := decide_eq_true hk
  have he : decide ((k : Int) < (m : Int)) = false := decide_eq_false hm
  go_wp2
  exact HQ.out _ ⟨rfl, rfl, rfl, rfl, rfl, rfl, rfl, rfl, rfl, rfl, rfl, rfl, rfl, rfl, rfl, rfl, rfl, rfl, rfl, rfl⟩ (by first | rfl | (simp; done))
theorem wa_r11c {K : Act → World → Prop} {c : Code} (hc : regOf (Tryz.f7.body.getD .skip) 11 = some c) (a : Act) {v : Vwa} {wq : World} {ao bo : Option Addr} {n m cp cq k : Nat} (hF : Fwa a v) (h1v : v.v1 = .slice ao n cp) (h2v : v.v2 = .slice bo m cq) (h12v : v.v12 = .int .i64 (k : Int)) (hk : (k : Int) < (n : Int)) (hm : (k : Int) < (m : Int)) (hQ : ∀ a', Fwa a' v → a'.tmps.getD 60 undef = .bool (decide ((k : Int) < 40)) → K a' wq) :
    Code.wp Tryz.prog c (Exit.then K fun _ _ _ => False) a wq := by
  have HQ := hide hQ
  clear hQ
  obtain ⟨v0, v1, v2, v6, v7, v8, v9, v10, v11, v12, v13, v14, v15, v16, v17, v18, v19, v20⟩ := v
  simp only at h1v h2v h12v HQ
  subst h1v h2v h12v
  obtain ⟨u, rfl⟩ := frx_wa hF
  clear hF
  simp only [Tryz.f7, Option.getD_some, regOf] at hc
  injection hc with hc
  subst hc
  have hd : decide ((k : Int) < (n : Int)) = true := decide_eq_true hk
  have he : decide ((k : Int) < (m : Int)) = true := decide_eq_true hm
  go_wp2
  exact HQ.out _ ⟨rfl, rfl, rfl, rfl, rfl, rfl, rfl, rfl, rfl, rfl, rfl, rfl, rfl, rfl, rfl, rfl, rfl, rfl, rfl, rfl⟩ (by first | rfl | (simp; done))
theorem wa_r13 {K : Act → World → Prop} {c : Code} (hc : regOf (Tryz.f7.body.getD .skip) 13 = some c) (a : Act) {v : Vwa} {wq : World} {ab af n cp k : Nat} {x : Int} (hF : Fwa a v) (h1v : v.v1 = .slice (some ⟨ab, af, none⟩) n cp) (h12v : v.v12 = .int .i64 (k : Int)) (hk : k < n) (hB : wq.cell? ⟨ab, af + k, none⟩ = some (.int .i64 x)) (hQ : ∀ a', Fwa a' { v with v13 := .int .i64 x } → K a' wq) :
    Code.wp Tryz.prog c (Exit.then K fun _ _ _ => False) a wq := by
  have HQ := hide hQ
  clear hQ
  obtain ⟨v0, v1, v2, v6, v7, v8, v9, v10, v11, v12, v13, v14, v15, v16, v17, v18, v19, v20⟩ := v
  simp only at h1v h12v HQ
  subst h1v h12v
  obtain ⟨u, rfl⟩ := frx_wa hF
  clear hF
  simp only [Tryz.f7, Option.getD_some, regOf] at hc
  injection hc with hc
  subst hc
  have i0 : (0 : Int) ≤ (k : Int) := by omega
  have i1 : (k : Int) < (n : Int) := by omega
  go_wp2
  exact HQ.out _ ⟨rfl, rfl, rfl, rfl, rfl, rfl, rfl, rfl, rfl, rfl, rfl, rfl, rfl, rfl, rfl, rfl, rfl, rfl, rfl, rfl⟩
theorem wa_r14 {K : Act → World → Prop} {c : Code} (hc : regOf (Tryz.f7.body.getD .skip) 14 = some c) (a : Act) {v : Vwa} {wq : World} {x : Int} (hF : Fwa a v) (h13v : v.v13 = .int .i64 x) (hQ : ∀ a', Fwa a' v → a'.tmps.getD 68 undef = .bool (decide (x < 0)) → K a' wq) :
    Code.wp Tryz.prog c (Exit.then K fun _ _ _ => False) a wq := by
  have HQ := hide hQ
  clear hQ
  obtain ⟨v0, v1, v2, v6, v7, v8, v9, v10, v11, v12, v13, v14, v15, v16, v17, v18, v19, v20⟩ := v
  simp only at h13v HQ
  subst h13v
  obtain ⟨u, rfl⟩ := frx_wa hF
  clear hF
  simp only [Tryz.f7, Option.getD_some, regOf] at hc
  injection hc with hc
  subst hc
  go_wp2
  exact HQ.out _ ⟨rfl, rfl, rfl, rfl, rfl, rfl, rfl, rfl, rfl, rfl, rfl, rfl, rfl, rfl, rfl, rfl, rfl, rfl, rfl, rfl⟩ (by first | rfl | (simp; done))
theorem wa_r15 {K : Act → World → Prop} {c : Code} (hc : regOf (Tryz.f7.body.getD .skip) 15 = some c) (a : Act) {v : Vwa} {wq : World} {x : Int} (hF : Fwa a v) (h13v : v.v13 = .int .i64 x) (hx : -9223372036854775808 ≤ x ∧ x < 0) (hQ : ∀ a', Fwa a' { v with v13 := .int .i64 (-(x + 1)) } → K a' wq) :
    Code.wp Tryz.prog c (Exit.then K fun _ _ _ => False) a wq := by
  have HQ := hide hQ
  clear hQ
  obtain ⟨v0, v1, v2, v6, v7, v8, v9, v10, v11, v12, v13, v14, v15, v16, v17, v18, v19, v20⟩ := v
  simp only at h13v HQ
  subst h13v
  obtain ⟨u, rfl⟩ := frx_wa hF
  clear hF
  simp only [Tryz.f7, Option.getD_some, regOf] at hc
  injection hc with hc
  subst hc
  have h1 : IntKind.i64.wrap (x + 1) = x + 1 := by rw [IntKind.wrap_i64]; omega
  have h2 : IntKind.i64.wrap (-(x + 1)) = -(x + 1) := by rw [IntKind.wrap_i64]; omega
  go_wp2
  exact HQ.out _ ⟨rfl, rfl, rfl, rfl, rfl, rfl, rfl, rfl, rfl, rfl, rfl, rfl, rfl, rfl, rfl, rfl, rfl, rfl, rfl, rfl⟩
theorem wa_r16 {K : Act → World → Prop} {c : Code} (hc : regOf (Tryz.f7.body.getD .skip) 16 = some c) (a : Act) {v : Vwa} {wq : World} {p : Nat} (hF : Fwa a v) (h13v : v.v13 = .int .i64 (p : Int)) (hp : p ≤ 9223372036854775807)
    (hQ : ∀ a', Fwa a' { v with v13 := .int .i64 ((p % 7 : Nat) : Int) } → K a' wq) :
    Code.wp Tryz.prog c (Exit.then K fun _ _ _ => False) a wq := by
  have HQ := hide hQ
  clear hQ
  obtain ⟨v0, v1, v2, v6, v7, v8, v9, v10, v11, v12, v13, v14, v15, v16, v17, v18, v19, v20⟩ := v
  simp only at h13v HQ
  subst h13v
  obtain ⟨u, rfl⟩ := frx_wa hF
  clear hF
  simp only [Tryz.f7, Option.getD_some, regOf] at hc
  injection hc with hc
  subst hc
  have h1 : (p : Int).tmod 7 = ((p % 7 : Nat) : Int) := rfl
  have h2 : IntKind.i64.wrap ((p % 7 : Nat) : Int) = ((p % 7 : Nat) : Int) := by rw [IntKind.wrap_i64]; omega
  go_wp2
  exact HQ.out _ ⟨rfl, rfl, rfl, rfl, rfl, rfl, rfl, rfl, rfl, rfl, rfl, rfl, (by first | rfl | (simp [h1, h2]; done) | (go_num; done)), rfl, rfl, rfl, rfl, rfl, rfl, rfl⟩
theorem wa_r17 {K : Act → World → Prop} {c : Code} (hc : regOf (Tryz.f7.body.getD .skip) 17 = some c) (a : Act) {v : Vwa} {wq : World}  (hF : Fwa a v) (hQ : ∀ a', Fwa a' { v with v14 := .int .i64 ((0 : Nat) : Int) } → K a' wq) :
    Code.wp Tryz.prog c (Exit.then K fun _ _ _ => False) a wq := by
  have HQ := hide hQ
  clear hQ
  obtain ⟨v0, v1, v2, v6, v7, v8, v9, v10, v11, v12, v13, v14, v15, v16, v17, v18, v19, v20⟩ := v
  obtain ⟨u, rfl⟩ := frx_wa hF
  clear hF
  simp only [Tryz.f7, Option.getD_some, regOf] at hc
  injection hc with hc
  subst hc
  go_wp2
  exact HQ.out _ ⟨rfl, rfl, rfl, rfl, rfl, rfl, rfl, rfl, rfl, rfl, rfl, rfl, rfl, rfl, rfl, rfl, rfl, rfl, rfl, rfl⟩
theorem wa_r18 {K : Act → World → Prop} {c : Code} (hc : regOf (Tryz.f7.body.getD .skip) 18 = some c) (a : Act) {v : Vwa} {wq : World}  (hF : Fwa a v) (hQ : ∀ a', Fwa a' { v with v15 := .int .i64 ((0 : Nat) : Int) } → K a' wq) :
    Code.wp Tryz.prog c (Exit.then K fun _ _ _ => False) a wq := by
  have HQ := hide hQ
  clear hQ
  obtain ⟨v0, v1, v2, v6, v7, v8, v9, v10, v11, v12, v13, v14, v15, v16, v17, v18, v19, v20⟩ := v
  obtain ⟨u, rfl⟩ := frx_wa hF
  clear hF
  simp only [Tryz.f7, Option.getD_some, regOf] at hc
  injection hc with hc
  subst hc
  go_wp2
  exact HQ.out _ ⟨rfl, rfl, rfl, rfl, rfl, rfl, rfl, rfl, rfl, rfl, rfl, rfl, rfl, rfl, rfl, rfl, rfl, rfl, rfl, rfl⟩
theorem wa_r19 {K : Act → World → Prop} {c : Code} (hc : regOf (Tryz.f7.body.getD .skip) 19 = some c) (a : Act) {v : Vwa} {wq : World} {k : Nat} (hF : Fwa a v) (h15v : v.v15 = .int .i64 (k : Int)) (hQ : ∀ a', Fwa a' v → a'.tmps.getD 75 undef = .bool (decide ((k : Int) < 7)) → K a' wq) :
    Code.wp Tryz.prog c (Exit.then K fun _ _ _ => False) a wq := by
  have HQ := hide hQ
  clear hQ
  obtain ⟨v0, v1, v2, v6, v7, v8, v9, v10, v11, v12, v13, v14, v15, v16, v17, v18, v19, v20⟩ := v
  simp only at h15v HQ
  subst h15v
  obtain ⟨u, rfl⟩ := frx_wa hF
  clear hF
  simp only [Tryz.f7, Option.getD_some, regOf] at hc
  injection hc with hc
  subst hc
  go_wp2
  exact HQ.out _ ⟨rfl, rfl, rfl, rfl, rfl, rfl, rfl, rfl, rfl, rfl, rfl, rfl, rfl, rfl, rfl, rfl, rfl, rfl, rfl, rfl⟩ (by first | rfl | (simp; done))
theorem wa_r21f {K : Act → World → Prop} {c : Code} (hc : regOf (Tryz.f7.body.getD .skip) 21 = some c) (a : Act) {v : Vwa} {wq : World} {ib k m : Nat} {bs : Array Value} (hF : Fwa a v) (h10v : v.v10 = .slice (some ⟨ib, 0, none⟩) 7 7) (h13v : v.v13 = .int .i64 (m : Int)) (h15v : v.v15 = .int .i64 (k : Int)) (hI : wq.heap[ib]? = some (.cells bs 4 (0, 0))) (hk : k < 7) (hy : bs[k]? = some (.bool false)) (hQ : ∀ a', Fwa a' v → a'.tmps.getD 86 undef = .bool false → K a' wq) :
    Code.wp Tryz.prog c (Exit.then K fun _ _ _ => False) a wq := by
  have HQ := hide hQ
  clear hQ
  obtain ⟨v0, v1, v2, v6, v7, v8, v9, v10, v11, v12, v13, v14, v15, v16, v17, v18, v19, v20⟩ := v
  simp only at h10v h13v h15v HQ
  subst h10v h13v h15v
  obtain ⟨u, rfl⟩ := frx_wa hF
  clear hF
  simp only [Tryz.f7, Option.getD_some, regOf] at hc
  injection hc with hc
  subst hc
  have z0 := box_cell hI k hy
  have i0 : (0 : Int) ≤ (k : Int) := by omega
  have i1 : (k : Int) < 7 := by omega
  clear hI
  have hd := hk
  go_wp2
  exact HQ.out _ ⟨rfl, rfl, rfl, rfl, rfl, rfl, rfl, rfl, rfl, rfl, rfl, rfl, rfl, rfl, rfl, rfl, rfl, rfl, rfl, rfl⟩ (by first | rfl | (simp; done) | (simp [hd]; done))
theorem wa_r21e {K : Act → World → Prop} {c : Code} (hc : regOf (Tryz.f7.body.getD .skip) 21 = some c) (a : Act) {v : Vwa} {wq : World} {ib k : Nat} {bs : Array Value} (hF : Fwa a v) (h10v : v.v10 = .slice (some ⟨ib, 0, none⟩) 7 7) (h13v : v.v13 = .int .i64 (k : Int)) (h15v : v.v15 = .int .i64 (k : Int)) (hI : wq.heap[ib]? = some (.cells bs 4 (0, 0))) (hk : k < 7) (hy : bs[k]? = some (.bool true)) (hQ : ∀ a', Fwa a' v → a'.tmps.getD 86 undef = .bool false → K a' wq) :
    Code.wp Tryz.prog c (Exit.then K fun _ _ _ => False) a wq := by
  have HQ := hide hQ
  clear hQ
  obtain ⟨v0, v1, v2, v6, v7, v8, v9, v10, v11, v12, v13, v14, v15, v16, v17, v18, v19, v20⟩ := v
  simp only at h10v h13v h15v HQ
  subst h10v h13v h15v
  obtain ⟨u, rfl⟩ := frx_wa hF
  clear hF
  simp only [Tryz.f7, Option.getD_some, regOf] at hc
  injection hc with hc
  subst hc
  have z0 := box_cell hI k hy
  have i0 : (0 : Int) ≤ (k : Int) := by omega
  have i1 : (k : Int) < 7 := by omega
  clear hI
  have hd := hk
  go_wp2
  exact HQ.out _ ⟨rfl, rfl, rfl, rfl, rfl, rfl, rfl, rfl, rfl, rfl, rfl, rfl, rfl, rfl, rfl, rfl, rfl, rfl, rfl, rfl⟩ (by first | rfl | (simp; done) | (simp [hd]; done))
theorem wa_r21n {K : Act → World → Prop} {c : Code} (hc : regOf (Tryz.f7.body.getD .skip) 21 = some c) (a : Act) {v : Vwa} {wq : World} {ib k m : Nat} {bs : Array Value} (hF : Fwa a v) (h10v : v.v10 = .slice (some ⟨ib, 0, none⟩) 7 7) (h13v : v.v13 = .int .i64 (m : Int)) (h15v : v.v15 = .int .i64 (k : Int)) (hI : wq.heap[ib]? = some (.cells bs 4 (0, 0))) (hk : k < 7) (hy : bs[k]? = some (.bool true)) (he : k ≠ m) (hQ : ∀ a', Fwa a' v → a'.tmps.getD 86 undef = .bool true → K a' wq) :
    Code.wp Tryz.prog c (Exit.then K fun _ _ _ => False) a wq := by
  have HQ := hide hQ
  clear hQ
  obtain ⟨v0, v1, v2, v6, v7, v8, v9, v10, v11, v12, v13, v14, v15, v16, v17, v18, v19, v20⟩ := v
  simp only at h10v h13v h15v HQ
  subst h10v h13v h15v
  obtain ⟨u, rfl⟩ := frx_wa hF
  clear hF
  simp only [Tryz.f7, Option.getD_some, regOf] at hc
  injection hc with hc
  subst hc
  have z0 := box_cell hI k hy
  have i0 : (0 : Int) ≤ (k : Int) := by omega
  have i1 : (k : Int) < 7 := by omega
  clear hI
  have hd : ¬ (k : Int) = (m : Int) := by omega
  go_wp2
  exact HQ.out _ ⟨rfl, rfl, rfl, rfl, rfl, rfl, rfl, rfl, rfl, rfl, rfl, rfl, rfl, rfl, rfl, rfl, rfl, rfl, rfl, rfl⟩ (by first | rfl | (simp; done) | (simp [hd]; done))
theorem wa_r23 {K : Act → World → Prop} {c : Code} (hc : regOf (Tryz.f7.body.getD .skip) 23 = some c) (a : Act) {v : Vwa} {wq : World}  (hF : Fwa a v) (hQ : ∀ a', Fwa a' { v with v16 := .int .i64 11 } → K a' wq) :
    Code.wp Tryz.prog c (Exit.then K fun _ _ _ => False) a wq := by
  have HQ := hide hQ
  clear hQ
  obtain ⟨v0, v1, v2, v6, v7, v8, v9, v10, v11, v12, v13, v14, v15, v16, v17, v18, v19, v20⟩ := v
  obtain ⟨u, rfl⟩ := frx_wa hF
  clear hF
  simp only [Tryz.f7, Option.getD_some, regOf] at hc
  injection hc with hc
  subst hc
  go_wp2
  exact HQ.out _ ⟨rfl, rfl, rfl, rfl, rfl, rfl, rfl, rfl, rfl, rfl, rfl, rfl, rfl, rfl, rfl, rfl, rfl, rfl, rfl, rfl⟩
theorem wa_r25 {K : Act → World → Prop} {c : Code} (hc : regOf (Tryz.f7.body.getD .skip) 25 = some c) (a : Act) {v : Vwa} {wq : World}  (hF : Fwa a v) (hQ : ∀ a', Fwa a' { v with v16 := .int .i64 10 } → K a' wq) :
    Code.wp Tryz.prog c (Exit.then K fun _ _ _ => False) a wq := by
  have HQ := hide hQ
  clear hQ
  obtain ⟨v0, v1, v2, v6, v7, v8, v9, v10, v11, v12, v13, v14, v15, v16, v17, v18, v19, v20⟩ := v
  obtain ⟨u, rfl⟩ := frx_wa hF
  clear hF
  simp only [Tryz.f7, Option.getD_some, regOf] at hc
  injection hc with hc
  subst hc
  go_wp2
  exact HQ.out _ ⟨rfl, rfl, rfl, rfl, rfl, rfl, rfl, rfl, rfl, rfl, rfl, rfl, rfl, rfl, rfl, rfl, rfl, rfl, rfl, rfl⟩
theorem wa_r24 {K : Act → World → Prop} {c : Code} (hc : regOf (Tryz.f7.body.getD .skip) 24 = some c) (a : Act) {v : Vwa} {wq : World} {ab af n cp k : Nat} {jb : Bool} (hF : Fwa a v) (h2v : v.v2 = .slice (some ⟨ab, af, none⟩) n cp) (h12v : v.v12 = .int .i64 (k : Int)) (hk : k < n) (hB : wq.cell? ⟨ab, af + k, none⟩ = some (.bool jb)) (hQ : ∀ a', Fwa a' v → a'.tmps.getD 92 undef = .bool jb → K a' wq) :
    Code.wp Tryz.prog c (Exit.then K fun _ _ _ => False) a wq := by
  have HQ := hide hQ
  clear hQ
  obtain ⟨v0, v1, v2, v6, v7, v8, v9, v10, v11, v12, v13, v14, v15, v16, v17, v18, v19, v20⟩ := v
  simp only at h2v h12v HQ
  subst h2v h12v
  obtain ⟨u, rfl⟩ := frx_wa hF
  clear hF
  simp only [Tryz.f7, Option.getD_some, regOf] at hc
  injection hc with hc
  subst hc
  have i0 : (0 : Int) ≤ (k : Int) := by omega
  have i1 : (k : Int) < (n : Int) := by omega
  go_wp2
  exact HQ.out _ ⟨rfl, rfl, rfl, rfl, rfl, rfl, rfl, rfl, rfl, rfl, rfl, rfl, rfl, rfl, rfl, rfl, rfl, rfl, rfl, rfl⟩ (by first | rfl | (simp; done))
theorem wa_r31 {K : Act → World → Prop} {c : Code} (hc : regOf (Tryz.f7.body.getD .skip) 31 = some c) (a : Act) {v : Vwa} {wq : World} {ab af n cp k : Nat} {jb : Bool} (hF : Fwa a v) (h2v : v.v2 = .slice (some ⟨ab, af, none⟩) n cp) (h12v : v.v12 = .int .i64 (k : Int)) (hk : k < n) (hB : wq.cell? ⟨ab, af + k, none⟩ = some (.bool jb)) (hQ : ∀ a', Fwa a' v → a'.tmps.getD 120 undef = .bool jb → K a' wq) :
    Code.wp Tryz.prog c (Exit.then K fun _ _ _ => False) a wq := by
  have HQ := hide hQ
  clear hQ
  obtain ⟨v0, v1, v2, v6, v7, v8, v9, v10, v11, v12, v13, v14, v15, v16, v17, v18, v19, v20⟩ := v
  simp only at h2v h12v HQ
  subst h2v h12v
  obtain ⟨u, rfl⟩ := frx_wa hF
  clear hF
  simp only [Tryz.f7, Option.getD_some, regOf] at hc
  injection hc with hc
  subst hc
  have i0 : (0 : Int) ≤ (k : Int) := by omega
  have i1 : (k : Int) < (n : Int) := by omega
  go_wp2
  exact HQ.out _ ⟨rfl, rfl, rfl, rfl, rfl, rfl, rfl, rfl, rfl, rfl, rfl, rfl, rfl, rfl, rfl, rfl, rfl, rfl, rfl, rfl⟩ (by first | rfl | (simp; done))
theorem wa_r27j {K : Act → World → Prop} {c : Code} (hc : regOf (Tryz.f7.body.getD .skip) 27 = some c) (a : Act) {v : Vwa} {wq : World} {ab af n cp k : Nat} (hF : Fwa a v) (h2v : v.v2 = .slice (some ⟨ab, af, none⟩) n cp) (h12v : v.v12 = .int .i64 (k : Int)) (hk : k < n) (hB : wq.cell? ⟨ab, af + k, none⟩ = some (.bool true)) (hQ : ∀ a', Fwa a' v → a'.tmps.getD 106 undef = .bool false → K a' wq) :
    Code.wp Tryz.prog c (Exit.then K fun _ _ _ => False) a wq := by
  have HQ := hide hQ
  clear hQ
  obtain ⟨v0, v1, v2, v6, v7, v8, v9, v10, v11, v12, v13, v14, v15, v16, v17, v18, v19, v20⟩ := v
  simp only at h2v h12v HQ
  subst h2v h12v
  obtain ⟨u, rfl⟩ := frx_wa hF
  clear hF
  simp only [Tryz.f7, Option.getD_some, regOf] at hc
  injection hc with hc
  subst hc
  have i0 : (0 : Int) ≤ (k : Int) := by omega
  have i1 : (k : Int) < (n : Int) := by omega
  go_wp2
  exact HQ.out _ ⟨rfl, rfl, rfl, rfl, rfl, rfl, rfl, rfl, rfl, rfl, rfl, rfl, rfl, rfl, rfl, rfl, rfl, rfl, rfl, rfl⟩ (by first | rfl | (simp; done))
theorem wa_r27z {K : Act → World → Prop} {c : Code} (hc : regOf (Tryz.f7.body.getD .skip) 27 = some c) (a : Act) {v : Vwa} {wq : World} {ab af n cp k m : Nat} (hF : Fwa a v) (h14v : v.v14 = .int .i64 (m : Int)) (h2v : v.v2 = .slice (some ⟨ab, af, none⟩) n cp) (h12v : v.v12 = .int .i64 (k : Int)) (hk : k < n) (hB : wq.cell? ⟨ab, af + k, none⟩ = some (.bool false)) (hm : m = 0) (hQ : ∀ a', Fwa a' v → a'.tmps.getD 106 undef = .bool (decide (m = 0)) → K a' wq) :
    Code.wp Tryz.prog c (Exit.then K fun _ _ _ => False) a wq := by
  have HQ := hide hQ
  clear hQ
  obtain ⟨v0, v1, v2, v6, v7, v8, v9, v10, v11, v12, v13, v14, v15, v16, v17, v18, v19, v20⟩ := v
  simp only at h14v h2v h12v HQ
  subst h14v h2v h12v
  obtain ⟨u, rfl⟩ := frx_wa hF
  clear hF
  simp only [Tryz.f7, Option.getD_some, regOf] at hc
  injection hc with hc
  subst hc
  have i0 : (0 : Int) ≤ (k : Int) := by omega
  have i1 : (k : Int) < (n : Int) := by omega
  have hd : ((m : Int) == 0) = true := beq_iff_eq.2 (by omega)
  have he : decide (m = 0) = true := decide_eq_true hm
  rw [he] at HQ
  go_wp2
  exact HQ.out _ ⟨rfl, rfl, rfl, rfl, rfl, rfl, rfl, rfl, rfl, rfl, rfl, rfl, rfl, rfl, rfl, rfl, rfl, rfl, rfl, rfl⟩ (by first | rfl | (simp; done))
theorem wa_r27n {K : Act → World → Prop} {c : Code} (hc : regOf (Tryz.f7.body.getD .skip) 27 = some c) (a : Act) {v : Vwa} {wq : World} {ab af n cp k m : Nat} (hF : Fwa a v) (h14v : v.v14 = .int .i64 (m : Int)) (h2v : v.v2 = .slice (some ⟨ab, af, none⟩) n cp) (h12v : v.v12 = .int .i64 (k : Int)) (hk : k < n) (hB : wq.cell? ⟨ab, af + k, none⟩ = some (.bool false)) (hm : m ≠ 0) (hQ : ∀ a', Fwa a' v → a'.tmps.getD 106 undef = .bool false → K a' wq) :
    Code.wp Tryz.prog c (Exit.then K fun _ _ _ => False) a wq := by
  have HQ := hide hQ
  clear hQ
  obtain ⟨v0, v1, v2, v6, v7, v8, v9, v10, v11, v12, v13, v14, v15, v16, v17, v18, v19, v20⟩ := v
  simp only at h14v h2v h12v HQ
  subst h14v h2v h12v
  obtain ⟨u, rfl⟩ := frx_wa hF
  clear hF
  simp only [Tryz.f7, Option.getD_some, regOf] at hc
  injection hc with hc
  subst hc
  have i0 : (0 : Int) ≤ (k : Int) := by omega
  have i1 : (k : Int) < (n : Int) := by omega
  have hd : ((m : Int) == 0) = false := beq_eq_false_iff_ne.2 (by omega)
  go_wp2
  exact HQ.out _ ⟨rfl, rfl, rfl, rfl, rfl, rfl, rfl, rfl, rfl, rfl, rfl, rfl, rfl, rfl, rfl, rfl, rfl, rfl, rfl, rfl⟩ (by first | rfl | (simp; done))
theorem wa_r26 {K : Act → World → Prop} {c : Code} (hc : regOf (Tryz.f7.body.getD .skip) 26 = some c) (a : Act) {v : Vwa} {wq : World} {mb ln p : Nat} {kd x y : Int} {R : Option Addr → Nat → World → Prop} (hF : Fwa a v) (h8v : v.v8 = .pointer (some ⟨mb, 0, none⟩)) (h13v : v.v13 = .int .i64 (p : Int)) (h16v : v.v16 = .int .i64 kd) (hE : Calls Tryz.prog 19 #[.pointer (some ⟨mb, 0, none⟩), .agg #[.int .i64 kd, .string ⟨#[]⟩, .string ⟨#[]⟩, .int .i64 0, .string ⟨#[]⟩, .string ⟨#[]⟩, .int .i64 (p : Int), .int .i64 0, .int .i64 0]] wq fun e w' => ∃ aq cq, e = .returned (.agg #[.int .i64 x, .int .i64 y, .slice aq ln cq]) ∧ R aq cq w')
    (hQ : ∀ a' w1 aq cq, Fwa a' { v with v17 := .pointer (some ⟨w1.heap.size, 0, none⟩) } → R aq cq w1 → K a' (w1.alloc (.cells #[.int .i64 x, .int .i64 y, .slice aq ln cq] 37))) :
    Code.wp Tryz.prog c (Exit.then K fun _ _ _ => False) a wq := by
  have HQ := hide hQ
  clear hQ
  obtain ⟨v0, v1, v2, v6, v7, v8, v9, v10, v11, v12, v13, v14, v15, v16, v17, v18, v19, v20⟩ := v
  simp only at h8v h13v h16v HQ
  subst h8v h13v h16v
  obtain ⟨u, rfl⟩ := frx_wa hF
  clear hF
  simp only [Tryz.f7, Option.getD_some, regOf] at hc
  injection hc with hc
  subst hc
  have HE := hide hE
  clear hE
  go_wp2_with (go_at_call 19; refine HE.out.mono ?_; rintro e w1 ⟨aq, cq, rfl, r1⟩; have R1 := hide r1; clear r1)
  exact HQ.out _ _ _ _ ⟨rfl, rfl, rfl, rfl, rfl, rfl, rfl, rfl, rfl, rfl, rfl, rfl, rfl, rfl, rfl, rfl, rfl, rfl, rfl, rfl⟩ R1.out
theorem wa_r28 {K : Act → World → Prop} {c : Code} (hc : regOf (Tryz.f7.body.getD .skip) 28 = some c) (a : Act) {v : Vwa} {wq : World} {rb ln qc : Nat} {qo : Option Addr} {x y : Int} (hF : Fwa a v) (h17v : v.v17 = .pointer (some ⟨rb, 0, none⟩)) (hp : wq.heap[rb]? = some (.cells #[.int .i64 x, .int .i64 y, .slice qo ln qc] 37 (0, 0))) (hx : x = 7) (hQ : ∀ a', Fwa a' v → a'.tmps.getD 109 undef = .bool false → K a' wq) :
    Code.wp Tryz.prog c (Exit.then K fun _ _ _ => False) a wq := by
  have HQ := hide hQ
  clear hQ
  obtain ⟨v0, v1, v2, v6, v7, v8, v9, v10, v11, v12, v13, v14, v15, v16, v17, v18, v19, v20⟩ := v
  simp only at h17v HQ
  subst h17v
  obtain ⟨u, rfl⟩ := frx_wa hF
  clear hF
  simp only [Tryz.f7, Option.getD_some, regOf] at hc
  injection hc with hc
  subst hc
  have u0 := box_cell hp 0 rfl
  have u1 := box_cell hp 1 rfl
  clear hp
  subst hx
  go_wp2
  exact HQ.out _ ⟨rfl, rfl, rfl, rfl, rfl, rfl, rfl, rfl, rfl, rfl, rfl, rfl, rfl, rfl, rfl, rfl, rfl, rfl, rfl, rfl⟩ (by first | rfl | (simp; done))
theorem wa_r33 {K : Act → World → Prop} {c : Code} (hc : regOf (Tryz.f7.body.getD .skip) 33 = some c) (a : Act) {v : Vwa} {wq : World} {rb ln qc m : Nat} {qo : Option Addr} {x y : Int} (hF : Fwa a v) (h14v : v.v14 = .int .i64 (m : Int)) (h17v : v.v17 = .pointer (some ⟨rb, 0, none⟩)) (hp : wq.heap[rb]? = some (.cells #[.int .i64 x, .int .i64 y, .slice qo ln qc] 37 (0, 0))) (hx : x = 0) (hy : y = (m : Int)) (hQ : ∀ a', Fwa a' v → a'.tmps.getD 131 undef = .bool false → K a' wq) :
    Code.wp Tryz.prog c (Exit.then K fun _ _ _ => False) a wq := by
  have HQ := hide hQ
  clear hQ
  obtain ⟨v0, v1, v2, v6, v7, v8, v9, v10, v11, v12, v13, v14, v15, v16, v17, v18, v19, v20⟩ := v
  simp only at h14v h17v HQ
  subst h14v h17v
  obtain ⟨u, rfl⟩ := frx_wa hF
  clear hF
  simp only [Tryz.f7, Option.getD_some, regOf] at hc
  injection hc with hc
  subst hc
  have u0 := box_cell hp 0 rfl
  have u1 := box_cell hp 1 rfl
  clear hp
  subst hx hy
  go_wp2
  exact HQ.out _ ⟨rfl, rfl, rfl, rfl, rfl, rfl, rfl, rfl, rfl, rfl, rfl, rfl, rfl, rfl, rfl, rfl, rfl, rfl, rfl, rfl⟩ (by first | rfl | (simp; done))
theorem wa_r30 {K : Act → World → Prop} {c : Code} (hc : regOf (Tryz.f7.body.getD .skip) 30 = some c) (a : Act) {v : Vwa} {wq : World} {ib p ab af n cp k : Nat} {jb : Bool} {bs : Array Value} {y : Value} (hF : Fwa a v) (h10v : v.v10 = .slice (some ⟨ib, 0, none⟩) 7 7) (h13v : v.v13 = .int .i64 (p : Int)) (h2v : v.v2 = .slice (some ⟨ab, af, none⟩) n cp) (h12v : v.v12 = .int .i64 (k : Int)) (hI : wq.heap[ib]? = some (.cells bs 4 (0, 0))) (hk : k < n) (hB : wq.cell? ⟨ab, af + k, none⟩ = some (.bool jb)) (hp : p < 7) (hy : bs[p]? = some y)
    (hQ : ∀ a', Fwa a' v → K a' (wq.setCell ⟨ib, p, none⟩ (.bool jb))) :
    Code.wp Tryz.prog c (Exit.then K fun _ _ _ => False) a wq := by
  have HQ := hide hQ
  clear hQ
  obtain ⟨v0, v1, v2, v6, v7, v8, v9, v10, v11, v12, v13, v14, v15, v16, v17, v18, v19, v20⟩ := v
  simp only at h10v h13v h2v h12v HQ
  subst h10v h13v h2v h12v
  obtain ⟨u, rfl⟩ := frx_wa hF
  clear hF
  simp only [Tryz.f7, Option.getD_some, regOf] at hc
  injection hc with hc
  subst hc
  have z0 := box_cell hI p hy
  have f0 := box_free hI p
  have i0 : (0 : Int) ≤ (k : Int) := by omega
  have i1 : (k : Int) < (n : Int) := by omega
  have j0 : (0 : Int) ≤ (p : Int) := by omega
  have j1 : (p : Int) < 7 := by omega
  clear hI
  go_wp2
  exact HQ.out _ ⟨rfl, rfl, rfl, rfl, rfl, rfl, rfl, rfl, rfl, rfl, rfl, rfl, rfl, rfl, rfl, rfl, rfl, rfl, rfl, rfl⟩
theorem wa_r35 {K : Act → World → Prop} {c : Code} (hc : regOf (Tryz.f7.body.getD .skip) 35 = some c) (a : Act) {v : Vwa} {wq : World} {mb ln : Nat} {R : Option Addr → Nat → World → Prop} (hF : Fwa a v) (h8v : v.v8 = .pointer (some ⟨mb, 0, none⟩)) (hE : Calls Tryz.prog 22 #[.pointer (some ⟨mb, 0, none⟩)] wq fun e w' => ∃ ao cp, e = .returned (.slice ao ln cp) ∧ R ao cp w')
    (hQ : ∀ a' w1 ao cp, Fwa a' { v with v18 := .slice ao ln cp } → R ao cp w1 → K a' w1) :
    Code.wp Tryz.prog c (Exit.then K fun _ _ _ => False) a wq := by
  have HQ := hide hQ
  clear hQ
  obtain ⟨v0, v1, v2, v6, v7, v8, v9, v10, v11, v12, v13, v14, v15, v16, v17, v18, v19, v20⟩ := v
  simp only at h8v HQ
  subst h8v
  obtain ⟨u, rfl⟩ := frx_wa hF
  clear hF
  simp only [Tryz.f7, Option.getD_some, regOf] at hc
  injection hc with hc
  subst hc
  have HE := hide hE
  clear hE
  go_wp2_with (go_at_call 22; refine HE.out.mono ?_; rintro e w1 ⟨ao, cp, rfl, r1⟩; have R1 := hide r1; clear r1)
  exact HQ.out _ _ _ _ ⟨rfl, rfl, rfl, rfl, rfl, rfl, rfl, rfl, rfl, rfl, rfl, rfl, rfl, rfl, rfl, rfl, rfl, rfl, rfl, rfl⟩ R1.out
theorem wa_r36 {K : Act → World → Prop} {c : Code} (hc : regOf (Tryz.f7.body.getD .skip) 36 = some c) (a : Act) {v : Vwa} {wq : World}  (hF : Fwa a v) (hQ : ∀ a', Fwa a' { v with v19 := .int .i64 ((0 : Nat) : Int) } → K a' wq) :
    Code.wp Tryz.prog c (Exit.then K fun _ _ _ => False) a wq := by
  have HQ := hide hQ
  clear hQ
  obtain ⟨v0, v1, v2, v6, v7, v8, v9, v10, v11, v12, v13, v14, v15, v16, v17, v18, v19, v20⟩ := v
  obtain ⟨u, rfl⟩ := frx_wa hF
  clear hF
  simp only [Tryz.f7, Option.getD_some, regOf] at hc
  injection hc with hc
  subst hc
  go_wp2
  exact HQ.out _ ⟨rfl, rfl, rfl, rfl, rfl, rfl, rfl, rfl, rfl, rfl, rfl, rfl, rfl, rfl, rfl, rfl, rfl, rfl, rfl, rfl⟩
theorem wa_r37 {K : Act → World → Prop} {c : Code} (hc : regOf (Tryz.f7.body.getD .skip) 37 = some c) (a : Act) {v : Vwa} {wq : World}  (hF : Fwa a v) (hQ : ∀ a', Fwa a' { v with v20 := .int .i64 ((0 : Nat) : Int) } → K a' wq) :
    Code.wp Tryz.prog c (Exit.then K fun _ _ _ => False) a wq := by
  have HQ := hide hQ
  clear hQ
  obtain ⟨v0, v1, v2, v6, v7, v8, v9, v10, v11, v12, v13, v14, v15, v16, v17, v18, v19, v20⟩ := v
  obtain ⟨u, rfl⟩ := frx_wa hF
  clear hF
  simp only [Tryz.f7, Option.getD_some, regOf] at hc
  injection hc with hc
  subst hc
  go_wp2
  exact HQ.out _ ⟨rfl, rfl, rfl, rfl, rfl, rfl, rfl, rfl, rfl, rfl, rfl, rfl, rfl, rfl, rfl, rfl, rfl, rfl, rfl, rfl⟩
theorem wa_r38 {K : Act → World → Prop} {c : Code} (hc : regOf (Tryz.f7.body.getD .skip) 38 = some c) (a : Act) {v : Vwa} {wq : World} {k : Nat} (hF : Fwa a v) (h20v : v.v20 = .int .i64 (k : Int)) (hQ : ∀ a', Fwa a' v → a'.tmps.getD 135 undef = .bool (decide ((k : Int) < 7)) → K a' wq) :
    Code.wp Tryz.prog c (Exit.then K fun _ _ _ => False) a wq := by
  have HQ := hide hQ
  clear hQ
  obtain ⟨v0, v1, v2, v6, v7, v8, v9, v10, v11, v12, v13, v14, v15, v16, v17, v18, v19, v20⟩ := v
  simp only at h20v HQ
  subst h20v
  obtain ⟨u, rfl⟩ := frx_wa hF
  clear hF
  simp only [Tryz.f7, Option.getD_some, regOf] at hc
  injection hc with hc
  subst hc
  go_wp2
  exact HQ.out _ ⟨rfl, rfl, rfl, rfl, rfl, rfl, rfl, rfl, rfl, rfl, rfl, rfl, rfl, rfl, rfl, rfl, rfl, rfl, rfl, rfl⟩ (by first | rfl | (simp; done))
theorem wa_r40 {K : Act → World → Prop} {c : Code} (hc : regOf (Tryz.f7.body.getD .skip) 40 = some c) (a : Act) {v : Vwa} {wq : World} {ib k : Nat} {b : Bool} {bs : Array Value} (hF : Fwa a v) (h10v : v.v10 = .slice (some ⟨ib, 0, none⟩) 7 7) (h20v : v.v20 = .int .i64 (k : Int)) (hI : wq.heap[ib]? = some (.cells bs 4 (0, 0))) (hk : k < 7) (hy : bs[k]? = some (.bool b)) (hQ : ∀ a', Fwa a' v → a'.tmps.getD 141 undef = .bool b → K a' wq) :
    Code.wp Tryz.prog c (Exit.then K fun _ _ _ => False) a wq := by
  have HQ := hide hQ
  clear hQ
  obtain ⟨v0, v1, v2, v6, v7, v8, v9, v10, v11, v12, v13, v14, v15, v16, v17, v18, v19, v20⟩ := v
  simp only at h10v h20v HQ
  subst h10v h20v
  obtain ⟨u, rfl⟩ := frx_wa hF
  clear hF
  simp only [Tryz.f7, Option.getD_some, regOf] at hc
  injection hc with hc
  subst hc
  have z0 := box_cell hI k hy
  have i0 : (0 : Int) ≤ (k : Int) := by omega
  have i1 : (k : Int) < 7 := by omega
  clear hI
  go_wp2
  exact HQ.out _ ⟨rfl, rfl, rfl, rfl, rfl, rfl, rfl, rfl, rfl, rfl, rfl, rfl, rfl, rfl, rfl, rfl, rfl, rfl, rfl, rfl⟩ (by first | rfl | (simp; done))
theorem wa_r41 {K : Act → World → Prop} {c : Code} (hc : regOf (Tryz.f7.body.getD .skip) 41 = some c) (a : Act) {v : Vwa} {wq : World} {wb wf ln cp k t : Nat} (hF : Fwa a v) (h18v : v.v18 = .slice (some ⟨wb, wf, none⟩) ln cp) (h19v : v.v19 = .int .i64 (t : Int)) (h20v : v.v20 = .int .i64 (k : Int)) (ht : t < ln) (hB : wq.cell? ⟨wb, wf + t, none⟩ = some (.int .i64 (k : Int))) (hQ : ∀ a', Fwa a' v → a'.tmps.getD 153 undef = .bool false → K a' wq) :
    Code.wp Tryz.prog c (Exit.then K fun _ _ _ => False) a wq := by
  have HQ := hide hQ
  clear hQ
  obtain ⟨v0, v1, v2, v6, v7, v8, v9, v10, v11, v12, v13, v14, v15, v16, v17, v18, v19, v20⟩ := v
  simp only at h18v h19v h20v HQ
  subst h18v h19v h20v
  obtain ⟨u, rfl⟩ := frx_wa hF
  clear hF
  simp only [Tryz.f7, Option.getD_some, regOf] at hc
  injection hc with hc
  subst hc
  have i0 : (0 : Int) ≤ (t : Int) := by omega
  have i1 : (t : Int) < (ln : Int) := by omega
  have hd : ((t : Int) == (ln : Int)) = false := beq_eq_false_iff_ne.2 (by omega)
  go_wp2
  exact HQ.out _ ⟨rfl, rfl, rfl, rfl, rfl, rfl, rfl, rfl, rfl, rfl, rfl, rfl, rfl, rfl, rfl, rfl, rfl, rfl, rfl, rfl⟩ (by first | rfl | (simp; done))
theorem wa_r44 {K : Act → World → Prop} {c : Code} (hc : regOf (Tryz.f7.body.getD .skip) 44 = some c) (a : Act) {v : Vwa} {wq : World} {ao : Option Addr} {ln cp : Nat} (hF : Fwa a v) (h7v : v.v7 = .bool true) (h18v : v.v18 = .slice ao ln cp) (h19v : v.v19 = .int .i64 (ln : Int)) (hQ : ∀ a', Fwa a' { v with v6 := .bool true } → K a' wq) :
    Code.wp Tryz.prog c (Exit.then K fun _ _ _ => False) a wq := by
  have HQ := hide hQ
  clear hQ
  obtain ⟨v0, v1, v2, v6, v7, v8, v9, v10, v11, v12, v13, v14, v15, v16, v17, v18, v19, v20⟩ := v
  simp only at h7v h18v h19v HQ
  subst h7v h18v h19v
  obtain ⟨u, rfl⟩ := frx_wa hF
  clear hF
  simp only [Tryz.f7, Option.getD_some, regOf] at hc
  injection hc with hc
  subst hc
  go_wp2
  exact HQ.out _ ⟨rfl, rfl, rfl, rfl, rfl, rfl, rfl, rfl, rfl, rfl, rfl, rfl, rfl, rfl, rfl, rfl, rfl, rfl, rfl, rfl⟩
theorem wa_ret {W : World} {a : Act} {v : Vwa} {x : Value} {R : Ending → World → Prop} (hF : Fwa a v) (h2 : v.v6 = x) (h : R (.returned x) W) : bodyPost Tryz.prog Tryz.f7 R .ret a W := by
  have g0 := slot_get (hF.s6.trans h2)
  refine bodyPost_ret (v := x) ?_ hF.defers h
  simp [results, Tryz.results7, go_sem, g0]
end Go.Proofs.YtlfodldlkchmoaaGreat.Y
