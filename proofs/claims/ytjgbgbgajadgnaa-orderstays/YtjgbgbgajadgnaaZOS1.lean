/-
  OrderStays' regions (mkos.py).
-/
import Derived.Test.YtjgbgbgajadgnaaZOT
import Derived.Test.YtjgbgbgajadgnaaZTK
import Derived.Test.YtjgbgbgajadgnaaZOU
import Derived.Laws.StructEq
namespace Go.Proofs.Ytjgbgbgajadgnaa
open Go.RowKit

attribute [local go_sem ↓] Go.wp_at_zero Go.wp_at_succ
set_option linter.unusedSimpArgs false
set_option linter.unusedVariables false
set_option maxRecDepth 100000 in
theorem frame_st (t : Array Value) (h : t.size = 143) : ∃ u : Nat → Value, t = List.toArray (u 0 :: u 1 :: u 2 :: u 3 :: u 4 :: u 5 :: u 6 :: u 7 :: u 8 :: u 9 :: u 10 :: u 11 :: u 12 :: u 13 :: u 14 :: u 15 :: u 16 :: u 17 :: u 18 :: u 19 :: u 20 :: u 21 :: u 22 :: u 23 :: u 24 :: u 25 :: u 26 :: u 27 :: u 28 :: u 29 :: u 30 :: u 31 :: u 32 :: u 33 :: u 34 :: u 35 :: u 36 :: u 37 :: u 38 :: u 39 :: u 40 :: u 41 :: u 42 :: u 43 :: u 44 :: u 45 :: u 46 :: u 47 :: u 48 :: u 49 :: u 50 :: u 51 :: u 52 :: u 53 :: u 54 :: u 55 :: u 56 :: u 57 :: u 58 :: u 59 :: u 60 :: u 61 :: u 62 :: u 63 :: u 64 :: u 65 :: u 66 :: u 67 :: u 68 :: u 69 :: u 70 :: u 71 :: u 72 :: u 73 :: u 74 :: u 75 :: u 76 :: u 77 :: u 78 :: u 79 :: u 80 :: u 81 :: u 82 :: u 83 :: u 84 :: u 85 :: u 86 :: u 87 :: u 88 :: u 89 :: u 90 :: u 91 :: u 92 :: u 93 :: u 94 :: u 95 :: u 96 :: u 97 :: u 98 :: u 99 :: u 100 :: u 101 :: u 102 :: u 103 :: u 104 :: u 105 :: u 106 :: u 107 :: u 108 :: u 109 :: u 110 :: u 111 :: u 112 :: u 113 :: u 114 :: u 115 :: u 116 :: u 117 :: u 118 :: u 119 :: u 120 :: u 121 :: u 122 :: u 123 :: u 124 :: u 125 :: u 126 :: u 127 :: u 128 :: u 129 :: u 130 :: u 131 :: u 132 :: u 133 :: u 134 :: u 135 :: u 136 :: u 137 :: u 138 :: u 139 :: u 140 :: u 141 :: u 142 :: []) := by
  refine ⟨fun i => t.getD i undef, ?_⟩
  have e : (List.toArray ((fun i => t.getD i undef) 0 :: (fun i => t.getD i undef) 1 :: (fun i => t.getD i undef) 2 :: (fun i => t.getD i undef) 3 :: (fun i => t.getD i undef) 4 :: (fun i => t.getD i undef) 5 :: (fun i => t.getD i undef) 6 :: (fun i => t.getD i undef) 7 :: (fun i => t.getD i undef) 8 :: (fun i => t.getD i undef) 9 :: (fun i => t.getD i undef) 10 :: (fun i => t.getD i undef) 11 :: (fun i => t.getD i undef) 12 :: (fun i => t.getD i undef) 13 :: (fun i => t.getD i undef) 14 :: (fun i => t.getD i undef) 15 :: (fun i => t.getD i undef) 16 :: (fun i => t.getD i undef) 17 :: (fun i => t.getD i undef) 18 :: (fun i => t.getD i undef) 19 :: (fun i => t.getD i undef) 20 :: (fun i => t.getD i undef) 21 :: (fun i => t.getD i undef) 22 :: (fun i => t.getD i undef) 23 :: (fun i => t.getD i undef) 24 :: (fun i => t.getD i undef) 25 :: (fun i => t.getD i undef) 26 :: (fun i => t.getD i undef) 27 :: (fun i => t.getD i undef) 28 :: (fun i => t.getD i undef) 29 :: (fun i => t.getD i undef) 30 :: (fun i => t.getD i undef) 31 :: (fun i => t.getD i undef) 32 :: (fun i => t.getD i undef) 33 :: (fun i => t.getD i undef) 34 :: (fun i => t.getD i undef) 35 :: (fun i => t.getD i undef) 36 :: (fun i => t.getD i undef) 37 :: (fun i => t.getD i undef) 38 :: (fun i => t.getD i undef) 39 :: (fun i => t.getD i undef) 40 :: (fun i => t.getD i undef) 41 :: (fun i => t.getD i undef) 42 :: (fun i => t.getD i undef) 43 :: (fun i => t.getD i undef) 44 :: (fun i => t.getD i undef) 45 :: (fun i => t.getD i undef) 46 :: (fun i => t.getD i undef) 47 :: (fun i => t.getD i undef) 48 :: (fun i => t.getD i undef) 49 :: (fun i => t.getD i undef) 50 :: (fun i => t.getD i undef) 51 :: (fun i => t.getD i undef) 52 :: (fun i => t.getD i undef) 53 :: (fun i => t.getD i undef) 54 :: (fun i => t.getD i undef) 55 :: (fun i => t.getD i undef) 56 :: (fun i => t.getD i undef) 57 :: (fun i => t.getD i undef) 58 :: (fun i => t.getD i undef) 59 :: (fun i => t.getD i undef) 60 :: (fun i => t.getD i undef) 61 :: (fun i => t.getD i undef) 62 :: (fun i => t.getD i undef) 63 :: (fun i => t.getD i undef) 64 :: (fun i => t.getD i undef) 65 :: (fun i => t.getD i undef) 66 :: (fun i => t.getD i undef) 67 :: (fun i => t.getD i undef) 68 :: (fun i => t.getD i undef) 69 :: (fun i => t.getD i undef) 70 :: (fun i => t.getD i undef) 71 :: (fun i => t.getD i undef) 72 :: (fun i => t.getD i undef) 73 :: (fun i => t.getD i undef) 74 :: (fun i => t.getD i undef) 75 :: (fun i => t.getD i undef) 76 :: (fun i => t.getD i undef) 77 :: (fun i => t.getD i undef) 78 :: (fun i => t.getD i undef) 79 :: (fun i => t.getD i undef) 80 :: (fun i => t.getD i undef) 81 :: (fun i => t.getD i undef) 82 :: (fun i => t.getD i undef) 83 :: (fun i => t.getD i undef) 84 :: (fun i => t.getD i undef) 85 :: (fun i => t.getD i undef) 86 :: (fun i => t.getD i undef) 87 :: (fun i => t.getD i undef) 88 :: (fun i => t.getD i undef) 89 :: (fun i => t.getD i undef) 90 :: (fun i => t.getD i undef) 91 :: (fun i => t.getD i undef) 92 :: (fun i => t.getD i undef) 93 :: (fun i => t.getD i undef) 94 :: (fun i => t.getD i undef) 95 :: (fun i => t.getD i undef) 96 :: (fun i => t.getD i undef) 97 :: (fun i => t.getD i undef) 98 :: (fun i => t.getD i undef) 99 :: (fun i => t.getD i undef) 100 :: (fun i => t.getD i undef) 101 :: (fun i => t.getD i undef) 102 :: (fun i => t.getD i undef) 103 :: (fun i => t.getD i undef) 104 :: (fun i => t.getD i undef) 105 :: (fun i => t.getD i undef) 106 :: (fun i => t.getD i undef) 107 :: (fun i => t.getD i undef) 108 :: (fun i => t.getD i undef) 109 :: (fun i => t.getD i undef) 110 :: (fun i => t.getD i undef) 111 :: (fun i => t.getD i undef) 112 :: (fun i => t.getD i undef) 113 :: (fun i => t.getD i undef) 114 :: (fun i => t.getD i undef) 115 :: (fun i => t.getD i undef) 116 :: (fun i => t.getD i undef) 117 :: (fun i => t.getD i undef) 118 :: (fun i => t.getD i undef) 119 :: (fun i => t.getD i undef) 120 :: (fun i => t.getD i undef) 121 :: (fun i => t.getD i undef) 122 :: (fun i => t.getD i undef) 123 :: (fun i => t.getD i undef) 124 :: (fun i => t.getD i undef) 125 :: (fun i => t.getD i undef) 126 :: (fun i => t.getD i undef) 127 :: (fun i => t.getD i undef) 128 :: (fun i => t.getD i undef) 129 :: (fun i => t.getD i undef) 130 :: (fun i => t.getD i undef) 131 :: (fun i => t.getD i undef) 132 :: (fun i => t.getD i undef) 133 :: (fun i => t.getD i undef) 134 :: (fun i => t.getD i undef) 135 :: (fun i => t.getD i undef) 136 :: (fun i => t.getD i undef) 137 :: (fun i => t.getD i undef) 138 :: (fun i => t.getD i undef) 139 :: (fun i => t.getD i undef) 140 :: (fun i => t.getD i undef) 141 :: (fun i => t.getD i undef) 142 :: []) : Array Value) = ((List.range 143).map fun i => t.getD i undef).toArray := rfl
  refine Eq.trans ?_ e.symm
  apply Array.ext
  · simp [h]
  · intro k h1 h2
    simp [Array.getD, h1]
/-- The slots that matter. -/
structure Vst where
  v0 : Value
  v1 : Value
  v2 : Value
  v3 : Value
  v8 : Value
  v9 : Value
  v10 : Value
  v11 : Value
  v12 : Value
  v13 : Value
  v14 : Value
  v15 : Value
  v16 : Value
  v60 : Value
structure Fst (a : Act) (v : Vst) : Prop where
  size : a.tmps.size = 143
  defers : a.defers = []
  s0 : a.tmps.getD 0 undef = v.v0
  s1 : a.tmps.getD 1 undef = v.v1
  s2 : a.tmps.getD 2 undef = v.v2
  s3 : a.tmps.getD 3 undef = v.v3
  s8 : a.tmps.getD 8 undef = v.v8
  s9 : a.tmps.getD 9 undef = v.v9
  s10 : a.tmps.getD 10 undef = v.v10
  s11 : a.tmps.getD 11 undef = v.v11
  s12 : a.tmps.getD 12 undef = v.v12
  s13 : a.tmps.getD 13 undef = v.v13
  s14 : a.tmps.getD 14 undef = v.v14
  s15 : a.tmps.getD 15 undef = v.v15
  s16 : a.tmps.getD 16 undef = v.v16
  s60 : a.tmps.getD 60 undef = v.v60
set_option maxHeartbeats 8000000 in
set_option maxRecDepth 100000 in
theorem st_r0 {K : Act → World → Prop} {c : Code} (hc : regOf (Try.f6.body.getD .skip) 0 = some c) (a : Act) {v : Vst} {wq : World}  (hF : Fst a v) (hQ : ∀ a', Fst a' { v with v8 := .bool false } → K a' wq) :
    Code.wp Try.prog c (Exit.then K fun _ _ _ => False) a wq := by
  have HQ := hide hQ
  clear hQ
  obtain ⟨t', d'⟩ := a
  obtain ⟨v0, v1, v2, v3, v8, v9, v10, v11, v12, v13, v14, v15, v16, v60⟩ := v
  obtain ⟨hs1, hd1, q0, q1, q2, q3, q8, q9, q10, q11, q12, q13, q14, q15, q16, q60⟩ := hF
  obtain ⟨u, hu⟩ := frame_st t' hs1
  simp only at hd1 q0 q1 q2 q3 q8 q9 q10 q11 q12 q13 q14 q15 q16 q60
  subst hu hd1
  have e0 : u 0 = v0 := q0
  have e1 : u 1 = v1 := q1
  have e2 : u 2 = v2 := q2
  have e3 : u 3 = v3 := q3
  have e8 : u 8 = v8 := q8
  have e9 : u 9 = v9 := q9
  have e10 : u 10 = v10 := q10
  have e11 : u 11 = v11 := q11
  have e12 : u 12 = v12 := q12
  have e13 : u 13 = v13 := q13
  have e14 : u 14 = v14 := q14
  have e15 : u 15 = v15 := q15
  have e16 : u 16 = v16 := q16
  have e60 : u 60 = v60 := q60
  rw [e0, e1, e2, e3, e8, e9, e10, e11, e12, e13, e14, e15, e16, e60]
  clear q0 e0 q1 e1 q2 e2 q3 e3 q8 e8 q9 e9 q10 e10 q11 e11 q12 e12 q13 e13 q14 e14 q15 e15 q16 e16 q60 e60 hs1
  simp only [Try.f6, Option.getD_some, regOf] at hc
  injection hc with hc
  subst hc
  go_wp2
  exact HQ.out _ ⟨rfl, rfl, rfl, rfl, rfl, rfl, rfl, rfl, rfl, rfl, rfl, rfl, rfl, rfl, rfl, rfl⟩
set_option maxHeartbeats 8000000 in
set_option maxRecDepth 100000 in
theorem st_r1 {K : Act → World → Prop} {c : Code} (hc : regOf (Try.f6.body.getD .skip) 1 = some c) (a : Act) {v : Vst} {wq : World} {R : World → Prop}  (hF : Fst a v) (hE : Calls Try.prog 7 #[] wq fun e w' => e = .returned (.bool true) ∧ R w')
    (hQ : ∀ a' w1, Fst a' { v with v9 := .bool true } → R w1 → K a' w1) :
    Code.wp Try.prog c (Exit.then K fun _ _ _ => False) a wq := by
  have HQ := hide hQ
  clear hQ
  obtain ⟨t', d'⟩ := a
  obtain ⟨v0, v1, v2, v3, v8, v9, v10, v11, v12, v13, v14, v15, v16, v60⟩ := v
  obtain ⟨hs1, hd1, q0, q1, q2, q3, q8, q9, q10, q11, q12, q13, q14, q15, q16, q60⟩ := hF
  obtain ⟨u, hu⟩ := frame_st t' hs1
  simp only at hd1 q0 q1 q2 q3 q8 q9 q10 q11 q12 q13 q14 q15 q16 q60
  subst hu hd1
  have e0 : u 0 = v0 := q0
  have e1 : u 1 = v1 := q1
  have e2 : u 2 = v2 := q2
  have e3 : u 3 = v3 := q3
  have e8 : u 8 = v8 := q8
  have e9 : u 9 = v9 := q9
  have e10 : u 10 = v10 := q10
  have e11 : u 11 = v11 := q11
  have e12 : u 12 = v12 := q12
  have e13 : u 13 = v13 := q13
  have e14 : u 14 = v14 := q14
  have e15 : u 15 = v15 := q15
  have e16 : u 16 = v16 := q16
  have e60 : u 60 = v60 := q60
  rw [e0, e1, e2, e3, e8, e9, e10, e11, e12, e13, e14, e15, e16, e60]
  clear q0 e0 q1 e1 q2 e2 q3 e3 q8 e8 q9 e9 q10 e10 q11 e11 q12 e12 q13 e13 q14 e14 q15 e15 q16 e16 q60 e60 hs1
  simp only [Try.f6, Option.getD_some, regOf] at hc
  injection hc with hc
  subst hc
  have HE := hide hE
  clear hE
  go_wp2_with (go_at_call 7; refine HE.out.mono ?_; rintro e w1 ⟨rfl, r1⟩; have R1 := hide r1; clear r1)
  exact HQ.out _ _ ⟨rfl, rfl, rfl, rfl, rfl, rfl, rfl, rfl, rfl, rfl, rfl, rfl, rfl, rfl, rfl, rfl⟩ R1.out
set_option maxHeartbeats 8000000 in
set_option maxRecDepth 100000 in
theorem st_r2 {K : Act → World → Prop} {c : Code} (hc : regOf (Try.f6.body.getD .skip) 2 = some c) (a : Act) {v : Vst} {wq : World} {R : Option Addr → Int → World → Prop} {sf : Int} {ao lo : Option Addr} {n cp m lc : Nat} (hF : Fst a v) (h0v : v.v0 = .int .i64 sf) (h1v : v.v1 = .slice ao n cp) (h2v : v.v2 = .slice lo m lc) (hE : Calls Try.prog 8 #[.int .i64 sf, .slice ao n cp, .slice lo m lc] wq fun e w' => ∃ (po : Option Addr) (ec : Int), e = .returned (.tuple #[.pointer po, .int .i64 ec]) ∧ R po ec w')
    (hQ : ∀ a' w1 po ec, Fst a' { v with v10 := .pointer po, v11 := .int .i64 ec } → R po ec w1 → K a' w1) :
    Code.wp Try.prog c (Exit.then K fun _ _ _ => False) a wq := by
  have HQ := hide hQ
  clear hQ
  obtain ⟨t', d'⟩ := a
  obtain ⟨v0, v1, v2, v3, v8, v9, v10, v11, v12, v13, v14, v15, v16, v60⟩ := v
  simp only at h0v h1v h2v HQ
  subst h0v h1v h2v
  obtain ⟨hs1, hd1, q0, q1, q2, q3, q8, q9, q10, q11, q12, q13, q14, q15, q16, q60⟩ := hF
  obtain ⟨u, hu⟩ := frame_st t' hs1
  simp only at hd1 q0 q1 q2 q3 q8 q9 q10 q11 q12 q13 q14 q15 q16 q60
  subst hu hd1
  have e0 : u 0 = .int .i64 sf := q0
  have e1 : u 1 = .slice ao n cp := q1
  have e2 : u 2 = .slice lo m lc := q2
  have e3 : u 3 = v3 := q3
  have e8 : u 8 = v8 := q8
  have e9 : u 9 = v9 := q9
  have e10 : u 10 = v10 := q10
  have e11 : u 11 = v11 := q11
  have e12 : u 12 = v12 := q12
  have e13 : u 13 = v13 := q13
  have e14 : u 14 = v14 := q14
  have e15 : u 15 = v15 := q15
  have e16 : u 16 = v16 := q16
  have e60 : u 60 = v60 := q60
  rw [e0, e1, e2, e3, e8, e9, e10, e11, e12, e13, e14, e15, e16, e60]
  clear q0 e0 q1 e1 q2 e2 q3 e3 q8 e8 q9 e9 q10 e10 q11 e11 q12 e12 q13 e13 q14 e14 q15 e15 q16 e16 q60 e60 hs1
  simp only [Try.f6, Option.getD_some, regOf] at hc
  injection hc with hc
  subst hc
  have HE := hide hE
  clear hE
  go_wp2_with (go_at_call 8; refine HE.out.mono ?_; rintro e w1 ⟨po, ec, rfl, r1⟩; have R1 := hide r1; clear r1)
  exact HQ.out _ _ _ _ ⟨rfl, rfl, rfl, rfl, rfl, rfl, rfl, rfl, rfl, rfl, rfl, rfl, rfl, rfl, rfl, rfl⟩ R1.out
set_option maxHeartbeats 8000000 in
set_option maxRecDepth 100000 in
theorem st_r3n {K : Act → World → Prop} {c : Code} (hc : regOf (Try.f6.body.getD .skip) 3 = some c) (a : Act) {v : Vst} {wq : World}  (hF : Fst a v) (h11v : v.v11 = .int .i64 1) (hQ : ∀ a', Fst a' v → a'.tmps.getD 30 undef = .bool true → K a' wq) :
    Code.wp Try.prog c (Exit.then K fun _ _ _ => False) a wq := by
  have HQ := hide hQ
  clear hQ
  obtain ⟨t', d'⟩ := a
  obtain ⟨v0, v1, v2, v3, v8, v9, v10, v11, v12, v13, v14, v15, v16, v60⟩ := v
  simp only at h11v HQ
  subst h11v
  obtain ⟨hs1, hd1, q0, q1, q2, q3, q8, q9, q10, q11, q12, q13, q14, q15, q16, q60⟩ := hF
  obtain ⟨u, hu⟩ := frame_st t' hs1
  simp only at hd1 q0 q1 q2 q3 q8 q9 q10 q11 q12 q13 q14 q15 q16 q60
  subst hu hd1
  have e0 : u 0 = v0 := q0
  have e1 : u 1 = v1 := q1
  have e2 : u 2 = v2 := q2
  have e3 : u 3 = v3 := q3
  have e8 : u 8 = v8 := q8
  have e9 : u 9 = v9 := q9
  have e10 : u 10 = v10 := q10
  have e11 : u 11 = .int .i64 1 := q11
  have e12 : u 12 = v12 := q12
  have e13 : u 13 = v13 := q13
  have e14 : u 14 = v14 := q14
  have e15 : u 15 = v15 := q15
  have e16 : u 16 = v16 := q16
  have e60 : u 60 = v60 := q60
  rw [e0, e1, e2, e3, e8, e9, e10, e11, e12, e13, e14, e15, e16, e60]
  clear q0 e0 q1 e1 q2 e2 q3 e3 q8 e8 q9 e9 q10 e10 q11 e11 q12 e12 q13 e13 q14 e14 q15 e15 q16 e16 q60 e60 hs1
  simp only [Try.f6, Option.getD_some, regOf] at hc
  injection hc with hc
  subst hc
  go_wp2
  exact HQ.out _ ⟨rfl, rfl, rfl, rfl, rfl, rfl, rfl, rfl, rfl, rfl, rfl, rfl, rfl, rfl, rfl, rfl⟩ (by first | rfl | (simp; done))
set_option maxHeartbeats 8000000 in
set_option maxRecDepth 100000 in
theorem st_r3y {K : Act → World → Prop} {c : Code} (hc : regOf (Try.f6.body.getD .skip) 3 = some c) (a : Act) {v : Vst} {wq : World} {ad : Addr} (hF : Fst a v) (h11v : v.v11 = .int .i64 0) (h10v : v.v10 = .pointer (some ad)) (hQ : ∀ a', Fst a' v → a'.tmps.getD 30 undef = .bool false → K a' wq) :
    Code.wp Try.prog c (Exit.then K fun _ _ _ => False) a wq := by
  have HQ := hide hQ
  clear hQ
  obtain ⟨t', d'⟩ := a
  obtain ⟨v0, v1, v2, v3, v8, v9, v10, v11, v12, v13, v14, v15, v16, v60⟩ := v
  simp only at h11v h10v HQ
  subst h11v h10v
  obtain ⟨hs1, hd1, q0, q1, q2, q3, q8, q9, q10, q11, q12, q13, q14, q15, q16, q60⟩ := hF
  obtain ⟨u, hu⟩ := frame_st t' hs1
  simp only at hd1 q0 q1 q2 q3 q8 q9 q10 q11 q12 q13 q14 q15 q16 q60
  subst hu hd1
  have e0 : u 0 = v0 := q0
  have e1 : u 1 = v1 := q1
  have e2 : u 2 = v2 := q2
  have e3 : u 3 = v3 := q3
  have e8 : u 8 = v8 := q8
  have e9 : u 9 = v9 := q9
  have e10 : u 10 = .pointer (some ad) := q10
  have e11 : u 11 = .int .i64 0 := q11
  have e12 : u 12 = v12 := q12
  have e13 : u 13 = v13 := q13
  have e14 : u 14 = v14 := q14
  have e15 : u 15 = v15 := q15
  have e16 : u 16 = v16 := q16
  have e60 : u 60 = v60 := q60
  rw [e0, e1, e2, e3, e8, e9, e10, e11, e12, e13, e14, e15, e16, e60]
  clear q0 e0 q1 e1 q2 e2 q3 e3 q8 e8 q9 e9 q10 e10 q11 e11 q12 e12 q13 e13 q14 e14 q15 e15 q16 e16 q60 e60 hs1
  simp only [Try.f6, Option.getD_some, regOf] at hc
  injection hc with hc
  subst hc
  go_wp2
  exact HQ.out _ ⟨rfl, rfl, rfl, rfl, rfl, rfl, rfl, rfl, rfl, rfl, rfl, rfl, rfl, rfl, rfl, rfl⟩ (by first | rfl | (simp; done))
set_option maxHeartbeats 8000000 in
set_option maxRecDepth 100000 in
theorem st_r4 {K : Act → World → Prop} {c : Code} (hc : regOf (Try.f6.body.getD .skip) 4 = some c) (a : Act) {v : Vst} {wq : World}  (hF : Fst a v) (h9v : v.v9 = .bool true) (h10v : v.v10 = .pointer none) (hQ : ∀ a', Fst a' { v with v8 := .bool true } → K a' wq) :
    Code.wp Try.prog c (Exit.then K fun _ _ _ => False) a wq := by
  have HQ := hide hQ
  clear hQ
  obtain ⟨t', d'⟩ := a
  obtain ⟨v0, v1, v2, v3, v8, v9, v10, v11, v12, v13, v14, v15, v16, v60⟩ := v
  simp only at h9v h10v HQ
  subst h9v h10v
  obtain ⟨hs1, hd1, q0, q1, q2, q3, q8, q9, q10, q11, q12, q13, q14, q15, q16, q60⟩ := hF
  obtain ⟨u, hu⟩ := frame_st t' hs1
  simp only at hd1 q0 q1 q2 q3 q8 q9 q10 q11 q12 q13 q14 q15 q16 q60
  subst hu hd1
  have e0 : u 0 = v0 := q0
  have e1 : u 1 = v1 := q1
  have e2 : u 2 = v2 := q2
  have e3 : u 3 = v3 := q3
  have e8 : u 8 = v8 := q8
  have e9 : u 9 = .bool true := q9
  have e10 : u 10 = .pointer none := q10
  have e11 : u 11 = v11 := q11
  have e12 : u 12 = v12 := q12
  have e13 : u 13 = v13 := q13
  have e14 : u 14 = v14 := q14
  have e15 : u 15 = v15 := q15
  have e16 : u 16 = v16 := q16
  have e60 : u 60 = v60 := q60
  rw [e0, e1, e2, e3, e8, e9, e10, e11, e12, e13, e14, e15, e16, e60]
  clear q0 e0 q1 e1 q2 e2 q3 e3 q8 e8 q9 e9 q10 e10 q11 e11 q12 e12 q13 e13 q14 e14 q15 e15 q16 e16 q60 e60 hs1
  simp only [Try.f6, Option.getD_some, regOf] at hc
  injection hc with hc
  subst hc
  go_wp2
  exact HQ.out _ ⟨rfl, rfl, rfl, rfl, rfl, rfl, rfl, rfl, rfl, rfl, rfl, rfl, rfl, rfl, rfl, rfl⟩
set_option maxHeartbeats 8000000 in
set_option maxRecDepth 100000 in
theorem st_r5 {K : Act → World → Prop} {c : Code} (hc : regOf (Try.f6.body.getD .skip) 5 = some c) (a : Act) {v : Vst} {wq : World} {R : Nat → World → Prop} {ad : Addr} {n : Nat} (hF : Fst a v) (h10v : v.v10 = .pointer (some ad)) (hE : Calls Try.prog 24 #[.pointer (some ad)] wq fun e w' => ∃ (g : Nat), e = .returned (.slice (some ⟨g, 0, none⟩) n n) ∧ R g w')
    (hQ : ∀ a' w1 g, Fst a' { v with v12 := .slice (some ⟨g, 0, none⟩) n n } → R g w1 → K a' w1) :
    Code.wp Try.prog c (Exit.then K fun _ _ _ => False) a wq := by
  have HQ := hide hQ
  clear hQ
  obtain ⟨t', d'⟩ := a
  obtain ⟨v0, v1, v2, v3, v8, v9, v10, v11, v12, v13, v14, v15, v16, v60⟩ := v
  simp only at h10v HQ
  subst h10v
  obtain ⟨hs1, hd1, q0, q1, q2, q3, q8, q9, q10, q11, q12, q13, q14, q15, q16, q60⟩ := hF
  obtain ⟨u, hu⟩ := frame_st t' hs1
  simp only at hd1 q0 q1 q2 q3 q8 q9 q10 q11 q12 q13 q14 q15 q16 q60
  subst hu hd1
  have e0 : u 0 = v0 := q0
  have e1 : u 1 = v1 := q1
  have e2 : u 2 = v2 := q2
  have e3 : u 3 = v3 := q3
  have e8 : u 8 = v8 := q8
  have e9 : u 9 = v9 := q9
  have e10 : u 10 = .pointer (some ad) := q10
  have e11 : u 11 = v11 := q11
  have e12 : u 12 = v12 := q12
  have e13 : u 13 = v13 := q13
  have e14 : u 14 = v14 := q14
  have e15 : u 15 = v15 := q15
  have e16 : u 16 = v16 := q16
  have e60 : u 60 = v60 := q60
  rw [e0, e1, e2, e3, e8, e9, e10, e11, e12, e13, e14, e15, e16, e60]
  clear q0 e0 q1 e1 q2 e2 q3 e3 q8 e8 q9 e9 q10 e10 q11 e11 q12 e12 q13 e13 q14 e14 q15 e15 q16 e16 q60 e60 hs1
  simp only [Try.f6, Option.getD_some, regOf] at hc
  injection hc with hc
  subst hc
  have HE := hide hE
  clear hE
  go_wp2_with (go_at_call 24; refine HE.out.mono ?_; rintro e w1 ⟨g, rfl, r1⟩; have R1 := hide r1; clear r1)
  exact HQ.out _ _ _ ⟨rfl, rfl, rfl, rfl, rfl, rfl, rfl, rfl, rfl, rfl, rfl, rfl, rfl, rfl, rfl, rfl⟩ R1.out
set_option maxHeartbeats 8000000 in
set_option maxRecDepth 100000 in
theorem st_r6 {K : Act → World → Prop} {c : Code} (hc : regOf (Try.f6.body.getD .skip) 6 = some c) (a : Act) {v : Vst} {wq : World} {R : World → Prop} {ad : Addr} {x : Nat} (hF : Fst a v) (h10v : v.v10 = .pointer (some ad)) (hE : Calls Try.prog 28 #[.pointer (some ad)] wq fun e w' => e = .returned (.int .i64 (x : Int)) ∧ R w')
    (hQ : ∀ a' w1, Fst a' { v with v13 := .int .i64 (x : Int) } → R w1 → K a' w1) :
    Code.wp Try.prog c (Exit.then K fun _ _ _ => False) a wq := by
  have HQ := hide hQ
  clear hQ
  obtain ⟨t', d'⟩ := a
  obtain ⟨v0, v1, v2, v3, v8, v9, v10, v11, v12, v13, v14, v15, v16, v60⟩ := v
  simp only at h10v HQ
  subst h10v
  obtain ⟨hs1, hd1, q0, q1, q2, q3, q8, q9, q10, q11, q12, q13, q14, q15, q16, q60⟩ := hF
  obtain ⟨u, hu⟩ := frame_st t' hs1
  simp only at hd1 q0 q1 q2 q3 q8 q9 q10 q11 q12 q13 q14 q15 q16 q60
  subst hu hd1
  have e0 : u 0 = v0 := q0
  have e1 : u 1 = v1 := q1
  have e2 : u 2 = v2 := q2
  have e3 : u 3 = v3 := q3
  have e8 : u 8 = v8 := q8
  have e9 : u 9 = v9 := q9
  have e10 : u 10 = .pointer (some ad) := q10
  have e11 : u 11 = v11 := q11
  have e12 : u 12 = v12 := q12
  have e13 : u 13 = v13 := q13
  have e14 : u 14 = v14 := q14
  have e15 : u 15 = v15 := q15
  have e16 : u 16 = v16 := q16
  have e60 : u 60 = v60 := q60
  rw [e0, e1, e2, e3, e8, e9, e10, e11, e12, e13, e14, e15, e16, e60]
  clear q0 e0 q1 e1 q2 e2 q3 e3 q8 e8 q9 e9 q10 e10 q11 e11 q12 e12 q13 e13 q14 e14 q15 e15 q16 e16 q60 e60 hs1
  simp only [Try.f6, Option.getD_some, regOf] at hc
  injection hc with hc
  subst hc
  have HE := hide hE
  clear hE
  go_wp2_with (go_at_call 28; refine HE.out.mono ?_; rintro e w1 ⟨rfl, r1⟩; have R1 := hide r1; clear r1)
  exact HQ.out _ _ ⟨rfl, rfl, rfl, rfl, rfl, rfl, rfl, rfl, rfl, rfl, rfl, rfl, rfl, rfl, rfl, rfl⟩ R1.out
set_option maxHeartbeats 8000000 in
set_option maxRecDepth 100000 in
theorem st_r7 {K : Act → World → Prop} {c : Code} (hc : regOf (Try.f6.body.getD .skip) 7 = some c) (a : Act) {v : Vst} {wq : World} {x lc : Nat} {lo : Option Addr} (hF : Fst a v) (h13v : v.v13 = .int .i64 (x : Int)) (h2v : v.v2 = .slice lo x lc) (hQ : ∀ a', Fst a' v → a'.tmps.getD 43 undef = .bool false → K a' wq) :
    Code.wp Try.prog c (Exit.then K fun _ _ _ => False) a wq := by
  have HQ := hide hQ
  clear hQ
  obtain ⟨t', d'⟩ := a
  obtain ⟨v0, v1, v2, v3, v8, v9, v10, v11, v12, v13, v14, v15, v16, v60⟩ := v
  simp only at h13v h2v HQ
  subst h13v h2v
  obtain ⟨hs1, hd1, q0, q1, q2, q3, q8, q9, q10, q11, q12, q13, q14, q15, q16, q60⟩ := hF
  obtain ⟨u, hu⟩ := frame_st t' hs1
  simp only at hd1 q0 q1 q2 q3 q8 q9 q10 q11 q12 q13 q14 q15 q16 q60
  subst hu hd1
  have e0 : u 0 = v0 := q0
  have e1 : u 1 = v1 := q1
  have e2 : u 2 = .slice lo x lc := q2
  have e3 : u 3 = v3 := q3
  have e8 : u 8 = v8 := q8
  have e9 : u 9 = v9 := q9
  have e10 : u 10 = v10 := q10
  have e11 : u 11 = v11 := q11
  have e12 : u 12 = v12 := q12
  have e13 : u 13 = .int .i64 (x : Int) := q13
  have e14 : u 14 = v14 := q14
  have e15 : u 15 = v15 := q15
  have e16 : u 16 = v16 := q16
  have e60 : u 60 = v60 := q60
  rw [e0, e1, e2, e3, e8, e9, e10, e11, e12, e13, e14, e15, e16, e60]
  clear q0 e0 q1 e1 q2 e2 q3 e3 q8 e8 q9 e9 q10 e10 q11 e11 q12 e12 q13 e13 q14 e14 q15 e15 q16 e16 q60 e60 hs1
  simp only [Try.f6, Option.getD_some, regOf] at hc
  injection hc with hc
  subst hc
  go_wp2
  exact HQ.out _ ⟨rfl, rfl, rfl, rfl, rfl, rfl, rfl, rfl, rfl, rfl, rfl, rfl, rfl, rfl, rfl, rfl⟩ (by first | rfl | (simp; done))
set_option maxHeartbeats 8000000 in
set_option maxRecDepth 100000 in
theorem st_r9 {K : Act → World → Prop} {c : Code} (hc : regOf (Try.f6.body.getD .skip) 9 = some c) (a : Act) {v : Vst} {wq : World}  (hF : Fst a v) (hQ : ∀ a', Fst a' { v with v14 := .int .i64 ((0 : Nat) : Int) } → K a' wq) :
    Code.wp Try.prog c (Exit.then K fun _ _ _ => False) a wq := by
  have HQ := hide hQ
  clear hQ
  obtain ⟨t', d'⟩ := a
  obtain ⟨v0, v1, v2, v3, v8, v9, v10, v11, v12, v13, v14, v15, v16, v60⟩ := v
  obtain ⟨hs1, hd1, q0, q1, q2, q3, q8, q9, q10, q11, q12, q13, q14, q15, q16, q60⟩ := hF
  obtain ⟨u, hu⟩ := frame_st t' hs1
  simp only at hd1 q0 q1 q2 q3 q8 q9 q10 q11 q12 q13 q14 q15 q16 q60
  subst hu hd1
  have e0 : u 0 = v0 := q0
  have e1 : u 1 = v1 := q1
  have e2 : u 2 = v2 := q2
  have e3 : u 3 = v3 := q3
  have e8 : u 8 = v8 := q8
  have e9 : u 9 = v9 := q9
  have e10 : u 10 = v10 := q10
  have e11 : u 11 = v11 := q11
  have e12 : u 12 = v12 := q12
  have e13 : u 13 = v13 := q13
  have e14 : u 14 = v14 := q14
  have e15 : u 15 = v15 := q15
  have e16 : u 16 = v16 := q16
  have e60 : u 60 = v60 := q60
  rw [e0, e1, e2, e3, e8, e9, e10, e11, e12, e13, e14, e15, e16, e60]
  clear q0 e0 q1 e1 q2 e2 q3 e3 q8 e8 q9 e9 q10 e10 q11 e11 q12 e12 q13 e13 q14 e14 q15 e15 q16 e16 q60 e60 hs1
  simp only [Try.f6, Option.getD_some, regOf] at hc
  injection hc with hc
  subst hc
  go_wp2
  exact HQ.out _ ⟨rfl, rfl, rfl, rfl, rfl, rfl, rfl, rfl, rfl, rfl, rfl, rfl, rfl, rfl, rfl, rfl⟩
set_option maxHeartbeats 8000000 in
set_option maxRecDepth 100000 in
theorem st_r10n {K : Act → World → Prop} {c : Code} (hc : regOf (Try.f6.body.getD .skip) 10 = some c) (a : Act) {v : Vst} {wq : World} {ao : Option Addr} {n cp k : Nat} (hF : Fst a v) (h3v : v.v3 = .slice ao n cp) (h14v : v.v14 = .int .i64 (k : Int)) (hk : ¬ (k : Int) < (n : Int)) (hQ : ∀ a', Fst a' v → a'.tmps.getD 51 undef = .bool false → K a' wq) :
    Code.wp Try.prog c (Exit.then K fun _ _ _ => False) a wq := by
  have HQ := hide hQ
  clear hQ
  obtain ⟨t', d'⟩ := a
  obtain ⟨v0, v1, v2, v3, v8, v9, v10, v11, v12, v13, v14, v15, v16, v60⟩ := v
  simp only at h3v h14v HQ
  subst h3v h14v
  obtain ⟨hs1, hd1, q0, q1, q2, q3, q8, q9, q10, q11, q12, q13, q14, q15, q16, q60⟩ := hF
  obtain ⟨u, hu⟩ := frame_st t' hs1
  simp only at hd1 q0 q1 q2 q3 q8 q9 q10 q11 q12 q13 q14 q15 q16 q60
  subst hu hd1
  have e0 : u 0 = v0 := q0
  have e1 : u 1 = v1 := q1
  have e2 : u 2 = v2 := q2
  have e3 : u 3 = .slice ao n cp := q3
  have e8 : u 8 = v8 := q8
  have e9 : u 9 = v9 := q9
  have e10 : u 10 = v10 := q10
  have e11 : u 11 = v11 := q11
  have e12 : u 12 = v12 := q12
  have e13 : u 13 = v13 := q13
  have e14 : u 14 = .int .i64 (k : Int) := q14
  have e15 : u 15 = v15 := q15
  have e16 : u 16 = v16 := q16
  have e60 : u 60 = v60 := q60
  rw [e0, e1, e2, e3, e8, e9, e10, e11, e12, e13, e14, e15, e16, e60]
  clear q0 e0 q1 e1 q2 e2 q3 e3 q8 e8 q9 e9 q10 e10 q11 e11 q12 e12 q13 e13 q14 e14 q15 e15 q16 e16 q60 e60 hs1
  simp only [Try.f6, Option.getD_some, regOf] at hc
  injection hc with hc
  subst hc
  have hd : decide ((k : Int) < (n : Int)) = false := decide_eq_false hk
  go_wp2
  exact HQ.out _ ⟨rfl, rfl, rfl, rfl, rfl, rfl, rfl, rfl, rfl, rfl, rfl, rfl, rfl, rfl, rfl, rfl⟩ (by first | rfl | (simp; done))
set_option maxHeartbeats 8000000 in
set_option maxRecDepth 100000 in
theorem st_r10y {K : Act → World → Prop} {c : Code} (hc : regOf (Try.f6.body.getD .skip) 10 = some c) (a : Act) {v : Vst} {wq : World} {ao : Option Addr} {n cp k : Nat} (hF : Fst a v) (h3v : v.v3 = .slice ao n cp) (h14v : v.v14 = .int .i64 (k : Int)) (hk : (k : Int) < (n : Int)) (hQ : ∀ a', Fst a' v → a'.tmps.getD 51 undef = .bool (decide ((k : Int) < 100)) → K a' wq) :
    Code.wp Try.prog c (Exit.then K fun _ _ _ => False) a wq := by
  have HQ := hide hQ
  clear hQ
  obtain ⟨t', d'⟩ := a
  obtain ⟨v0, v1, v2, v3, v8, v9, v10, v11, v12, v13, v14, v15, v16, v60⟩ := v
  simp only at h3v h14v HQ
  subst h3v h14v
  obtain ⟨hs1, hd1, q0, q1, q2, q3, q8, q9, q10, q11, q12, q13, q14, q15, q16, q60⟩ := hF
  obtain ⟨u, hu⟩ := frame_st t' hs1
  simp only at hd1 q0 q1 q2 q3 q8 q9 q10 q11 q12 q13 q14 q15 q16 q60
  subst hu hd1
  have e0 : u 0 = v0 := q0
  have e1 : u 1 = v1 := q1
  have e2 : u 2 = v2 := q2
  have e3 : u 3 = .slice ao n cp := q3
  have e8 : u 8 = v8 := q8
  have e9 : u 9 = v9 := q9
  have e10 : u 10 = v10 := q10
  have e11 : u 11 = v11 := q11
  have e12 : u 12 = v12 := q12
  have e13 : u 13 = v13 := q13
  have e14 : u 14 = .int .i64 (k : Int) := q14
  have e15 : u 15 = v15 := q15
  have e16 : u 16 = v16 := q16
  have e60 : u 60 = v60 := q60
  rw [e0, e1, e2, e3, e8, e9, e10, e11, e12, e13, e14, e15, e16, e60]
  clear q0 e0 q1 e1 q2 e2 q3 e3 q8 e8 q9 e9 q10 e10 q11 e11 q12 e12 q13 e13 q14 e14 q15 e15 q16 e16 q60 e60 hs1
  simp only [Try.f6, Option.getD_some, regOf] at hc
  injection hc with hc
  subst hc
  have hd : decide ((k : Int) < (n : Int)) = true := decide_eq_true hk
  go_wp2
  exact HQ.out _ ⟨rfl, rfl, rfl, rfl, rfl, rfl, rfl, rfl, rfl, rfl, rfl, rfl, rfl, rfl, rfl, rfl⟩ (by first | rfl | (simp; done))
set_option maxHeartbeats 8000000 in
set_option maxRecDepth 100000 in
theorem st_r12 {K : Act → World → Prop} {c : Code} (hc : regOf (Try.f6.body.getD .skip) 12 = some c) (a : Act) {v : Vst} {wq : World} {db df n cp k : Nat} {d : DE} (hF : Fst a v) (h3v : v.v3 = .slice (some ⟨db, df, none⟩) n cp) (h14v : v.v14 = .int .i64 (k : Int)) (hk : k < n) (hD : DEAt wq db (df + k * 4) d)
    (hQ : ∀ a', Fst a' { v with v15 := .pointer (some ⟨wq.heap.size, 0, none⟩) } → K a' (wq.alloc (.cells #[.int .i64 d.kind, .string d.s, .int .i64 d.node, .int .i64 d.n] 33))) :
    Code.wp Try.prog c (Exit.then K fun _ _ _ => False) a wq := by
  have HQ := hide hQ
  clear hQ
  obtain ⟨t', d'⟩ := a
  obtain ⟨v0, v1, v2, v3, v8, v9, v10, v11, v12, v13, v14, v15, v16, v60⟩ := v
  simp only at h3v h14v HQ
  subst h3v h14v
  obtain ⟨hs1, hd1, q0, q1, q2, q3, q8, q9, q10, q11, q12, q13, q14, q15, q16, q60⟩ := hF
  obtain ⟨u, hu⟩ := frame_st t' hs1
  simp only at hd1 q0 q1 q2 q3 q8 q9 q10 q11 q12 q13 q14 q15 q16 q60
  subst hu hd1
  have e0 : u 0 = v0 := q0
  have e1 : u 1 = v1 := q1
  have e2 : u 2 = v2 := q2
  have e3 : u 3 = .slice (some ⟨db, df, none⟩) n cp := q3
  have e8 : u 8 = v8 := q8
  have e9 : u 9 = v9 := q9
  have e10 : u 10 = v10 := q10
  have e11 : u 11 = v11 := q11
  have e12 : u 12 = v12 := q12
  have e13 : u 13 = v13 := q13
  have e14 : u 14 = .int .i64 (k : Int) := q14
  have e15 : u 15 = v15 := q15
  have e16 : u 16 = v16 := q16
  have e60 : u 60 = v60 := q60
  rw [e0, e1, e2, e3, e8, e9, e10, e11, e12, e13, e14, e15, e16, e60]
  clear q0 e0 q1 e1 q2 e2 q3 e3 q8 e8 q9 e9 q10 e10 q11 e11 q12 e12 q13 e13 q14 e14 q15 e15 q16 e16 q60 e60 hs1
  simp only [Try.f6, Option.getD_some, regOf] at hc
  injection hc with hc
  subst hc
  obtain ⟨c0, c1, c2, c3⟩ := hD
  have i0 : (0 : Int) ≤ (k : Int) := by omega
  have i1 : (k : Int) < (n : Int) := by omega
  go_wp2
  exact HQ.out _ ⟨rfl, rfl, rfl, rfl, rfl, rfl, rfl, rfl, rfl, rfl, rfl, rfl, rfl, rfl, rfl, rfl⟩
set_option maxHeartbeats 8000000 in
set_option maxRecDepth 100000 in
theorem st_r13 {K : Act → World → Prop} {c : Code} (hc : regOf (Try.f6.body.getD .skip) 13 = some c) (a : Act) {v : Vst} {wq : World} {R : World → Prop} {cb x : Nat} {d : DE} (hF : Fst a v) (h15v : v.v15 = .pointer (some ⟨cb, 0, none⟩)) (hC : wq.heap[cb]? = some (.cells #[.int .i64 d.kind, .string d.s, .int .i64 d.node, .int .i64 d.n] 33 (0, 0))) (hE : Calls Try.prog 12 #[.int .i64 d.kind, .int .i64 5] wq fun e w' => e = .returned (.int .i64 (x : Int)) ∧ R w')
    (hQ : ∀ a' w1, Fst a' { v with v60 := .int .i64 (x : Int) } → R w1 → K a' w1) :
    Code.wp Try.prog c (Exit.then K fun _ _ _ => False) a wq := by
  have HQ := hide hQ
  clear hQ
  obtain ⟨t', d'⟩ := a
  obtain ⟨v0, v1, v2, v3, v8, v9, v10, v11, v12, v13, v14, v15, v16, v60⟩ := v
  simp only at h15v HQ
  subst h15v
  obtain ⟨hs1, hd1, q0, q1, q2, q3, q8, q9, q10, q11, q12, q13, q14, q15, q16, q60⟩ := hF
  obtain ⟨u, hu⟩ := frame_st t' hs1
  simp only at hd1 q0 q1 q2 q3 q8 q9 q10 q11 q12 q13 q14 q15 q16 q60
  subst hu hd1
  have e0 : u 0 = v0 := q0
  have e1 : u 1 = v1 := q1
  have e2 : u 2 = v2 := q2
  have e3 : u 3 = v3 := q3
  have e8 : u 8 = v8 := q8
  have e9 : u 9 = v9 := q9
  have e10 : u 10 = v10 := q10
  have e11 : u 11 = v11 := q11
  have e12 : u 12 = v12 := q12
  have e13 : u 13 = v13 := q13
  have e14 : u 14 = v14 := q14
  have e15 : u 15 = .pointer (some ⟨cb, 0, none⟩) := q15
  have e16 : u 16 = v16 := q16
  have e60 : u 60 = v60 := q60
  rw [e0, e1, e2, e3, e8, e9, e10, e11, e12, e13, e14, e15, e16, e60]
  clear q0 e0 q1 e1 q2 e2 q3 e3 q8 e8 q9 e9 q10 e10 q11 e11 q12 e12 q13 e13 q14 e14 q15 e15 q16 e16 q60 e60 hs1
  simp only [Try.f6, Option.getD_some, regOf] at hc
  injection hc with hc
  subst hc
  have HE := hide hE
  clear hE
  have z0 := box_cell hC 0 rfl
  clear hC
  go_wp2_with (go_at_call 12; refine HE.out.mono ?_; rintro e w1 ⟨rfl, r1⟩; have R1 := hide r1; clear r1)
  exact HQ.out _ _ ⟨rfl, rfl, rfl, rfl, rfl, rfl, rfl, rfl, rfl, rfl, rfl, rfl, rfl, rfl, rfl, rfl⟩ R1.out
set_option maxHeartbeats 8000000 in
set_option maxRecDepth 100000 in
theorem st_r15 {K : Act → World → Prop} {c : Code} (hc : regOf (Try.f6.body.getD .skip) 15 = some c) (a : Act) {v : Vst} {wq : World} {x : Nat} (hF : Fst a v) (h60v : v.v60 = .int .i64 (x : Int)) (hQ : ∀ a', Fst a' v → a'.tmps.getD 67 undef = .bool (decide (x = 0)) → K a' wq) :
    Code.wp Try.prog c (Exit.then K fun _ _ _ => False) a wq := by
  have HQ := hide hQ
  clear hQ
  obtain ⟨t', d'⟩ := a
  obtain ⟨v0, v1, v2, v3, v8, v9, v10, v11, v12, v13, v14, v15, v16, v60⟩ := v
  simp only at h60v HQ
  subst h60v
  obtain ⟨hs1, hd1, q0, q1, q2, q3, q8, q9, q10, q11, q12, q13, q14, q15, q16, q60⟩ := hF
  obtain ⟨u, hu⟩ := frame_st t' hs1
  simp only at hd1 q0 q1 q2 q3 q8 q9 q10 q11 q12 q13 q14 q15 q16 q60
  subst hu hd1
  have e0 : u 0 = v0 := q0
  have e1 : u 1 = v1 := q1
  have e2 : u 2 = v2 := q2
  have e3 : u 3 = v3 := q3
  have e8 : u 8 = v8 := q8
  have e9 : u 9 = v9 := q9
  have e10 : u 10 = v10 := q10
  have e11 : u 11 = v11 := q11
  have e12 : u 12 = v12 := q12
  have e13 : u 13 = v13 := q13
  have e14 : u 14 = v14 := q14
  have e15 : u 15 = v15 := q15
  have e16 : u 16 = v16 := q16
  have e60 : u 60 = .int .i64 (x : Int) := q60
  rw [e0, e1, e2, e3, e8, e9, e10, e11, e12, e13, e14, e15, e16, e60]
  clear q0 e0 q1 e1 q2 e2 q3 e3 q8 e8 q9 e9 q10 e10 q11 e11 q12 e12 q13 e13 q14 e14 q15 e15 q16 e16 q60 e60 hs1
  simp only [Try.f6, Option.getD_some, regOf] at hc
  injection hc with hc
  subst hc
  have hd : ((x : Int) == 0) = decide (x = 0) := by by_cases e : x = 0 <;> simp [e]
  go_wp2
  exact HQ.out _ ⟨rfl, rfl, rfl, rfl, rfl, rfl, rfl, rfl, rfl, rfl, rfl, rfl, rfl, rfl, rfl, rfl⟩ (by first | rfl | (simp; done))
set_option maxHeartbeats 8000000 in
set_option maxRecDepth 100000 in
theorem st_r17 {K : Act → World → Prop} {c : Code} (hc : regOf (Try.f6.body.getD .skip) 17 = some c) (a : Act) {v : Vst} {wq : World} {x : Nat} (hF : Fst a v) (h60v : v.v60 = .int .i64 (x : Int)) (hQ : ∀ a', Fst a' v → a'.tmps.getD 73 undef = .bool (decide (x = 1)) → K a' wq) :
    Code.wp Try.prog c (Exit.then K fun _ _ _ => False) a wq := by
  have HQ := hide hQ
  clear hQ
  obtain ⟨t', d'⟩ := a
  obtain ⟨v0, v1, v2, v3, v8, v9, v10, v11, v12, v13, v14, v15, v16, v60⟩ := v
  simp only at h60v HQ
  subst h60v
  obtain ⟨hs1, hd1, q0, q1, q2, q3, q8, q9, q10, q11, q12, q13, q14, q15, q16, q60⟩ := hF
  obtain ⟨u, hu⟩ := frame_st t' hs1
  simp only at hd1 q0 q1 q2 q3 q8 q9 q10 q11 q12 q13 q14 q15 q16 q60
  subst hu hd1
  have e0 : u 0 = v0 := q0
  have e1 : u 1 = v1 := q1
  have e2 : u 2 = v2 := q2
  have e3 : u 3 = v3 := q3
  have e8 : u 8 = v8 := q8
  have e9 : u 9 = v9 := q9
  have e10 : u 10 = v10 := q10
  have e11 : u 11 = v11 := q11
  have e12 : u 12 = v12 := q12
  have e13 : u 13 = v13 := q13
  have e14 : u 14 = v14 := q14
  have e15 : u 15 = v15 := q15
  have e16 : u 16 = v16 := q16
  have e60 : u 60 = .int .i64 (x : Int) := q60
  rw [e0, e1, e2, e3, e8, e9, e10, e11, e12, e13, e14, e15, e16, e60]
  clear q0 e0 q1 e1 q2 e2 q3 e3 q8 e8 q9 e9 q10 e10 q11 e11 q12 e12 q13 e13 q14 e14 q15 e15 q16 e16 q60 e60 hs1
  simp only [Try.f6, Option.getD_some, regOf] at hc
  injection hc with hc
  subst hc
  have hd : ((x : Int) == 1) = decide (x = 1) := by by_cases e : x = 1 <;> simp [e]; omega
  go_wp2
  exact HQ.out _ ⟨rfl, rfl, rfl, rfl, rfl, rfl, rfl, rfl, rfl, rfl, rfl, rfl, rfl, rfl, rfl, rfl⟩ (by first | rfl | (simp; done))
set_option maxHeartbeats 8000000 in
set_option maxRecDepth 100000 in
theorem st_r19 {K : Act → World → Prop} {c : Code} (hc : regOf (Try.f6.body.getD .skip) 19 = some c) (a : Act) {v : Vst} {wq : World} {x : Nat} (hF : Fst a v) (h60v : v.v60 = .int .i64 (x : Int)) (hQ : ∀ a', Fst a' v → a'.tmps.getD 81 undef = .bool (decide (x = 2)) → K a' wq) :
    Code.wp Try.prog c (Exit.then K fun _ _ _ => False) a wq := by
  have HQ := hide hQ
  clear hQ
  obtain ⟨t', d'⟩ := a
  obtain ⟨v0, v1, v2, v3, v8, v9, v10, v11, v12, v13, v14, v15, v16, v60⟩ := v
  simp only at h60v HQ
  subst h60v
  obtain ⟨hs1, hd1, q0, q1, q2, q3, q8, q9, q10, q11, q12, q13, q14, q15, q16, q60⟩ := hF
  obtain ⟨u, hu⟩ := frame_st t' hs1
  simp only at hd1 q0 q1 q2 q3 q8 q9 q10 q11 q12 q13 q14 q15 q16 q60
  subst hu hd1
  have e0 : u 0 = v0 := q0
  have e1 : u 1 = v1 := q1
  have e2 : u 2 = v2 := q2
  have e3 : u 3 = v3 := q3
  have e8 : u 8 = v8 := q8
  have e9 : u 9 = v9 := q9
  have e10 : u 10 = v10 := q10
  have e11 : u 11 = v11 := q11
  have e12 : u 12 = v12 := q12
  have e13 : u 13 = v13 := q13
  have e14 : u 14 = v14 := q14
  have e15 : u 15 = v15 := q15
  have e16 : u 16 = v16 := q16
  have e60 : u 60 = .int .i64 (x : Int) := q60
  rw [e0, e1, e2, e3, e8, e9, e10, e11, e12, e13, e14, e15, e16, e60]
  clear q0 e0 q1 e1 q2 e2 q3 e3 q8 e8 q9 e9 q10 e10 q11 e11 q12 e12 q13 e13 q14 e14 q15 e15 q16 e16 q60 e60 hs1
  simp only [Try.f6, Option.getD_some, regOf] at hc
  injection hc with hc
  subst hc
  have hd : ((x : Int) == 2) = decide (x = 2) := by by_cases e : x = 2 <;> simp [e]; omega
  go_wp2
  exact HQ.out _ ⟨rfl, rfl, rfl, rfl, rfl, rfl, rfl, rfl, rfl, rfl, rfl, rfl, rfl, rfl, rfl, rfl⟩ (by first | rfl | (simp; done))
set_option maxHeartbeats 8000000 in
set_option maxRecDepth 100000 in
theorem st_r21 {K : Act → World → Prop} {c : Code} (hc : regOf (Try.f6.body.getD .skip) 21 = some c) (a : Act) {v : Vst} {wq : World} {x : Nat} (hF : Fst a v) (h60v : v.v60 = .int .i64 (x : Int)) (hQ : ∀ a', Fst a' v → a'.tmps.getD 89 undef = .bool (decide (x = 3)) → K a' wq) :
    Code.wp Try.prog c (Exit.then K fun _ _ _ => False) a wq := by
  have HQ := hide hQ
  clear hQ
  obtain ⟨t', d'⟩ := a
  obtain ⟨v0, v1, v2, v3, v8, v9, v10, v11, v12, v13, v14, v15, v16, v60⟩ := v
  simp only at h60v HQ
  subst h60v
  obtain ⟨hs1, hd1, q0, q1, q2, q3, q8, q9, q10, q11, q12, q13, q14, q15, q16, q60⟩ := hF
  obtain ⟨u, hu⟩ := frame_st t' hs1
  simp only at hd1 q0 q1 q2 q3 q8 q9 q10 q11 q12 q13 q14 q15 q16 q60
  subst hu hd1
  have e0 : u 0 = v0 := q0
  have e1 : u 1 = v1 := q1
  have e2 : u 2 = v2 := q2
  have e3 : u 3 = v3 := q3
  have e8 : u 8 = v8 := q8
  have e9 : u 9 = v9 := q9
  have e10 : u 10 = v10 := q10
  have e11 : u 11 = v11 := q11
  have e12 : u 12 = v12 := q12
  have e13 : u 13 = v13 := q13
  have e14 : u 14 = v14 := q14
  have e15 : u 15 = v15 := q15
  have e16 : u 16 = v16 := q16
  have e60 : u 60 = .int .i64 (x : Int) := q60
  rw [e0, e1, e2, e3, e8, e9, e10, e11, e12, e13, e14, e15, e16, e60]
  clear q0 e0 q1 e1 q2 e2 q3 e3 q8 e8 q9 e9 q10 e10 q11 e11 q12 e12 q13 e13 q14 e14 q15 e15 q16 e16 q60 e60 hs1
  simp only [Try.f6, Option.getD_some, regOf] at hc
  injection hc with hc
  subst hc
  have hd : ((x : Int) == 3) = decide (x = 3) := by by_cases e : x = 3 <;> simp [e]; omega
  go_wp2
  exact HQ.out _ ⟨rfl, rfl, rfl, rfl, rfl, rfl, rfl, rfl, rfl, rfl, rfl, rfl, rfl, rfl, rfl, rfl⟩ (by first | rfl | (simp; done))
set_option maxHeartbeats 8000000 in
set_option maxRecDepth 100000 in
theorem st_r16 {K : Act → World → Prop} {c : Code} (hc : regOf (Try.f6.body.getD .skip) 16 = some c) (a : Act) {v : Vst} {wq : World} {R : World → Prop} {cb : Nat} {d : DE} {ad : Addr} {x y : Int} (hF : Fst a v) (h10v : v.v10 = .pointer (some ad)) (h15v : v.v15 = .pointer (some ⟨cb, 0, none⟩)) (hC : wq.heap[cb]? = some (.cells #[.int .i64 d.kind, .string d.s, .int .i64 d.node, .int .i64 d.n] 33 (0, 0))) (hE : Calls Try.prog 13 #[.pointer (some ad), .string d.s] wq fun e w' => e = .returned (.tuple #[.int .i64 x, .int .i64 y]) ∧ R w')
    (hQ : ∀ a' w1, Fst a' v → R w1 → K a' w1) :
    Code.wp Try.prog c (Exit.then K fun _ _ _ => False) a wq := by
  have HQ := hide hQ
  clear hQ
  obtain ⟨t', d'⟩ := a
  obtain ⟨v0, v1, v2, v3, v8, v9, v10, v11, v12, v13, v14, v15, v16, v60⟩ := v
  simp only at h10v h15v HQ
  subst h10v h15v
  obtain ⟨hs1, hd1, q0, q1, q2, q3, q8, q9, q10, q11, q12, q13, q14, q15, q16, q60⟩ := hF
  obtain ⟨u, hu⟩ := frame_st t' hs1
  simp only at hd1 q0 q1 q2 q3 q8 q9 q10 q11 q12 q13 q14 q15 q16 q60
  subst hu hd1
  have e0 : u 0 = v0 := q0
  have e1 : u 1 = v1 := q1
  have e2 : u 2 = v2 := q2
  have e3 : u 3 = v3 := q3
  have e8 : u 8 = v8 := q8
  have e9 : u 9 = v9 := q9
  have e10 : u 10 = .pointer (some ad) := q10
  have e11 : u 11 = v11 := q11
  have e12 : u 12 = v12 := q12
  have e13 : u 13 = v13 := q13
  have e14 : u 14 = v14 := q14
  have e15 : u 15 = .pointer (some ⟨cb, 0, none⟩) := q15
  have e16 : u 16 = v16 := q16
  have e60 : u 60 = v60 := q60
  rw [e0, e1, e2, e3, e8, e9, e10, e11, e12, e13, e14, e15, e16, e60]
  clear q0 e0 q1 e1 q2 e2 q3 e3 q8 e8 q9 e9 q10 e10 q11 e11 q12 e12 q13 e13 q14 e14 q15 e15 q16 e16 q60 e60 hs1
  simp only [Try.f6, Option.getD_some, regOf] at hc
  injection hc with hc
  subst hc
  have HE := hide hE
  clear hE
  have z1 := box_cell hC 1 rfl
  clear hC
  go_wp2_with (go_at_call 13; refine HE.out.mono ?_; rintro e w1 ⟨rfl, r1⟩; have R1 := hide r1; clear r1)
  exact HQ.out _ _ ⟨rfl, rfl, rfl, rfl, rfl, rfl, rfl, rfl, rfl, rfl, rfl, rfl, rfl, rfl, rfl, rfl⟩ R1.out
set_option maxHeartbeats 8000000 in
set_option maxRecDepth 100000 in
theorem st_r18 {K : Act → World → Prop} {c : Code} (hc : regOf (Try.f6.body.getD .skip) 18 = some c) (a : Act) {v : Vst} {wq : World} {R : World → Prop} {cb : Nat} {d : DE} {ad : Addr} {x : Bool} (hF : Fst a v) (h10v : v.v10 = .pointer (some ad)) (h15v : v.v15 = .pointer (some ⟨cb, 0, none⟩)) (hC : wq.heap[cb]? = some (.cells #[.int .i64 d.kind, .string d.s, .int .i64 d.node, .int .i64 d.n] 33 (0, 0))) (hE : Calls Try.prog 15 #[.pointer (some ad), .int .i64 d.n, .string d.s] wq fun e w' => e = .returned (.bool x) ∧ R w')
    (hQ : ∀ a' w1, Fst a' v → R w1 → K a' w1) :
    Code.wp Try.prog c (Exit.then K fun _ _ _ => False) a wq := by
  have HQ := hide hQ
  clear hQ
  obtain ⟨t', d'⟩ := a
  obtain ⟨v0, v1, v2, v3, v8, v9, v10, v11, v12, v13, v14, v15, v16, v60⟩ := v
  simp only at h10v h15v HQ
  subst h10v h15v
  obtain ⟨hs1, hd1, q0, q1, q2, q3, q8, q9, q10, q11, q12, q13, q14, q15, q16, q60⟩ := hF
  obtain ⟨u, hu⟩ := frame_st t' hs1
  simp only at hd1 q0 q1 q2 q3 q8 q9 q10 q11 q12 q13 q14 q15 q16 q60
  subst hu hd1
  have e0 : u 0 = v0 := q0
  have e1 : u 1 = v1 := q1
  have e2 : u 2 = v2 := q2
  have e3 : u 3 = v3 := q3
  have e8 : u 8 = v8 := q8
  have e9 : u 9 = v9 := q9
  have e10 : u 10 = .pointer (some ad) := q10
  have e11 : u 11 = v11 := q11
  have e12 : u 12 = v12 := q12
  have e13 : u 13 = v13 := q13
  have e14 : u 14 = v14 := q14
  have e15 : u 15 = .pointer (some ⟨cb, 0, none⟩) := q15
  have e16 : u 16 = v16 := q16
  have e60 : u 60 = v60 := q60
  rw [e0, e1, e2, e3, e8, e9, e10, e11, e12, e13, e14, e15, e16, e60]
  clear q0 e0 q1 e1 q2 e2 q3 e3 q8 e8 q9 e9 q10 e10 q11 e11 q12 e12 q13 e13 q14 e14 q15 e15 q16 e16 q60 e60 hs1
  simp only [Try.f6, Option.getD_some, regOf] at hc
  injection hc with hc
  subst hc
  have HE := hide hE
  clear hE
  have z1 := box_cell hC 1 rfl
  have z3 := box_cell hC 3 rfl
  clear hC
  go_wp2_with (go_at_call 15; refine HE.out.mono ?_; rintro e w1 ⟨rfl, r1⟩; have R1 := hide r1; clear r1)
  exact HQ.out _ _ ⟨rfl, rfl, rfl, rfl, rfl, rfl, rfl, rfl, rfl, rfl, rfl, rfl, rfl, rfl, rfl, rfl⟩ R1.out
set_option maxHeartbeats 8000000 in
set_option maxRecDepth 100000 in
theorem st_r20 {K : Act → World → Prop} {c : Code} (hc : regOf (Try.f6.body.getD .skip) 20 = some c) (a : Act) {v : Vst} {wq : World} {R : World → Prop} {cb : Nat} {d : DE} {ad : Addr} {x : Bool} (hF : Fst a v) (h10v : v.v10 = .pointer (some ad)) (h15v : v.v15 = .pointer (some ⟨cb, 0, none⟩)) (hC : wq.heap[cb]? = some (.cells #[.int .i64 d.kind, .string d.s, .int .i64 d.node, .int .i64 d.n] 33 (0, 0))) (hE : Calls Try.prog 17 #[.pointer (some ad), .int .i64 d.node, .int .i64 d.n] wq fun e w' => e = .returned (.bool x) ∧ R w')
    (hQ : ∀ a' w1, Fst a' v → R w1 → K a' w1) :
    Code.wp Try.prog c (Exit.then K fun _ _ _ => False) a wq := by
  have HQ := hide hQ
  clear hQ
  obtain ⟨t', d'⟩ := a
  obtain ⟨v0, v1, v2, v3, v8, v9, v10, v11, v12, v13, v14, v15, v16, v60⟩ := v
  simp only at h10v h15v HQ
  subst h10v h15v
  obtain ⟨hs1, hd1, q0, q1, q2, q3, q8, q9, q10, q11, q12, q13, q14, q15, q16, q60⟩ := hF
  obtain ⟨u, hu⟩ := frame_st t' hs1
  simp only at hd1 q0 q1 q2 q3 q8 q9 q10 q11 q12 q13 q14 q15 q16 q60
  subst hu hd1
  have e0 : u 0 = v0 := q0
  have e1 : u 1 = v1 := q1
  have e2 : u 2 = v2 := q2
  have e3 : u 3 = v3 := q3
  have e8 : u 8 = v8 := q8
  have e9 : u 9 = v9 := q9
  have e10 : u 10 = .pointer (some ad) := q10
  have e11 : u 11 = v11 := q11
  have e12 : u 12 = v12 := q12
  have e13 : u 13 = v13 := q13
  have e14 : u 14 = v14 := q14
  have e15 : u 15 = .pointer (some ⟨cb, 0, none⟩) := q15
  have e16 : u 16 = v16 := q16
  have e60 : u 60 = v60 := q60
  rw [e0, e1, e2, e3, e8, e9, e10, e11, e12, e13, e14, e15, e16, e60]
  clear q0 e0 q1 e1 q2 e2 q3 e3 q8 e8 q9 e9 q10 e10 q11 e11 q12 e12 q13 e13 q14 e14 q15 e15 q16 e16 q60 e60 hs1
  simp only [Try.f6, Option.getD_some, regOf] at hc
  injection hc with hc
  subst hc
  have HE := hide hE
  clear hE
  have z2 := box_cell hC 2 rfl
  have z3 := box_cell hC 3 rfl
  clear hC
  go_wp2_with (go_at_call 17; refine HE.out.mono ?_; rintro e w1 ⟨rfl, r1⟩; have R1 := hide r1; clear r1)
  exact HQ.out _ _ ⟨rfl, rfl, rfl, rfl, rfl, rfl, rfl, rfl, rfl, rfl, rfl, rfl, rfl, rfl, rfl, rfl⟩ R1.out
set_option maxHeartbeats 8000000 in
set_option maxRecDepth 100000 in
theorem st_r22 {K : Act → World → Prop} {c : Code} (hc : regOf (Try.f6.body.getD .skip) 22 = some c) (a : Act) {v : Vst} {wq : World} {R : World → Prop} {cb : Nat} {d : DE} {ad : Addr} {x : Bool} (hF : Fst a v) (h10v : v.v10 = .pointer (some ad)) (h15v : v.v15 = .pointer (some ⟨cb, 0, none⟩)) (hC : wq.heap[cb]? = some (.cells #[.int .i64 d.kind, .string d.s, .int .i64 d.node, .int .i64 d.n] 33 (0, 0))) (hE : Calls Try.prog 19 #[.pointer (some ad), .int .i64 d.n] wq fun e w' => e = .returned (.bool x) ∧ R w')
    (hQ : ∀ a' w1, Fst a' v → R w1 → K a' w1) :
    Code.wp Try.prog c (Exit.then K fun _ _ _ => False) a wq := by
  have HQ := hide hQ
  clear hQ
  obtain ⟨t', d'⟩ := a
  obtain ⟨v0, v1, v2, v3, v8, v9, v10, v11, v12, v13, v14, v15, v16, v60⟩ := v
  simp only at h10v h15v HQ
  subst h10v h15v
  obtain ⟨hs1, hd1, q0, q1, q2, q3, q8, q9, q10, q11, q12, q13, q14, q15, q16, q60⟩ := hF
  obtain ⟨u, hu⟩ := frame_st t' hs1
  simp only at hd1 q0 q1 q2 q3 q8 q9 q10 q11 q12 q13 q14 q15 q16 q60
  subst hu hd1
  have e0 : u 0 = v0 := q0
  have e1 : u 1 = v1 := q1
  have e2 : u 2 = v2 := q2
  have e3 : u 3 = v3 := q3
  have e8 : u 8 = v8 := q8
  have e9 : u 9 = v9 := q9
  have e10 : u 10 = .pointer (some ad) := q10
  have e11 : u 11 = v11 := q11
  have e12 : u 12 = v12 := q12
  have e13 : u 13 = v13 := q13
  have e14 : u 14 = v14 := q14
  have e15 : u 15 = .pointer (some ⟨cb, 0, none⟩) := q15
  have e16 : u 16 = v16 := q16
  have e60 : u 60 = v60 := q60
  rw [e0, e1, e2, e3, e8, e9, e10, e11, e12, e13, e14, e15, e16, e60]
  clear q0 e0 q1 e1 q2 e2 q3 e3 q8 e8 q9 e9 q10 e10 q11 e11 q12 e12 q13 e13 q14 e14 q15 e15 q16 e16 q60 e60 hs1
  simp only [Try.f6, Option.getD_some, regOf] at hc
  injection hc with hc
  subst hc
  have HE := hide hE
  clear hE
  have z3 := box_cell hC 3 rfl
  clear hC
  go_wp2_with (go_at_call 19; refine HE.out.mono ?_; rintro e w1 ⟨rfl, r1⟩; have R1 := hide r1; clear r1)
  exact HQ.out _ _ ⟨rfl, rfl, rfl, rfl, rfl, rfl, rfl, rfl, rfl, rfl, rfl, rfl, rfl, rfl, rfl, rfl⟩ R1.out
set_option maxHeartbeats 8000000 in
set_option maxRecDepth 100000 in
theorem st_r14 {K : Act → World → Prop} {c : Code} (hc : regOf (Try.f6.body.getD .skip) 14 = some c) (a : Act) {v : Vst} {wq : World} {R : Option Addr → Nat → World → Prop} {cb : Nat} {d : DE} {ad : Addr} {x : Int} {n : Nat} (hF : Fst a v) (h10v : v.v10 = .pointer (some ad)) (h15v : v.v15 = .pointer (some ⟨cb, 0, none⟩)) (hC : wq.heap[cb]? = some (.cells #[.int .i64 d.kind, .string d.s, .int .i64 d.node, .int .i64 d.n] 33 (0, 0))) (hE : Calls Try.prog 21 #[.pointer (some ad), .int .i64 d.node, .int .i64 d.n] wq fun e w' => ∃ (ao : Option Addr) (cp : Nat), e = .returned (.tuple #[.int .i64 x, .slice ao n cp]) ∧ R ao cp w')
    (hQ : ∀ a' w1 ao cp, Fst a' v → R ao cp w1 → K a' w1) :
    Code.wp Try.prog c (Exit.then K fun _ _ _ => False) a wq := by
  have HQ := hide hQ
  clear hQ
  obtain ⟨t', d'⟩ := a
  obtain ⟨v0, v1, v2, v3, v8, v9, v10, v11, v12, v13, v14, v15, v16, v60⟩ := v
  simp only at h10v h15v HQ
  subst h10v h15v
  obtain ⟨hs1, hd1, q0, q1, q2, q3, q8, q9, q10, q11, q12, q13, q14, q15, q16, q60⟩ := hF
  obtain ⟨u, hu⟩ := frame_st t' hs1
  simp only at hd1 q0 q1 q2 q3 q8 q9 q10 q11 q12 q13 q14 q15 q16 q60
  subst hu hd1
  have e0 : u 0 = v0 := q0
  have e1 : u 1 = v1 := q1
  have e2 : u 2 = v2 := q2
  have e3 : u 3 = v3 := q3
  have e8 : u 8 = v8 := q8
  have e9 : u 9 = v9 := q9
  have e10 : u 10 = .pointer (some ad) := q10
  have e11 : u 11 = v11 := q11
  have e12 : u 12 = v12 := q12
  have e13 : u 13 = v13 := q13
  have e14 : u 14 = v14 := q14
  have e15 : u 15 = .pointer (some ⟨cb, 0, none⟩) := q15
  have e16 : u 16 = v16 := q16
  have e60 : u 60 = v60 := q60
  rw [e0, e1, e2, e3, e8, e9, e10, e11, e12, e13, e14, e15, e16, e60]
  clear q0 e0 q1 e1 q2 e2 q3 e3 q8 e8 q9 e9 q10 e10 q11 e11 q12 e12 q13 e13 q14 e14 q15 e15 q16 e16 q60 e60 hs1
  simp only [Try.f6, Option.getD_some, regOf] at hc
  injection hc with hc
  subst hc
  have HE := hide hE
  clear hE
  have z2 := box_cell hC 2 rfl
  have z3 := box_cell hC 3 rfl
  clear hC
  go_wp2_with (go_at_call 21; refine HE.out.mono ?_; rintro e w1 ⟨ao, cp, rfl, r1⟩; have R1 := hide r1; clear r1)
  exact HQ.out _ _ _ _ ⟨rfl, rfl, rfl, rfl, rfl, rfl, rfl, rfl, rfl, rfl, rfl, rfl, rfl, rfl, rfl, rfl⟩ R1.out
set_option maxHeartbeats 8000000 in
set_option maxRecDepth 100000 in
theorem st_r23 {K : Act → World → Prop} {c : Code} (hc : regOf (Try.f6.body.getD .skip) 23 = some c) (a : Act) {v : Vst} {wq : World} {R : Nat → World → Prop} {ad : Addr} {n : Nat} (hF : Fst a v) (h10v : v.v10 = .pointer (some ad)) (hE : Calls Try.prog 24 #[.pointer (some ad)] wq fun e w' => ∃ (g : Nat), e = .returned (.slice (some ⟨g, 0, none⟩) n n) ∧ R g w')
    (hQ : ∀ a' w1 g, Fst a' { v with v16 := .slice (some ⟨g, 0, none⟩) n n } → R g w1 → K a' w1) :
    Code.wp Try.prog c (Exit.then K fun _ _ _ => False) a wq := by
  have HQ := hide hQ
  clear hQ
  obtain ⟨t', d'⟩ := a
  obtain ⟨v0, v1, v2, v3, v8, v9, v10, v11, v12, v13, v14, v15, v16, v60⟩ := v
  simp only at h10v HQ
  subst h10v
  obtain ⟨hs1, hd1, q0, q1, q2, q3, q8, q9, q10, q11, q12, q13, q14, q15, q16, q60⟩ := hF
  obtain ⟨u, hu⟩ := frame_st t' hs1
  simp only at hd1 q0 q1 q2 q3 q8 q9 q10 q11 q12 q13 q14 q15 q16 q60
  subst hu hd1
  have e0 : u 0 = v0 := q0
  have e1 : u 1 = v1 := q1
  have e2 : u 2 = v2 := q2
  have e3 : u 3 = v3 := q3
  have e8 : u 8 = v8 := q8
  have e9 : u 9 = v9 := q9
  have e10 : u 10 = .pointer (some ad) := q10
  have e11 : u 11 = v11 := q11
  have e12 : u 12 = v12 := q12
  have e13 : u 13 = v13 := q13
  have e14 : u 14 = v14 := q14
  have e15 : u 15 = v15 := q15
  have e16 : u 16 = v16 := q16
  have e60 : u 60 = v60 := q60
  rw [e0, e1, e2, e3, e8, e9, e10, e11, e12, e13, e14, e15, e16, e60]
  clear q0 e0 q1 e1 q2 e2 q3 e3 q8 e8 q9 e9 q10 e10 q11 e11 q12 e12 q13 e13 q14 e14 q15 e15 q16 e16 q60 e60 hs1
  simp only [Try.f6, Option.getD_some, regOf] at hc
  injection hc with hc
  subst hc
  have HE := hide hE
  clear hE
  go_wp2_with (go_at_call 24; refine HE.out.mono ?_; rintro e w1 ⟨g, rfl, r1⟩; have R1 := hide r1; clear r1)
  exact HQ.out _ _ _ ⟨rfl, rfl, rfl, rfl, rfl, rfl, rfl, rfl, rfl, rfl, rfl, rfl, rfl, rfl, rfl, rfl⟩ R1.out
set_option maxHeartbeats 8000000 in
set_option maxRecDepth 100000 in
theorem st_r24 {K : Act → World → Prop} {c : Code} (hc : regOf (Try.f6.body.getD .skip) 24 = some c) (a : Act) {v : Vst} {wq : World} {R0 R1 R2 R3 R4 : World → Prop} {ad : Addr} {g g0 n m x y : Nat} (hF : Fst a v) (h10v : v.v10 = .pointer (some ad)) (h12v : v.v12 = .slice (some ⟨g0, 0, none⟩) n n) (h13v : v.v13 = .int .i64 (y : Int)) (h16v : v.v16 = .slice (some ⟨g, 0, none⟩) m m) (r0 : R0 wq) (hnm : n ≤ m) (hm1 : m ≤ n + 1) (hxy : y ≤ x) (hxm : x ≤ m) (hbig : m ≤ 17592186044416) (h0 : ∀ W, R0 W → Calls Try.prog 23 #[.slice (some ⟨g, 0, none⟩) n m, .slice (some ⟨g0, 0, none⟩) n n] W fun e w' => e = .returned (.bool true) ∧ R1 w') (h1 : ∀ W, R1 W → Calls Try.prog 28 #[.pointer (some ad)] W fun e w' => e = .returned (.int .i64 (x : Int)) ∧ R2 w') (h2 : ∀ W, R2 W → Calls Try.prog 28 #[.pointer (some ad)] W fun e w' => e = .returned (.int .i64 (x : Int)) ∧ R3 w') (h3 : ∀ W, R3 W → Calls Try.prog 25 #[.pointer (some ad)] W fun e w' => e = .returned (.int .i64 (m : Int)) ∧ R4 w')
    (hQ : ∀ a' w1, Fst a' v → a'.tmps.getD 138 undef = .bool false → R4 w1 → K a' w1) :
    Code.wp Try.prog c (Exit.then K fun _ _ _ => False) a wq := by
  have HQ := hide hQ
  clear hQ
  obtain ⟨t', d'⟩ := a
  obtain ⟨v0, v1, v2, v3, v8, v9, v10, v11, v12, v13, v14, v15, v16, v60⟩ := v
  simp only at h10v h12v h13v h16v HQ
  subst h10v h12v h13v h16v
  obtain ⟨hs1, hd1, q0, q1, q2, q3, q8, q9, q10, q11, q12, q13, q14, q15, q16, q60⟩ := hF
  obtain ⟨u, hu⟩ := frame_st t' hs1
  simp only at hd1 q0 q1 q2 q3 q8 q9 q10 q11 q12 q13 q14 q15 q16 q60
  subst hu hd1
  have e0 : u 0 = v0 := q0
  have e1 : u 1 = v1 := q1
  have e2 : u 2 = v2 := q2
  have e3 : u 3 = v3 := q3
  have e8 : u 8 = v8 := q8
  have e9 : u 9 = v9 := q9
  have e10 : u 10 = .pointer (some ad) := q10
  have e11 : u 11 = v11 := q11
  have e12 : u 12 = .slice (some ⟨g0, 0, none⟩) n n := q12
  have e13 : u 13 = .int .i64 (y : Int) := q13
  have e14 : u 14 = v14 := q14
  have e15 : u 15 = v15 := q15
  have e16 : u 16 = .slice (some ⟨g, 0, none⟩) m m := q16
  have e60 : u 60 = v60 := q60
  rw [e0, e1, e2, e3, e8, e9, e10, e11, e12, e13, e14, e15, e16, e60]
  clear q0 e0 q1 e1 q2 e2 q3 e3 q8 e8 q9 e9 q10 e10 q11 e11 q12 e12 q13 e13 q14 e14 q15 e15 q16 e16 q60 e60 hs1
  simp only [Try.f6, Option.getD_some, regOf] at hc
  injection hc with hc
  subst hc
  have H0 := hide h0
  have H1 := hide h1
  have H2 := hide h2
  have H3 := hide h3
  clear h0 h1 h2 h3
  have hs1 := texts_upto (ao := some ⟨g, 0, none⟩) (m := m) (n := n) (cap := m) hnm
  have d1 : decide ((m : Int) < (n : Int)) = false := decide_eq_false (by omega)
  have d2 : decide ((n : Int) + 1 < (m : Int)) = false := decide_eq_false (by omega)
  have d3 : decide ((x : Int) < (y : Int)) = false := decide_eq_false (by omega)
  have d4 : decide ((m : Int) < (x : Int)) = false := decide_eq_false (by omega)
  go_wp2_with (first | (go_at_call 25; refine (H3.out _ r3).mono ?_; rintro e w4 ⟨rfl, r4⟩) | (go_at_call 28; refine (H2.out _ r2).mono ?_; rintro e w3 ⟨rfl, r3⟩) | (go_at_call 28; refine (H1.out _ r1).mono ?_; rintro e w2 ⟨rfl, r2⟩) | (go_at_call 23; refine (H0.out _ r0).mono ?_; rintro e w1 ⟨rfl, r1⟩))
  exact HQ.out _ _ ⟨rfl, rfl, rfl, rfl, rfl, rfl, rfl, rfl, rfl, rfl, rfl, rfl, rfl, rfl, rfl, rfl⟩ (by first | rfl | (simp; done) | (simp; omega)) r4
set_option maxHeartbeats 8000000 in
set_option maxRecDepth 100000 in
theorem st_r26 {K : Act → World → Prop} {c : Code} (hc : regOf (Try.f6.body.getD .skip) 26 = some c) (a : Act) {v : Vst} {wq : World} {g n : Nat} (hF : Fst a v) (h16v : v.v16 = .slice (some ⟨g, 0, none⟩) n n) (hQ : ∀ a', Fst a' { v with v12 := .slice (some ⟨g, 0, none⟩) n n } → K a' wq) :
    Code.wp Try.prog c (Exit.then K fun _ _ _ => False) a wq := by
  have HQ := hide hQ
  clear hQ
  obtain ⟨t', d'⟩ := a
  obtain ⟨v0, v1, v2, v3, v8, v9, v10, v11, v12, v13, v14, v15, v16, v60⟩ := v
  simp only at h16v HQ
  subst h16v
  obtain ⟨hs1, hd1, q0, q1, q2, q3, q8, q9, q10, q11, q12, q13, q14, q15, q16, q60⟩ := hF
  obtain ⟨u, hu⟩ := frame_st t' hs1
  simp only at hd1 q0 q1 q2 q3 q8 q9 q10 q11 q12 q13 q14 q15 q16 q60
  subst hu hd1
  have e0 : u 0 = v0 := q0
  have e1 : u 1 = v1 := q1
  have e2 : u 2 = v2 := q2
  have e3 : u 3 = v3 := q3
  have e8 : u 8 = v8 := q8
  have e9 : u 9 = v9 := q9
  have e10 : u 10 = v10 := q10
  have e11 : u 11 = v11 := q11
  have e12 : u 12 = v12 := q12
  have e13 : u 13 = v13 := q13
  have e14 : u 14 = v14 := q14
  have e15 : u 15 = v15 := q15
  have e16 : u 16 = .slice (some ⟨g, 0, none⟩) n n := q16
  have e60 : u 60 = v60 := q60
  rw [e0, e1, e2, e3, e8, e9, e10, e11, e12, e13, e14, e15, e16, e60]
  clear q0 e0 q1 e1 q2 e2 q3 e3 q8 e8 q9 e9 q10 e10 q11 e11 q12 e12 q13 e13 q14 e14 q15 e15 q16 e16 q60 e60 hs1
  simp only [Try.f6, Option.getD_some, regOf] at hc
  injection hc with hc
  subst hc
  go_wp2
  exact HQ.out _ ⟨rfl, rfl, rfl, rfl, rfl, rfl, rfl, rfl, rfl, rfl, rfl, rfl, rfl, rfl, rfl, rfl⟩
set_option maxHeartbeats 8000000 in
set_option maxRecDepth 100000 in
theorem st_r27 {K : Act → World → Prop} {c : Code} (hc : regOf (Try.f6.body.getD .skip) 27 = some c) (a : Act) {v : Vst} {wq : World} {R : World → Prop} {ad : Addr} {x : Nat} (hF : Fst a v) (h10v : v.v10 = .pointer (some ad)) (hE : Calls Try.prog 28 #[.pointer (some ad)] wq fun e w' => e = .returned (.int .i64 (x : Int)) ∧ R w')
    (hQ : ∀ a' w1, Fst a' { v with v13 := .int .i64 (x : Int) } → R w1 → K a' w1) :
    Code.wp Try.prog c (Exit.then K fun _ _ _ => False) a wq := by
  have HQ := hide hQ
  clear hQ
  obtain ⟨t', d'⟩ := a
  obtain ⟨v0, v1, v2, v3, v8, v9, v10, v11, v12, v13, v14, v15, v16, v60⟩ := v
  simp only at h10v HQ
  subst h10v
  obtain ⟨hs1, hd1, q0, q1, q2, q3, q8, q9, q10, q11, q12, q13, q14, q15, q16, q60⟩ := hF
  obtain ⟨u, hu⟩ := frame_st t' hs1
  simp only at hd1 q0 q1 q2 q3 q8 q9 q10 q11 q12 q13 q14 q15 q16 q60
  subst hu hd1
  have e0 : u 0 = v0 := q0
  have e1 : u 1 = v1 := q1
  have e2 : u 2 = v2 := q2
  have e3 : u 3 = v3 := q3
  have e8 : u 8 = v8 := q8
  have e9 : u 9 = v9 := q9
  have e10 : u 10 = .pointer (some ad) := q10
  have e11 : u 11 = v11 := q11
  have e12 : u 12 = v12 := q12
  have e13 : u 13 = v13 := q13
  have e14 : u 14 = v14 := q14
  have e15 : u 15 = v15 := q15
  have e16 : u 16 = v16 := q16
  have e60 : u 60 = v60 := q60
  rw [e0, e1, e2, e3, e8, e9, e10, e11, e12, e13, e14, e15, e16, e60]
  clear q0 e0 q1 e1 q2 e2 q3 e3 q8 e8 q9 e9 q10 e10 q11 e11 q12 e12 q13 e13 q14 e14 q15 e15 q16 e16 q60 e60 hs1
  simp only [Try.f6, Option.getD_some, regOf] at hc
  injection hc with hc
  subst hc
  have HE := hide hE
  clear hE
  go_wp2_with (go_at_call 28; refine HE.out.mono ?_; rintro e w1 ⟨rfl, r1⟩; have R1 := hide r1; clear r1)
  exact HQ.out _ _ ⟨rfl, rfl, rfl, rfl, rfl, rfl, rfl, rfl, rfl, rfl, rfl, rfl, rfl, rfl, rfl, rfl⟩ R1.out
set_option maxHeartbeats 8000000 in
set_option maxRecDepth 100000 in
theorem st_r11 {K : Act → World → Prop} {c : Code} (hc : regOf (Try.f6.body.getD .skip) 11 = some c) (a : Act) {v : Vst} {wq : World} {k : Nat} (hF : Fst a v) (h14v : v.v14 = .int .i64 (k : Int)) (hk : k ≤ 1000000) (hQ : ∀ a', Fst a' { v with v14 := .int .i64 ((k + 1 : Nat) : Int) } → K a' wq) :
    Code.wp Try.prog c (Exit.then K fun _ _ _ => False) a wq := by
  have HQ := hide hQ
  clear hQ
  obtain ⟨t', d'⟩ := a
  obtain ⟨v0, v1, v2, v3, v8, v9, v10, v11, v12, v13, v14, v15, v16, v60⟩ := v
  simp only at h14v HQ
  subst h14v
  obtain ⟨hs1, hd1, q0, q1, q2, q3, q8, q9, q10, q11, q12, q13, q14, q15, q16, q60⟩ := hF
  obtain ⟨u, hu⟩ := frame_st t' hs1
  simp only at hd1 q0 q1 q2 q3 q8 q9 q10 q11 q12 q13 q14 q15 q16 q60
  subst hu hd1
  have e0 : u 0 = v0 := q0
  have e1 : u 1 = v1 := q1
  have e2 : u 2 = v2 := q2
  have e3 : u 3 = v3 := q3
  have e8 : u 8 = v8 := q8
  have e9 : u 9 = v9 := q9
  have e10 : u 10 = v10 := q10
  have e11 : u 11 = v11 := q11
  have e12 : u 12 = v12 := q12
  have e13 : u 13 = v13 := q13
  have e14 : u 14 = .int .i64 (k : Int) := q14
  have e15 : u 15 = v15 := q15
  have e16 : u 16 = v16 := q16
  have e60 : u 60 = v60 := q60
  rw [e0, e1, e2, e3, e8, e9, e10, e11, e12, e13, e14, e15, e16, e60]
  clear q0 e0 q1 e1 q2 e2 q3 e3 q8 e8 q9 e9 q10 e10 q11 e11 q12 e12 q13 e13 q14 e14 q15 e15 q16 e16 q60 e60 hs1
  simp only [Try.f6, Option.getD_some, regOf] at hc
  injection hc with hc
  subst hc
  have hc : ((k + 1 : Nat) : Int) = (k : Int) + 1 := by omega
  rw [hc] at HQ
  go_wp2
  exact HQ.out _ ⟨rfl, rfl, rfl, rfl, rfl, rfl, rfl, rfl, rfl, rfl, rfl, rfl, rfl, rfl, rfl, rfl⟩
set_option maxHeartbeats 8000000 in
set_option maxRecDepth 100000 in
theorem st_r28 {K : Act → World → Prop} {c : Code} (hc : regOf (Try.f6.body.getD .skip) 28 = some c) (a : Act) {v : Vst} {wq : World}  (hF : Fst a v) (h9v : v.v9 = .bool true) (hQ : ∀ a', Fst a' { v with v8 := .bool true } → K a' wq) :
    Code.wp Try.prog c (Exit.then K fun _ _ _ => False) a wq := by
  have HQ := hide hQ
  clear hQ
  obtain ⟨t', d'⟩ := a
  obtain ⟨v0, v1, v2, v3, v8, v9, v10, v11, v12, v13, v14, v15, v16, v60⟩ := v
  simp only at h9v HQ
  subst h9v
  obtain ⟨hs1, hd1, q0, q1, q2, q3, q8, q9, q10, q11, q12, q13, q14, q15, q16, q60⟩ := hF
  obtain ⟨u, hu⟩ := frame_st t' hs1
  simp only at hd1 q0 q1 q2 q3 q8 q9 q10 q11 q12 q13 q14 q15 q16 q60
  subst hu hd1
  have e0 : u 0 = v0 := q0
  have e1 : u 1 = v1 := q1
  have e2 : u 2 = v2 := q2
  have e3 : u 3 = v3 := q3
  have e8 : u 8 = v8 := q8
  have e9 : u 9 = .bool true := q9
  have e10 : u 10 = v10 := q10
  have e11 : u 11 = v11 := q11
  have e12 : u 12 = v12 := q12
  have e13 : u 13 = v13 := q13
  have e14 : u 14 = v14 := q14
  have e15 : u 15 = v15 := q15
  have e16 : u 16 = v16 := q16
  have e60 : u 60 = v60 := q60
  rw [e0, e1, e2, e3, e8, e9, e10, e11, e12, e13, e14, e15, e16, e60]
  clear q0 e0 q1 e1 q2 e2 q3 e3 q8 e8 q9 e9 q10 e10 q11 e11 q12 e12 q13 e13 q14 e14 q15 e15 q16 e16 q60 e60 hs1
  simp only [Try.f6, Option.getD_some, regOf] at hc
  injection hc with hc
  subst hc
  go_wp2
  exact HQ.out _ ⟨rfl, rfl, rfl, rfl, rfl, rfl, rfl, rfl, rfl, rfl, rfl, rfl, rfl, rfl, rfl, rfl⟩
theorem st_ret {W : World} {a : Act} {v : Vst} {x : Bool} {R : Ending → World → Prop} (hF : Fst a v) (h2 : v.v8 = .bool x) (h : R (.returned (.bool x)) W) : bodyPost Try.prog Try.f6 R .ret a W := by
  have g0 := slot_get (hF.s8.trans h2)
  refine bodyPost_ret (v := .bool x) ?_ hF.defers h
  simp [results, Try.results6, go_sem, g0]
end Go.Proofs.Ytjgbgbgajadgnaa
