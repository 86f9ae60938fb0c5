/-
  The last region of the laws' examples (mkj19.py).
-/
import Derived.Test.YtlfodldlkchmoaaGreatZJ18
namespace Go.Proofs.YtlfodldlkchmoaaGreat.Y
open Go.RowKit
set_option maxHeartbeats 8000000
set_option maxRecDepth 100000
attribute [local go_sem ↓] Go.wp_at_zero Go.wp_at_succ
set_option linter.unusedSimpArgs false
set_option linter.unusedVariables false
open Go.Maps
theorem frame_eq (t : Array Value) (h : t.size = 132) : ∃ u : Nat → Value, t = List.toArray (u 0 :: u 1 :: u 2 :: u 3 :: u 4 :: u 5 :: u 6 :: u 7 :: u 8 :: u 9 :: u 10 :: u 11 :: u 12 :: u 13 :: u 14 :: u 15 :: u 16 :: u 17 :: u 18 :: u 19 :: u 20 :: u 21 :: u 22 :: u 23 :: u 24 :: u 25 :: u 26 :: u 27 :: u 28 :: u 29 :: u 30 :: u 31 :: u 32 :: u 33 :: u 34 :: u 35 :: u 36 :: u 37 :: u 38 :: u 39 :: u 40 :: u 41 :: u 42 :: u 43 :: u 44 :: u 45 :: u 46 :: u 47 :: u 48 :: u 49 :: u 50 :: u 51 :: u 52 :: u 53 :: u 54 :: u 55 :: u 56 :: u 57 :: u 58 :: u 59 :: u 60 :: u 61 :: u 62 :: u 63 :: u 64 :: u 65 :: u 66 :: u 67 :: u 68 :: u 69 :: u 70 :: u 71 :: u 72 :: u 73 :: u 74 :: u 75 :: u 76 :: u 77 :: u 78 :: u 79 :: u 80 :: u 81 :: u 82 :: u 83 :: u 84 :: u 85 :: u 86 :: u 87 :: u 88 :: u 89 :: u 90 :: u 91 :: u 92 :: u 93 :: u 94 :: u 95 :: u 96 :: u 97 :: u 98 :: u 99 :: u 100 :: u 101 :: u 102 :: u 103 :: u 104 :: u 105 :: u 106 :: u 107 :: u 108 :: u 109 :: u 110 :: u 111 :: u 112 :: u 113 :: u 114 :: u 115 :: u 116 :: u 117 :: u 118 :: u 119 :: u 120 :: u 121 :: u 122 :: u 123 :: u 124 :: u 125 :: u 126 :: u 127 :: u 128 :: u 129 :: u 130 :: u 131 :: []) := by
  refine ⟨fun i => t.getD i undef, ?_⟩
  refine Eq.trans (b := ((List.range 132).map fun i => t.getD i undef).toArray) ?_ rfl
  apply Array.ext
  · simp [h]
  · intro k h1 h2
    simp [Array.getD, h1]
structure Veq where
  v0 : Value
  v1 : Value
  v2 : Value
  v4 : Value
  v5 : Value
  v6 : Value
  v7 : Value
  v8 : Value
  v9 : Value
  v10 : Value
  v11 : Value
  v12 : Value
  v13 : Value
structure Feq (a : Act) (v : Veq) : Prop where
  size : a.tmps.size = 132
  defers : a.defers = []
  s0 : a.tmps.getD 0 undef = v.v0
  s1 : a.tmps.getD 1 undef = v.v1
  s2 : a.tmps.getD 2 undef = v.v2
  s4 : a.tmps.getD 4 undef = v.v4
  s5 : a.tmps.getD 5 undef = v.v5
  s6 : a.tmps.getD 6 undef = v.v6
  s7 : a.tmps.getD 7 undef = v.v7
  s8 : a.tmps.getD 8 undef = v.v8
  s9 : a.tmps.getD 9 undef = v.v9
  s10 : a.tmps.getD 10 undef = v.v10
  s11 : a.tmps.getD 11 undef = v.v11
  s12 : a.tmps.getD 12 undef = v.v12
  s13 : a.tmps.getD 13 undef = v.v13
theorem frx_eq {a : Act} {v0 v1 v2 v4 v5 v6 v7 v8 v9 v10 v11 v12 v13 : Value} (h : Feq a ⟨v0, v1, v2, v4, v5, v6, v7, v8, v9, v10, v11, v12, v13⟩) : ∃ u : Nat → Value, a = ⟨List.toArray (v0 :: v1 :: v2 :: u 3 :: v4 :: v5 :: v6 :: v7 :: v8 :: v9 :: v10 :: v11 :: v12 :: v13 :: u 14 :: u 15 :: u 16 :: u 17 :: u 18 :: u 19 :: u 20 :: u 21 :: u 22 :: u 23 :: u 24 :: u 25 :: u 26 :: u 27 :: u 28 :: u 29 :: u 30 :: u 31 :: u 32 :: u 33 :: u 34 :: u 35 :: u 36 :: u 37 :: u 38 :: u 39 :: u 40 :: u 41 :: u 42 :: u 43 :: u 44 :: u 45 :: u 46 :: u 47 :: u 48 :: u 49 :: u 50 :: u 51 :: u 52 :: u 53 :: u 54 :: u 55 :: u 56 :: u 57 :: u 58 :: u 59 :: u 60 :: u 61 :: u 62 :: u 63 :: u 64 :: u 65 :: u 66 :: u 67 :: u 68 :: u 69 :: u 70 :: u 71 :: u 72 :: u 73 :: u 74 :: u 75 :: u 76 :: u 77 :: u 78 :: u 79 :: u 80 :: u 81 :: u 82 :: u 83 :: u 84 :: u 85 :: u 86 :: u 87 :: u 88 :: u 89 :: u 90 :: u 91 :: u 92 :: u 93 :: u 94 :: u 95 :: u 96 :: u 97 :: u 98 :: u 99 :: u 100 :: u 101 :: u 102 :: u 103 :: u 104 :: u 105 :: u 106 :: u 107 :: u 108 :: u 109 :: u 110 :: u 111 :: u 112 :: u 113 :: u 114 :: u 115 :: u 116 :: u 117 :: u 118 :: u 119 :: u 120 :: u 121 :: u 122 :: u 123 :: u 124 :: u 125 :: u 126 :: u 127 :: u 128 :: u 129 :: u 130 :: u 131 :: []), []⟩ := by
  obtain ⟨t', d'⟩ := a
  obtain ⟨hs, hd, q0, q1, q2, q4, q5, q6, q7, q8, q9, q10, q11, q12, q13⟩ := h
  obtain ⟨u, hu⟩ := frame_eq t' hs
  simp only at hd q0 q1 q2 q4 q5 q6 q7 q8 q9 q10 q11 q12 q13
  subst hu hd
  have e0 : u 0 = v0 := q0
  have e1 : u 1 = v1 := q1
  have e2 : u 2 = v2 := q2
  have e4 : u 4 = v4 := q4
  have e5 : u 5 = v5 := q5
  have e6 : u 6 = v6 := q6
  have e7 : u 7 = v7 := q7
  have e8 : u 8 = v8 := q8
  have e9 : u 9 = v9 := q9
  have e10 : u 10 = v10 := q10
  have e11 : u 11 = v11 := q11
  have e12 : u 12 = v12 := q12
  have e13 : u 13 = v13 := q13
  refine ⟨u, ?_⟩
  rw [e0, e1, e2, e4, e5, e6, e7, e8, e9, e10, e11, e12, e13]
theorem eq_r0 {K : Act → World → Prop} {c : Code} (hc : regOf (Tryz.f8.body.getD .skip) 0 = some c) (a : Act) {v : Veq} {wq : World}  (hF : Feq a v) (hQ : ∀ a', Feq a' { v with v0 := .bool false } → K a' wq) :
    Code.wp Tryz.prog c (Exit.then K fun _ _ _ => False) a wq := by
  have HQ := hide hQ
  clear hQ
  obtain ⟨v0, v1, v2, v4, v5, v6, v7, v8, v9, v10, v11, v12, v13⟩ := v
  obtain ⟨u, rfl⟩ := frx_eq hF
  clear hF
  simp only [Tryz.f8, Option.getD_some, regOf] at hc
  injection hc with hc
  subst hc
  go_wp2
  exact HQ.out _ ⟨rfl, rfl, rfl, rfl, rfl, rfl, rfl, rfl, rfl, rfl, rfl, rfl, rfl, rfl, rfl⟩
theorem eq_r1 {K : Act → World → Prop} {c : Code} (hc : regOf (Tryz.f8.body.getD .skip) 1 = some c) (a : Act) {v : Veq} {wq : World} {R : LM → World → Prop} (hF : Feq a v) (hE : Calls Tryz.prog 9 #[.int .i64 3] wq fun e w' => ∃ L : LM, e = .returned (.tuple #[.pointer (some ⟨LM.b L, 0, none⟩), .int .i64 0]) ∧ R L w')
    (hQ : ∀ a' w1 L, Feq a' { v with v1 := .pointer (some ⟨LM.b L, 0, none⟩), v2 := .int .i64 0 } → R L w1 → K a' w1) :
    Code.wp Tryz.prog c (Exit.then K fun _ _ _ => False) a wq := by
  have HQ := hide hQ
  clear hQ
  obtain ⟨v0, v1, v2, v4, v5, v6, v7, v8, v9, v10, v11, v12, v13⟩ := v
  obtain ⟨u, rfl⟩ := frx_eq hF
  clear hF
  simp only [Tryz.f8, Option.getD_some, regOf] at hc
  injection hc with hc
  subst hc
  have HE := hide hE
  clear hE
  go_wp2_with (go_at_call 9; refine HE.out.mono ?_; rintro e w1 ⟨L, rfl, r1⟩; have R1 := hide r1; clear r1)
  exact HQ.out _ _ L ⟨rfl, rfl, rfl, rfl, rfl, rfl, rfl, rfl, rfl, rfl, rfl, rfl, rfl, rfl, rfl⟩ R1.out
theorem eq_r2 {K : Act → World → Prop} {c : Code} (hc : regOf (Tryz.f8.body.getD .skip) 2 = some c) (a : Act) {v : Veq} {wq : World}  (hF : Feq a v) (hE : Calls Tryz.prog 9 #[.int .i64 8] wq fun e w' => e = .returned (.tuple #[.pointer none, .int .i64 1]) ∧ Below wq.heap.size wq w')
    (hQ : ∀ a' w1, Feq a' { v with v4 := .int .i64 1 } → Below wq.heap.size wq w1 → K a' w1) :
    Code.wp Tryz.prog c (Exit.then K fun _ _ _ => False) a wq := by
  have HQ := hide hQ
  clear hQ
  obtain ⟨v0, v1, v2, v4, v5, v6, v7, v8, v9, v10, v11, v12, v13⟩ := v
  obtain ⟨u, rfl⟩ := frx_eq hF
  clear hF
  simp only [Tryz.f8, Option.getD_some, regOf] at hc
  injection hc with hc
  subst hc
  have HE := hide hE
  clear hE
  go_wp2_with (go_at_call 9; refine HE.out.mono ?_; rintro e w1 ⟨rfl, b1⟩; have R1 := hide b1; clear b1)
  exact HQ.out _ _ ⟨rfl, rfl, rfl, rfl, rfl, rfl, rfl, rfl, rfl, rfl, rfl, rfl, rfl, rfl, rfl⟩ R1.out
theorem eq_r3 {K : Act → World → Prop} {c : Code} (hc : regOf (Tryz.f8.body.getD .skip) 3 = some c) (a : Act) {v : Veq} {wq : World} {mb : Nat} (hF : Feq a v) (h1v : v.v1 = .pointer (some ⟨mb, 0, none⟩)) (h2v : v.v2 = .int .i64 0) (h4v : v.v4 = .int .i64 1) (hQ : ∀ a', Feq a' v → a'.tmps.getD 31 undef = .bool false → K a' wq) :
    Code.wp Tryz.prog c (Exit.then K fun _ _ _ => False) a wq := by
  have HQ := hide hQ
  clear hQ
  obtain ⟨v0, v1, v2, v4, v5, v6, v7, v8, v9, v10, v11, v12, v13⟩ := v
  simp only at h1v h2v h4v HQ
  subst h1v h2v h4v
  obtain ⟨u, rfl⟩ := frx_eq hF
  clear hF
  simp only [Tryz.f8, Option.getD_some, regOf] at hc
  injection hc with hc
  subst hc
  go_wp2
  exact HQ.out _ ⟨rfl, rfl, rfl, rfl, rfl, rfl, rfl, rfl, rfl, rfl, rfl, rfl, rfl, rfl, rfl⟩ (by first | rfl | (simp; done))
theorem eq_r5 {K : Act → World → Prop} {c : Code} (hc : regOf (Tryz.f8.body.getD .skip) 5 = some c) (a : Act) {v : Veq} {wq : World} {mb : Nat} {R : Option Addr → Nat → World → Prop} (hF : Feq a v) (h1v : v.v1 = .pointer (some ⟨mb, 0, none⟩)) (hE : Calls Tryz.prog 19 #[.pointer (some ⟨mb, 0, none⟩), .agg #[.int .i64 1, .string ⟨#[97]⟩, .string ⟨#[]⟩, .int .i64 0, .string ⟨#[]⟩, .string ⟨#[]⟩, .int .i64 0, .int .i64 0, .int .i64 0]] wq fun e w' => ∃ ao cp, e = .returned (.agg #[.int .i64 0, .int .i64 0, .slice ao 0 cp]) ∧ R ao cp w')
    (hQ : ∀ a' w1 ao cp, Feq a' { v with v5 := .pointer (some ⟨w1.heap.size, 0, none⟩) } → R ao cp w1 → K a' (w1.alloc (.cells #[.int .i64 0, .int .i64 0, .slice ao 0 cp] 37))) :
    Code.wp Tryz.prog c (Exit.then K fun _ _ _ => False) a wq := by
  have HQ := hide hQ
  clear hQ
  obtain ⟨v0, v1, v2, v4, v5, v6, v7, v8, v9, v10, v11, v12, v13⟩ := v
  simp only at h1v HQ
  subst h1v
  obtain ⟨u, rfl⟩ := frx_eq hF
  clear hF
  simp only [Tryz.f8, Option.getD_some, regOf] at hc
  injection hc with hc
  subst hc
  have HE := hide hE
  clear hE
  go_wp2_with (go_at_call 19; refine HE.out.mono ?_; rintro e w1 ⟨ao, cp, rfl, r1⟩; have R1 := hide r1; clear r1)
  exact HQ.out _ _ _ _ ⟨rfl, rfl, rfl, rfl, rfl, rfl, rfl, rfl, rfl, rfl, rfl, rfl, rfl, rfl, rfl⟩ R1.out
theorem eq_r6 {K : Act → World → Prop} {c : Code} (hc : regOf (Tryz.f8.body.getD .skip) 6 = some c) (a : Act) {v : Veq} {wq : World} {mb : Nat} {R : Option Addr → Nat → World → Prop} (hF : Feq a v) (h1v : v.v1 = .pointer (some ⟨mb, 0, none⟩)) (hE : Calls Tryz.prog 19 #[.pointer (some ⟨mb, 0, none⟩), .agg #[.int .i64 1, .string ⟨#[97]⟩, .string ⟨#[]⟩, .int .i64 0, .string ⟨#[]⟩, .string ⟨#[]⟩, .int .i64 0, .int .i64 0, .int .i64 0]] wq fun e w' => ∃ ao cp, e = .returned (.agg #[.int .i64 4, .int .i64 0, .slice ao 0 cp]) ∧ R ao cp w')
    (hQ : ∀ a' w1 ao cp, Feq a' { v with v6 := .pointer (some ⟨w1.heap.size, 0, none⟩) } → R ao cp w1 → K a' (w1.alloc (.cells #[.int .i64 4, .int .i64 0, .slice ao 0 cp] 37))) :
    Code.wp Tryz.prog c (Exit.then K fun _ _ _ => False) a wq := by
  have HQ := hide hQ
  clear hQ
  obtain ⟨v0, v1, v2, v4, v5, v6, v7, v8, v9, v10, v11, v12, v13⟩ := v
  simp only at h1v HQ
  subst h1v
  obtain ⟨u, rfl⟩ := frx_eq hF
  clear hF
  simp only [Tryz.f8, Option.getD_some, regOf] at hc
  injection hc with hc
  subst hc
  have HE := hide hE
  clear hE
  go_wp2_with (go_at_call 19; refine HE.out.mono ?_; rintro e w1 ⟨ao, cp, rfl, r1⟩; have R1 := hide r1; clear r1)
  exact HQ.out _ _ _ _ ⟨rfl, rfl, rfl, rfl, rfl, rfl, rfl, rfl, rfl, rfl, rfl, rfl, rfl, rfl, rfl⟩ R1.out
theorem eq_r7 {K : Act → World → Prop} {c : Code} (hc : regOf (Tryz.f8.body.getD .skip) 7 = some c) (a : Act) {v : Veq} {wq : World} {mb : Nat} {R : Option Addr → Nat → World → Prop} (hF : Feq a v) (h1v : v.v1 = .pointer (some ⟨mb, 0, none⟩)) (hE : Calls Tryz.prog 19 #[.pointer (some ⟨mb, 0, none⟩), .agg #[.int .i64 2, .string ⟨#[97]⟩, .string ⟨#[112]⟩, .int .i64 1, .string ⟨#[]⟩, .string ⟨#[118]⟩, .int .i64 0, .int .i64 0, .int .i64 0]] wq fun e w' => ∃ ao cp, e = .returned (.agg #[.int .i64 0, .int .i64 0, .slice ao 0 cp]) ∧ R ao cp w')
    (hQ : ∀ a' w1 ao cp, Feq a' { v with v7 := .pointer (some ⟨w1.heap.size, 0, none⟩) } → R ao cp w1 → K a' (w1.alloc (.cells #[.int .i64 0, .int .i64 0, .slice ao 0 cp] 37))) :
    Code.wp Tryz.prog c (Exit.then K fun _ _ _ => False) a wq := by
  have HQ := hide hQ
  clear hQ
  obtain ⟨v0, v1, v2, v4, v5, v6, v7, v8, v9, v10, v11, v12, v13⟩ := v
  simp only at h1v HQ
  subst h1v
  obtain ⟨u, rfl⟩ := frx_eq hF
  clear hF
  simp only [Tryz.f8, Option.getD_some, regOf] at hc
  injection hc with hc
  subst hc
  have HE := hide hE
  clear hE
  go_wp2_with (go_at_call 19; refine HE.out.mono ?_; rintro e w1 ⟨ao, cp, rfl, r1⟩; have R1 := hide r1; clear r1)
  exact HQ.out _ _ _ _ ⟨rfl, rfl, rfl, rfl, rfl, rfl, rfl, rfl, rfl, rfl, rfl, rfl, rfl, rfl, rfl⟩ R1.out
theorem eq_r8 {K : Act → World → Prop} {c : Code} (hc : regOf (Tryz.f8.body.getD .skip) 8 = some c) (a : Act) {v : Veq} {wq : World} {mb : Nat} {R : Option Addr → Nat → World → Prop} (hF : Feq a v) (h1v : v.v1 = .pointer (some ⟨mb, 0, none⟩)) (hE : Calls Tryz.prog 19 #[.pointer (some ⟨mb, 0, none⟩), .agg #[.int .i64 3, .string ⟨#[97]⟩, .string ⟨#[115]⟩, .int .i64 0, .string ⟨#[]⟩, .string ⟨#[]⟩, .int .i64 0, .int .i64 0, .int .i64 0]] wq fun e w' => ∃ ao cp, e = .returned (.agg #[.int .i64 0, .int .i64 0, .slice ao 0 cp]) ∧ R ao cp w')
    (hQ : ∀ a' w1 ao cp, Feq a' { v with v8 := .pointer (some ⟨w1.heap.size, 0, none⟩) } → R ao cp w1 → K a' (w1.alloc (.cells #[.int .i64 0, .int .i64 0, .slice ao 0 cp] 37))) :
    Code.wp Tryz.prog c (Exit.then K fun _ _ _ => False) a wq := by
  have HQ := hide hQ
  clear hQ
  obtain ⟨v0, v1, v2, v4, v5, v6, v7, v8, v9, v10, v11, v12, v13⟩ := v
  simp only at h1v HQ
  subst h1v
  obtain ⟨u, rfl⟩ := frx_eq hF
  clear hF
  simp only [Tryz.f8, Option.getD_some, regOf] at hc
  injection hc with hc
  subst hc
  have HE := hide hE
  clear hE
  go_wp2_with (go_at_call 19; refine HE.out.mono ?_; rintro e w1 ⟨ao, cp, rfl, r1⟩; have R1 := hide r1; clear r1)
  exact HQ.out _ _ _ _ ⟨rfl, rfl, rfl, rfl, rfl, rfl, rfl, rfl, rfl, rfl, rfl, rfl, rfl, rfl, rfl⟩ R1.out
theorem eq_r9 {K : Act → World → Prop} {c : Code} (hc : regOf (Tryz.f8.body.getD .skip) 9 = some c) (a : Act) {v : Veq} {wq : World} {mb : Nat} {R : Option Addr → Nat → World → Prop} (hF : Feq a v) (h1v : v.v1 = .pointer (some ⟨mb, 0, none⟩)) (hE : Calls Tryz.prog 19 #[.pointer (some ⟨mb, 0, none⟩), .agg #[.int .i64 5, .string ⟨#[]⟩, .string ⟨#[115]⟩, .int .i64 0, .string ⟨#[]⟩, .string ⟨#[]⟩, .int .i64 5, .int .i64 0, .int .i64 0]] wq fun e w' => ∃ ao cp, e = .returned (.agg #[.int .i64 0, .int .i64 1, .slice ao 1 cp]) ∧ R ao cp w')
    (hQ : ∀ a' w1 ao cp, Feq a' { v with v9 := .pointer (some ⟨w1.heap.size, 0, none⟩) } → R ao cp w1 → K a' (w1.alloc (.cells #[.int .i64 0, .int .i64 1, .slice ao 1 cp] 37))) :
    Code.wp Tryz.prog c (Exit.then K fun _ _ _ => False) a wq := by
  have HQ := hide hQ
  clear hQ
  obtain ⟨v0, v1, v2, v4, v5, v6, v7, v8, v9, v10, v11, v12, v13⟩ := v
  simp only at h1v HQ
  subst h1v
  obtain ⟨u, rfl⟩ := frx_eq hF
  clear hF
  simp only [Tryz.f8, Option.getD_some, regOf] at hc
  injection hc with hc
  subst hc
  have HE := hide hE
  clear hE
  go_wp2_with (go_at_call 19; refine HE.out.mono ?_; rintro e w1 ⟨ao, cp, rfl, r1⟩; have R1 := hide r1; clear r1)
  exact HQ.out _ _ _ _ ⟨rfl, rfl, rfl, rfl, rfl, rfl, rfl, rfl, rfl, rfl, rfl, rfl, rfl, rfl, rfl⟩ R1.out
theorem eq_r10 {K : Act → World → Prop} {c : Code} (hc : regOf (Tryz.f8.body.getD .skip) 10 = some c) (a : Act) {v : Veq} {wq : World} {mb : Nat} {R : Option Addr → Nat → World → Prop} (hF : Feq a v) (h1v : v.v1 = .pointer (some ⟨mb, 0, none⟩)) (hE : Calls Tryz.prog 19 #[.pointer (some ⟨mb, 0, none⟩), .agg #[.int .i64 6, .string ⟨#[]⟩, .string ⟨#[115]⟩, .int .i64 0, .string ⟨#[]⟩, .string ⟨#[]⟩, .int .i64 0, .int .i64 0, .int .i64 0]] wq fun e w' => ∃ ao cp, e = .returned (.agg #[.int .i64 0, .int .i64 1, .slice ao 0 cp]) ∧ R ao cp w')
    (hQ : ∀ a' w1 ao cp, Feq a' { v with v10 := .pointer (some ⟨w1.heap.size, 0, none⟩) } → R ao cp w1 → K a' (w1.alloc (.cells #[.int .i64 0, .int .i64 1, .slice ao 0 cp] 37))) :
    Code.wp Tryz.prog c (Exit.then K fun _ _ _ => False) a wq := by
  have HQ := hide hQ
  clear hQ
  obtain ⟨v0, v1, v2, v4, v5, v6, v7, v8, v9, v10, v11, v12, v13⟩ := v
  simp only at h1v HQ
  subst h1v
  obtain ⟨u, rfl⟩ := frx_eq hF
  clear hF
  simp only [Tryz.f8, Option.getD_some, regOf] at hc
  injection hc with hc
  subst hc
  have HE := hide hE
  clear hE
  go_wp2_with (go_at_call 19; refine HE.out.mono ?_; rintro e w1 ⟨ao, cp, rfl, r1⟩; have R1 := hide r1; clear r1)
  exact HQ.out _ _ _ _ ⟨rfl, rfl, rfl, rfl, rfl, rfl, rfl, rfl, rfl, rfl, rfl, rfl, rfl, rfl, rfl⟩ R1.out
theorem eq_r11 {K : Act → World → Prop} {c : Code} (hc : regOf (Tryz.f8.body.getD .skip) 11 = some c) (a : Act) {v : Veq} {wq : World} {mb : Nat} {R : Option Addr → Nat → World → Prop} (hF : Feq a v) (h1v : v.v1 = .pointer (some ⟨mb, 0, none⟩)) (hE : Calls Tryz.prog 12 #[.pointer (some ⟨mb, 0, none⟩), .string ⟨#[103, 97, 114, 98, 97, 103, 101]⟩] wq fun e w' => ∃ ao cp, e = .returned (.agg #[.int .i64 1, .int .i64 0, .slice ao 0 cp]) ∧ R ao cp w')
    (hQ : ∀ a' w1 ao cp, Feq a' { v with v11 := .pointer (some ⟨w1.heap.size, 0, none⟩) } → R ao cp w1 → K a' (w1.alloc (.cells #[.int .i64 1, .int .i64 0, .slice ao 0 cp] 37))) :
    Code.wp Tryz.prog c (Exit.then K fun _ _ _ => False) a wq := by
  have HQ := hide hQ
  clear hQ
  obtain ⟨v0, v1, v2, v4, v5, v6, v7, v8, v9, v10, v11, v12, v13⟩ := v
  simp only at h1v HQ
  subst h1v
  obtain ⟨u, rfl⟩ := frx_eq hF
  clear hF
  simp only [Tryz.f8, Option.getD_some, regOf] at hc
  injection hc with hc
  subst hc
  have HE := hide hE
  clear hE
  go_wp2_with (go_at_call 12; refine HE.out.mono ?_; rintro e w1 ⟨ao, cp, rfl, r1⟩; have R1 := hide r1; clear r1)
  exact HQ.out _ _ _ _ ⟨rfl, rfl, rfl, rfl, rfl, rfl, rfl, rfl, rfl, rfl, rfl, rfl, rfl, rfl, rfl⟩ R1.out
theorem eq_r12 {K : Act → World → Prop} {c : Code} (hc : regOf (Tryz.f8.body.getD .skip) 12 = some c) (a : Act) {v : Veq} {wq : World} {mb xb : Nat} (hF : Feq a v) (h1v : v.v1 = .pointer (some ⟨mb, 0, none⟩)) (hE : Calls Tryz.prog 20 #[.pointer (some ⟨mb, 0, none⟩), .string ⟨#[97]⟩] wq fun e w' => e = .returned (.tuple #[.pointer (some ⟨xb, 0, none⟩), .bool true]) ∧ w' = wq)
    (hQ : ∀ a', Feq a' { v with v12 := .pointer (some ⟨xb, 0, none⟩), v13 := .bool true } → K a' wq) :
    Code.wp Tryz.prog c (Exit.then K fun _ _ _ => False) a wq := by
  have HQ := hide hQ
  clear hQ
  obtain ⟨v0, v1, v2, v4, v5, v6, v7, v8, v9, v10, v11, v12, v13⟩ := v
  simp only at h1v HQ
  subst h1v
  obtain ⟨u, rfl⟩ := frx_eq hF
  clear hF
  simp only [Tryz.f8, Option.getD_some, regOf] at hc
  injection hc with hc
  subst hc
  have HE := hide hE
  clear hE
  go_wp2_with (go_at_call 20; refine HE.out.mono ?_; rintro e w1 ⟨rfl, rfl⟩)
  exact HQ.out _ ⟨rfl, rfl, rfl, rfl, rfl, rfl, rfl, rfl, rfl, rfl, rfl, rfl, rfl, rfl, rfl⟩
theorem eq_ret {W : World} {a : Act} {v : Veq} {x : Value} {R : Ending → World → Prop} (hF : Feq a v) (h2 : v.v0 = x) (h : R (.returned x) W) : bodyPost Tryz.prog Tryz.f8 R .ret a W := by
  have g0 := slot_get (hF.s0.trans h2)
  refine bodyPost_ret (v := x) ?_ hF.defers h
  simp [results, Tryz.results8, go_sem, g0]
end Go.Proofs.YtlfodldlkchmoaaGreat.Y
namespace Go.Proofs.YtlfodldlkchmoaaGreat.Y
open Go.RowKit
set_option maxHeartbeats 8000000
set_option maxRecDepth 100000
attribute [local go_sem ↓] Go.wp_at_zero Go.wp_at_succ
set_option linter.unusedSimpArgs false
set_option linter.unusedVariables false
open Go.Maps
theorem eq_r13 {K : Act → World → Prop} {c : Code} (hc : regOf (Tryz.f8.body.getD .skip) 13 = some c) (a : Act) {v : Veq} {wq : World} {mb xb b5 b6 b7 b8 b9 b10 b11 gq : Nat} {oq : Nat} {ao0 ao1 ao2 ao3 ao4 ao5 ao6 : Option Addr} {cp0 cp1 cp2 cp3 cp4 cp5 cp6 : Nat} (hF : Feq a v) (h1v : v.v1 = .pointer (some ⟨mb, 0, none⟩)) (h12v : v.v12 = .pointer (some ⟨xb, 0, none⟩)) (h13v : v.v13 = .bool true) (h5v : v.v5 = .pointer (some ⟨b5, 0, none⟩)) (h6v : v.v6 = .pointer (some ⟨b6, 0, none⟩)) (h7v : v.v7 = .pointer (some ⟨b7, 0, none⟩)) (h8v : v.v8 = .pointer (some ⟨b8, 0, none⟩)) (h9v : v.v9 = .pointer (some ⟨b9, 0, none⟩)) (h10v : v.v10 = .pointer (some ⟨b10, 0, none⟩)) (h11v : v.v11 = .pointer (some ⟨b11, 0, none⟩)) (x0 : wq.heap[b5]? = some (.cells #[.int .i64 0, .int .i64 0, .slice ao0 0 cp0] 37 (0, 0))) (x1 : wq.heap[b6]? = some (.cells #[.int .i64 4, .int .i64 0, .slice ao1 0 cp1] 37 (0, 0))) (x2 : wq.heap[b7]? = some (.cells #[.int .i64 0, .int .i64 0, .slice ao2 0 cp2] 37 (0, 0))) (x3 : wq.heap[b8]? = some (.cells #[.int .i64 0, .int .i64 0, .slice ao3 0 cp3] 37 (0, 0))) (x4 : wq.heap[b9]? = some (.cells #[.int .i64 0, .int .i64 1, .slice ao4 1 cp4] 37 (0, 0))) (x5 : wq.heap[b10]? = some (.cells #[.int .i64 0, .int .i64 1, .slice ao5 0 cp5] 37 (0, 0))) (x6 : wq.heap[b11]? = some (.cells #[.int .i64 1, .int .i64 0, .slice ao6 0 cp6] 37 (0, 0))) (hao : ao4 = some ⟨gq, oq, none⟩) (hv : wq.cell? ⟨gq, oq + 4, none⟩ = some (.string ⟨#[118]⟩)) (hC : Calls Tryz.prog 17 #[.pointer (some ⟨mb, 0, none⟩)] wq fun e w' => e = .returned (.int .i64 7) ∧ w' = wq) (hE : Calls Tryz.prog 23 #[.pointer (some ⟨xb, 0, none⟩)] wq fun e w' => e = .returned (.int .i64 1) ∧ w' = wq) (hW : Calls Tryz.prog 22 #[.pointer (some ⟨mb, 0, none⟩)] wq fun e w' => ∃ ao cp, e = .returned (.slice ao 3 cp) ∧ Below wq.heap.size wq w')
    (hQ : ∀ a' w1, Feq a' { v with v0 := .bool true } → Below wq.heap.size wq w1 → K a' w1) :
    Code.wp Tryz.prog c (Exit.then K fun _ _ _ => False) a wq := by
  have HQ := hide hQ
  clear hQ
  obtain ⟨v0, v1, v2, v4, v5, v6, v7, v8, v9, v10, v11, v12, v13⟩ := v
  simp only at h1v h12v h13v h5v h6v h7v h8v h9v h10v h11v HQ
  subst h1v h12v h13v h5v h6v h7v h8v h9v h10v h11v
  obtain ⟨u, rfl⟩ := frx_eq hF
  clear hF
  simp only [Tryz.f8, Option.getD_some, regOf] at hc
  injection hc with hc
  subst hc
  subst hao
  have HC := hide hC
  have HE := hide hE
  have HW := hide hW
  clear hC hE hW
  have x0a := box_cell x0 0 rfl
  have x0b := box_cell x0 1 rfl
  have x0c := box_cell x0 2 rfl
  clear x0
  have x1a := box_cell x1 0 rfl
  have x1b := box_cell x1 1 rfl
  have x1c := box_cell x1 2 rfl
  clear x1
  have x2a := box_cell x2 0 rfl
  have x2b := box_cell x2 1 rfl
  have x2c := box_cell x2 2 rfl
  clear x2
  have x3a := box_cell x3 0 rfl
  have x3b := box_cell x3 1 rfl
  have x3c := box_cell x3 2 rfl
  clear x3
  have x4a := box_cell x4 0 rfl
  have x4b := box_cell x4 1 rfl
  have x4c := box_cell x4 2 rfl
  clear x4
  have x5a := box_cell x5 0 rfl
  have x5b := box_cell x5 1 rfl
  have x5c := box_cell x5 2 rfl
  clear x5
  have x6a := box_cell x6 0 rfl
  have x6b := box_cell x6 1 rfl
  have x6c := box_cell x6 2 rfl
  clear x6
  go_wp2_with (first | (go_at_call 17; refine HC.out.mono ?_; rintro e w1 ⟨rfl, rfl⟩) | (go_at_call 23; refine HE.out.mono ?_; rintro e w1 ⟨rfl, rfl⟩) | (go_at_call 22; refine HW.out.mono ?_; rintro e w1 ⟨ao, cp, rfl, b1⟩; have B1 := hide b1; clear b1))
  exact HQ.out _ _ ⟨rfl, rfl, rfl, rfl, rfl, rfl, rfl, rfl, rfl, rfl, rfl, rfl, rfl, rfl, rfl⟩ B1.out
end Go.Proofs.YtlfodldlkchmoaaGreat.Y
