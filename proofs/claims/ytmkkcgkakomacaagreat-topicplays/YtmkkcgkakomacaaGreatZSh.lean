/-
  The contracts of maps, slices and their sort that this seat uses, each one application of a library theorem at this dump; no condition of our own.
-/
import Derived.Test.YtmkkcgkakomacaaGreatZT7
import Derived.Test.YtmkkcgkakomacaaGreatZTK
import Derived.Shelf.SlIter.Nil
import Derived.Shelf.SortM.Plain
import Derived.Shelf.SortM.SortNone
import Derived.Test.YtmkkcgkakomacaaGreatProg
namespace Go.Proofs.YtmkkcgkakomacaaGreat.Y
open Go.RowKit
set_option maxHeartbeats 8000000
set_option maxRecDepth 100000
attribute [local go_sem ↓] Go.wp_at_zero Go.wp_at_succ
set_option linter.unusedSimpArgs false
set_option linter.unusedVariables false
theorem frame_ex (t : Array Value) (h : t.size = 118) : ∃ u : Nat → Value, t = List.toArray (u 0 :: u 1 :: u 2 :: u 3 :: u 4 :: u 5 :: u 6 :: u 7 :: u 8 :: u 9 :: u 10 :: u 11 :: u 12 :: u 13 :: u 14 :: u 15 :: u 16 :: u 17 :: u 18 :: u 19 :: u 20 :: u 21 :: u 22 :: u 23 :: u 24 :: u 25 :: u 26 :: u 27 :: u 28 :: u 29 :: u 30 :: u 31 :: u 32 :: u 33 :: u 34 :: u 35 :: u 36 :: u 37 :: u 38 :: u 39 :: u 40 :: u 41 :: u 42 :: u 43 :: u 44 :: u 45 :: u 46 :: u 47 :: u 48 :: u 49 :: u 50 :: u 51 :: u 52 :: u 53 :: u 54 :: u 55 :: u 56 :: u 57 :: u 58 :: u 59 :: u 60 :: u 61 :: u 62 :: u 63 :: u 64 :: u 65 :: u 66 :: u 67 :: u 68 :: u 69 :: u 70 :: u 71 :: u 72 :: u 73 :: u 74 :: u 75 :: u 76 :: u 77 :: u 78 :: u 79 :: u 80 :: u 81 :: u 82 :: u 83 :: u 84 :: u 85 :: u 86 :: u 87 :: u 88 :: u 89 :: u 90 :: u 91 :: u 92 :: u 93 :: u 94 :: u 95 :: u 96 :: u 97 :: u 98 :: u 99 :: u 100 :: u 101 :: u 102 :: u 103 :: u 104 :: u 105 :: u 106 :: u 107 :: u 108 :: u 109 :: u 110 :: u 111 :: u 112 :: u 113 :: u 114 :: u 115 :: u 116 :: u 117 :: []) := by
  refine ⟨fun i => t.getD i undef, ?_⟩
  refine Eq.trans (b := ((List.range 118).map fun i => t.getD i undef).toArray) ?_ rfl
  apply Array.ext
  · simp [h]
  · intro k h1 h2
    simp [Array.getD, h1]
structure Vex where
  v0 : Value
  v1 : Value
  v2 : Value
  v4 : Value
  v5 : Value
  v6 : Value
  v7 : Value
  v8 : Value
  v10 : Value
  v11 : Value
  v12 : Value
  v13 : Value
  v14 : Value
  v15 : Value
structure Fex (a : Act) (v : Vex) : Prop where
  size : a.tmps.size = 118
  defers : a.defers = []
  s0 : a.tmps.getD 0 undef = v.v0
  s1 : a.tmps.getD 1 undef = v.v1
  s2 : a.tmps.getD 2 undef = v.v2
  s4 : a.tmps.getD 4 undef = v.v4
  s5 : a.tmps.getD 5 undef = v.v5
  s6 : a.tmps.getD 6 undef = v.v6
  s7 : a.tmps.getD 7 undef = v.v7
  s8 : a.tmps.getD 8 undef = v.v8
  s10 : a.tmps.getD 10 undef = v.v10
  s11 : a.tmps.getD 11 undef = v.v11
  s12 : a.tmps.getD 12 undef = v.v12
  s13 : a.tmps.getD 13 undef = v.v13
  s14 : a.tmps.getD 14 undef = v.v14
  s15 : a.tmps.getD 15 undef = v.v15
theorem frx_ex {a : Act} {v0 v1 v2 v4 v5 v6 v7 v8 v10 v11 v12 v13 v14 v15 : Value} (h : Fex a ⟨v0, v1, v2, v4, v5, v6, v7, v8, v10, v11, v12, v13, v14, v15⟩) : ∃ u : Nat → Value, a = ⟨List.toArray (v0 :: v1 :: v2 :: u 3 :: v4 :: v5 :: v6 :: v7 :: v8 :: u 9 :: v10 :: v11 :: v12 :: v13 :: v14 :: v15 :: u 16 :: u 17 :: u 18 :: u 19 :: u 20 :: u 21 :: u 22 :: u 23 :: u 24 :: u 25 :: u 26 :: u 27 :: u 28 :: u 29 :: u 30 :: u 31 :: u 32 :: u 33 :: u 34 :: u 35 :: u 36 :: u 37 :: u 38 :: u 39 :: u 40 :: u 41 :: u 42 :: u 43 :: u 44 :: u 45 :: u 46 :: u 47 :: u 48 :: u 49 :: u 50 :: u 51 :: u 52 :: u 53 :: u 54 :: u 55 :: u 56 :: u 57 :: u 58 :: u 59 :: u 60 :: u 61 :: u 62 :: u 63 :: u 64 :: u 65 :: u 66 :: u 67 :: u 68 :: u 69 :: u 70 :: u 71 :: u 72 :: u 73 :: u 74 :: u 75 :: u 76 :: u 77 :: u 78 :: u 79 :: u 80 :: u 81 :: u 82 :: u 83 :: u 84 :: u 85 :: u 86 :: u 87 :: u 88 :: u 89 :: u 90 :: u 91 :: u 92 :: u 93 :: u 94 :: u 95 :: u 96 :: u 97 :: u 98 :: u 99 :: u 100 :: u 101 :: u 102 :: u 103 :: u 104 :: u 105 :: u 106 :: u 107 :: u 108 :: u 109 :: u 110 :: u 111 :: u 112 :: u 113 :: u 114 :: u 115 :: u 116 :: u 117 :: []), []⟩ := by
  obtain ⟨t', d'⟩ := a
  obtain ⟨hs, hd, q0, q1, q2, q4, q5, q6, q7, q8, q10, q11, q12, q13, q14, q15⟩ := h
  obtain ⟨u, hu⟩ := frame_ex t' hs
  simp only at hd q0 q1 q2 q4 q5 q6 q7 q8 q10 q11 q12 q13 q14 q15
  subst hu hd
  have e0 : u 0 = v0 := q0
  have e1 : u 1 = v1 := q1
  have e2 : u 2 = v2 := q2
  have e4 : u 4 = v4 := q4
  have e5 : u 5 = v5 := q5
  have e6 : u 6 = v6 := q6
  have e7 : u 7 = v7 := q7
  have e8 : u 8 = v8 := q8
  have e10 : u 10 = v10 := q10
  have e11 : u 11 = v11 := q11
  have e12 : u 12 = v12 := q12
  have e13 : u 13 = v13 := q13
  have e14 : u 14 = v14 := q14
  have e15 : u 15 = v15 := q15
  refine ⟨u, ?_⟩
  rw [e0, e1, e2, e4, e5, e6, e7, e8, e10, e11, e12, e13, e14, e15]
theorem ex_r0 {K : Act → World → Prop} {c : Code} (hc : regOf (Tryz.f6.body.getD .skip) 0 = some c) (a : Act) {v : Vex} {wq : World}  (hF : Fex a v) (hQ : ∀ a', Fex a' { v with v0 := .bool false } → K a' wq) :
    Code.wp Tryz.prog c (Exit.then K fun _ _ _ => False) a wq := by
  have HQ := hide hQ
  clear hQ
  obtain ⟨v0, v1, v2, v4, v5, v6, v7, v8, v10, v11, v12, v13, v14, v15⟩ := v
  obtain ⟨u, rfl⟩ := frx_ex hF
  clear hF
  simp only [Tryz.f6, Option.getD_some, regOf] at hc
  injection hc with hc
  subst hc
  go_wp2
  exact HQ.out _ ⟨rfl, rfl, rfl, rfl, rfl, rfl, rfl, rfl, rfl, rfl, rfl, rfl, rfl, rfl, rfl, rfl⟩
theorem ex_r1 {K : Act → World → Prop} {c : Code} (hc : regOf (Tryz.f6.body.getD .skip) 1 = some c) (a : Act) {v : Vex} {wq : World} {R : LOC → World → Prop} (hF : Fex a v) (hE : Calls Tryz.prog 7 #[.string ⟨#[116]⟩] wq fun e w' => ∃ L : LOC, e = .returned (.tuple #[.pointer (some ⟨L.b, 0, none⟩), .int .i64 0]) ∧ R L w')
    (hQ : ∀ a' w' (L : LOC), Fex a' { v with v1 := .pointer (some ⟨L.b, 0, none⟩), v2 := .int .i64 0 } → R L w' → K a' w') :
    Code.wp Tryz.prog c (Exit.then K fun _ _ _ => False) a wq := by
  have HQ := hide hQ
  clear hQ
  obtain ⟨v0, v1, v2, v4, v5, v6, v7, v8, v10, v11, v12, v13, v14, v15⟩ := v
  obtain ⟨u, rfl⟩ := frx_ex hF
  clear hF
  simp only [Tryz.f6, Option.getD_some, regOf] at hc
  injection hc with hc
  subst hc
  have HE := hide hE
  clear hE
  go_wp2_with fail
  refine HE.out.mono ?_
  rintro e w1 ⟨L, rfl, r1⟩
  have R1 := hide r1
  clear r1 HE
  go_wp2
  exact HQ.out _ _ L ⟨rfl, rfl, rfl, rfl, rfl, rfl, rfl, rfl, rfl, rfl, rfl, rfl, rfl, rfl, rfl, rfl⟩ R1.out
theorem ex_r2 {K : Act → World → Prop} {c : Code} (hc : regOf (Tryz.f6.body.getD .skip) 2 = some c) (a : Act) {v : Vex} {wq : World} {R : World → Prop} (hF : Fex a v) (hE : Calls Tryz.prog 7 #[.string ⟨#[84]⟩] wq fun e w' => e = .returned (.tuple #[.pointer none, .int .i64 5]) ∧ R w')
    (hQ : ∀ a' w' , Fex a' { v with v4 := .int .i64 5 } → R w' → K a' w') :
    Code.wp Tryz.prog c (Exit.then K fun _ _ _ => False) a wq := by
  have HQ := hide hQ
  clear hQ
  obtain ⟨v0, v1, v2, v4, v5, v6, v7, v8, v10, v11, v12, v13, v14, v15⟩ := v
  obtain ⟨u, rfl⟩ := frx_ex hF
  clear hF
  simp only [Tryz.f6, Option.getD_some, regOf] at hc
  injection hc with hc
  subst hc
  have HE := hide hE
  clear hE
  go_wp2_with fail
  refine HE.out.mono ?_
  rintro e w1 ⟨rfl, r1⟩
  have R1 := hide r1
  clear r1 HE
  go_wp2
  exact HQ.out _ _ ⟨rfl, rfl, rfl, rfl, rfl, rfl, rfl, rfl, rfl, rfl, rfl, rfl, rfl, rfl, rfl, rfl⟩ R1.out
theorem ex_r3 {K : Act → World → Prop} {c : Code} (hc : regOf (Tryz.f6.body.getD .skip) 3 = some c) (a : Act) {v : Vex} {wq : World} {tb : Nat} (hF : Fex a v) (h1v : v.v1 = .pointer (some ⟨tb, 0, none⟩)) (h2v : v.v2 = .int .i64 0) (h4v : v.v4 = .int .i64 5) (hQ : ∀ a', Fex a' v → a'.tmps.getD 33 undef = .bool false → K a' wq) :
    Code.wp Tryz.prog c (Exit.then K fun _ _ _ => False) a wq := by
  have HQ := hide hQ
  clear hQ
  obtain ⟨v0, v1, v2, v4, v5, v6, v7, v8, v10, v11, v12, v13, v14, v15⟩ := v
  simp only at h1v h2v h4v HQ
  subst h1v h2v h4v
  obtain ⟨u, rfl⟩ := frx_ex hF
  clear hF
  simp only [Tryz.f6, Option.getD_some, regOf] at hc
  injection hc with hc
  subst hc
  go_wp2
  exact HQ.out _ ⟨rfl, rfl, rfl, rfl, rfl, rfl, rfl, rfl, rfl, rfl, rfl, rfl, rfl, rfl, rfl, rfl⟩ (by first | rfl | (simp; done))
theorem ex_r5 {K : Act → World → Prop} {c : Code} (hc : regOf (Tryz.f6.body.getD .skip) 5 = some c) (a : Act) {v : Vex} {wq : World} {tb : Nat} {x y : Int} {R : World → Prop} (hF : Fex a v) (h1v : v.v1 = .pointer (some ⟨tb, 0, none⟩)) (hE : Calls Tryz.prog 10 #[.pointer (some ⟨tb, 0, none⟩), .string ⟨#[112]⟩, .int .i64 1, .string ⟨#[107]⟩, .string ⟨#[118]⟩] wq fun e w' => e = .returned (.tuple #[.int .i64 x, .int .i64 y]) ∧ R w')
    (hQ : ∀ a' w' , Fex a' { v with v5 := .int .i64 x, v6 := .int .i64 y } → R w' → K a' w') :
    Code.wp Tryz.prog c (Exit.then K fun _ _ _ => False) a wq := by
  have HQ := hide hQ
  clear hQ
  obtain ⟨v0, v1, v2, v4, v5, v6, v7, v8, v10, v11, v12, v13, v14, v15⟩ := v
  simp only at h1v HQ
  subst h1v
  obtain ⟨u, rfl⟩ := frx_ex hF
  clear hF
  simp only [Tryz.f6, Option.getD_some, regOf] at hc
  injection hc with hc
  subst hc
  have HE := hide hE
  clear hE
  go_wp2_with fail
  refine HE.out.mono ?_
  rintro e w1 ⟨rfl, r1⟩
  have R1 := hide r1
  clear r1 HE
  go_wp2
  exact HQ.out _ _ ⟨rfl, rfl, rfl, rfl, rfl, rfl, rfl, rfl, rfl, rfl, rfl, rfl, rfl, rfl, rfl, rfl⟩ R1.out
theorem ex_r6 {K : Act → World → Prop} {c : Code} (hc : regOf (Tryz.f6.body.getD .skip) 6 = some c) (a : Act) {v : Vex} {wq : World} {tb : Nat} {x y : Int} {R : World → Prop} (hF : Fex a v) (h1v : v.v1 = .pointer (some ⟨tb, 0, none⟩)) (hE : Calls Tryz.prog 10 #[.pointer (some ⟨tb, 0, none⟩), .string ⟨#[112]⟩, .int .i64 1, .string ⟨#[107]⟩, .string ⟨#[119]⟩] wq fun e w' => e = .returned (.tuple #[.int .i64 x, .int .i64 y]) ∧ R w')
    (hQ : ∀ a' w' , Fex a' { v with v7 := .int .i64 x, v8 := .int .i64 y } → R w' → K a' w') :
    Code.wp Tryz.prog c (Exit.then K fun _ _ _ => False) a wq := by
  have HQ := hide hQ
  clear hQ
  obtain ⟨v0, v1, v2, v4, v5, v6, v7, v8, v10, v11, v12, v13, v14, v15⟩ := v
  simp only at h1v HQ
  subst h1v
  obtain ⟨u, rfl⟩ := frx_ex hF
  clear hF
  simp only [Tryz.f6, Option.getD_some, regOf] at hc
  injection hc with hc
  subst hc
  have HE := hide hE
  clear hE
  go_wp2_with fail
  refine HE.out.mono ?_
  rintro e w1 ⟨rfl, r1⟩
  have R1 := hide r1
  clear r1 HE
  go_wp2
  exact HQ.out _ _ ⟨rfl, rfl, rfl, rfl, rfl, rfl, rfl, rfl, rfl, rfl, rfl, rfl, rfl, rfl, rfl, rfl⟩ R1.out
theorem ex_r7 {K : Act → World → Prop} {c : Code} (hc : regOf (Tryz.f6.body.getD .skip) 7 = some c) (a : Act) {v : Vex} {wq : World} {tb : Nat} {x y : Int} {R : World → Prop} (hF : Fex a v) (h1v : v.v1 = .pointer (some ⟨tb, 0, none⟩)) (hE : Calls Tryz.prog 10 #[.pointer (some ⟨tb, 0, none⟩), .string ⟨#[112]⟩, .int .i64 0, .string ⟨#[107]⟩, .string ⟨#[119]⟩] wq fun e w' => e = .returned (.tuple #[.int .i64 x, .int .i64 y]) ∧ R w')
    (hQ : ∀ a' w' , Fex a' { v with v10 := .int .i64 y } → R w' → K a' w') :
    Code.wp Tryz.prog c (Exit.then K fun _ _ _ => False) a wq := by
  have HQ := hide hQ
  clear hQ
  obtain ⟨v0, v1, v2, v4, v5, v6, v7, v8, v10, v11, v12, v13, v14, v15⟩ := v
  simp only at h1v HQ
  subst h1v
  obtain ⟨u, rfl⟩ := frx_ex hF
  clear hF
  simp only [Tryz.f6, Option.getD_some, regOf] at hc
  injection hc with hc
  subst hc
  have HE := hide hE
  clear hE
  go_wp2_with fail
  refine HE.out.mono ?_
  rintro e w1 ⟨rfl, r1⟩
  have R1 := hide r1
  clear r1 HE
  go_wp2
  exact HQ.out _ _ ⟨rfl, rfl, rfl, rfl, rfl, rfl, rfl, rfl, rfl, rfl, rfl, rfl, rfl, rfl, rfl, rfl⟩ R1.out
theorem ex_r8 {K : Act → World → Prop} {c : Code} (hc : regOf (Tryz.f6.body.getD .skip) 8 = some c) (a : Act) {v : Vex} {wq : World} {tb : Nat} {x y : Int} {R : World → Prop} (hF : Fex a v) (h1v : v.v1 = .pointer (some ⟨tb, 0, none⟩)) (hE : Calls Tryz.prog 10 #[.pointer (some ⟨tb, 0, none⟩), .string ⟨#[112]⟩, .int .i64 5, .string ⟨#[107]⟩, .string ⟨#[120]⟩] wq fun e w' => e = .returned (.tuple #[.int .i64 x, .int .i64 y]) ∧ R w')
    (hQ : ∀ a' w' , Fex a' { v with v11 := .int .i64 x, v12 := .int .i64 y } → R w' → K a' w') :
    Code.wp Tryz.prog c (Exit.then K fun _ _ _ => False) a wq := by
  have HQ := hide hQ
  clear hQ
  obtain ⟨v0, v1, v2, v4, v5, v6, v7, v8, v10, v11, v12, v13, v14, v15⟩ := v
  simp only at h1v HQ
  subst h1v
  obtain ⟨u, rfl⟩ := frx_ex hF
  clear hF
  simp only [Tryz.f6, Option.getD_some, regOf] at hc
  injection hc with hc
  subst hc
  have HE := hide hE
  clear hE
  go_wp2_with fail
  refine HE.out.mono ?_
  rintro e w1 ⟨rfl, r1⟩
  have R1 := hide r1
  clear r1 HE
  go_wp2
  exact HQ.out _ _ ⟨rfl, rfl, rfl, rfl, rfl, rfl, rfl, rfl, rfl, rfl, rfl, rfl, rfl, rfl, rfl, rfl⟩ R1.out
theorem ex_r9 {K : Act → World → Prop} {c : Code} (hc : regOf (Tryz.f6.body.getD .skip) 9 = some c) (a : Act) {v : Vex} {wq : World} {tb : Nat} {R : World → Prop} (hF : Fex a v) (h1v : v.v1 = .pointer (some ⟨tb, 0, none⟩)) (hE : Calls Tryz.prog 17 #[.pointer (some ⟨tb, 0, none⟩), .int .i64 9] wq fun e w' => e = .returned (.int .i64 0) ∧ R w')
    (hQ : ∀ a' w' , Fex a' v → R w' → K a' w') :
    Code.wp Tryz.prog c (Exit.then K fun _ _ _ => False) a wq := by
  have HQ := hide hQ
  clear hQ
  obtain ⟨v0, v1, v2, v4, v5, v6, v7, v8, v10, v11, v12, v13, v14, v15⟩ := v
  simp only at h1v HQ
  subst h1v
  obtain ⟨u, rfl⟩ := frx_ex hF
  clear hF
  simp only [Tryz.f6, Option.getD_some, regOf] at hc
  injection hc with hc
  subst hc
  have HE := hide hE
  clear hE
  go_wp2_with fail
  refine HE.out.mono ?_
  rintro e w1 ⟨rfl, r1⟩
  have R1 := hide r1
  clear r1 HE
  go_wp2
  exact HQ.out _ _ ⟨rfl, rfl, rfl, rfl, rfl, rfl, rfl, rfl, rfl, rfl, rfl, rfl, rfl, rfl, rfl, rfl⟩ R1.out
theorem ex_r10 {K : Act → World → Prop} {c : Code} (hc : regOf (Tryz.f6.body.getD .skip) 10 = some c) (a : Act) {v : Vex} {wq : World} {tb n : Nat} {R : Option Addr → Nat → World → Prop} (hF : Fex a v) (h1v : v.v1 = .pointer (some ⟨tb, 0, none⟩)) (hE : Calls Tryz.prog 12 #[.pointer (some ⟨tb, 0, none⟩), .int .i64 0, .int .i64 9] wq fun e w' => ∃ ao cp, e = .returned (.slice ao n cp) ∧ R ao cp w')
    (hQ : ∀ a' w' ao cp, Fex a' { v with v13 := .slice ao n cp } → R ao cp w' → K a' w') :
    Code.wp Tryz.prog c (Exit.then K fun _ _ _ => False) a wq := by
  have HQ := hide hQ
  clear hQ
  obtain ⟨v0, v1, v2, v4, v5, v6, v7, v8, v10, v11, v12, v13, v14, v15⟩ := v
  simp only at h1v HQ
  subst h1v
  obtain ⟨u, rfl⟩ := frx_ex hF
  clear hF
  simp only [Tryz.f6, Option.getD_some, regOf] at hc
  injection hc with hc
  subst hc
  have HE := hide hE
  clear hE
  go_wp2_with fail
  refine HE.out.mono ?_
  rintro e w1 ⟨ao, cp, rfl, r1⟩
  have R1 := hide r1
  clear r1 HE
  go_wp2
  exact HQ.out _ _ ao cp ⟨rfl, rfl, rfl, rfl, rfl, rfl, rfl, rfl, rfl, rfl, rfl, rfl, rfl, rfl, rfl, rfl⟩ R1.out
theorem ex_r11 {K : Act → World → Prop} {c : Code} (hc : regOf (Tryz.f6.body.getD .skip) 11 = some c) (a : Act) {v : Vex} {wq : World} {tb : Nat} {x : Int} {R : World → Prop} (hF : Fex a v) (h1v : v.v1 = .pointer (some ⟨tb, 0, none⟩)) (hE : Calls Tryz.prog 15 #[.pointer (some ⟨tb, 0, none⟩), .int .i64 3] wq fun e w' => e = .returned (.int .i64 x) ∧ R w')
    (hQ : ∀ a' w' , Fex a' { v with v14 := .int .i64 x } → R w' → K a' w') :
    Code.wp Tryz.prog c (Exit.then K fun _ _ _ => False) a wq := by
  have HQ := hide hQ
  clear hQ
  obtain ⟨v0, v1, v2, v4, v5, v6, v7, v8, v10, v11, v12, v13, v14, v15⟩ := v
  simp only at h1v HQ
  subst h1v
  obtain ⟨u, rfl⟩ := frx_ex hF
  clear hF
  simp only [Tryz.f6, Option.getD_some, regOf] at hc
  injection hc with hc
  subst hc
  have HE := hide hE
  clear hE
  go_wp2_with fail
  refine HE.out.mono ?_
  rintro e w1 ⟨rfl, r1⟩
  have R1 := hide r1
  clear r1 HE
  go_wp2
  exact HQ.out _ _ ⟨rfl, rfl, rfl, rfl, rfl, rfl, rfl, rfl, rfl, rfl, rfl, rfl, rfl, rfl, rfl, rfl⟩ R1.out
theorem ex_r12 {K : Act → World → Prop} {c : Code} (hc : regOf (Tryz.f6.body.getD .skip) 12 = some c) (a : Act) {v : Vex} {wq : World} {tb : Nat} {x : Int} {R : World → Prop} (hF : Fex a v) (h1v : v.v1 = .pointer (some ⟨tb, 0, none⟩)) (hE : Calls Tryz.prog 15 #[.pointer (some ⟨tb, 0, none⟩), .int .i64 2] wq fun e w' => e = .returned (.int .i64 x) ∧ R w')
    (hQ : ∀ a' w' , Fex a' { v with v15 := .int .i64 x } → R w' → K a' w') :
    Code.wp Tryz.prog c (Exit.then K fun _ _ _ => False) a wq := by
  have HQ := hide hQ
  clear hQ
  obtain ⟨v0, v1, v2, v4, v5, v6, v7, v8, v10, v11, v12, v13, v14, v15⟩ := v
  simp only at h1v HQ
  subst h1v
  obtain ⟨u, rfl⟩ := frx_ex hF
  clear hF
  simp only [Tryz.f6, Option.getD_some, regOf] at hc
  injection hc with hc
  subst hc
  have HE := hide hE
  clear hE
  go_wp2_with fail
  refine HE.out.mono ?_
  rintro e w1 ⟨rfl, r1⟩
  have R1 := hide r1
  clear r1 HE
  go_wp2
  exact HQ.out _ _ ⟨rfl, rfl, rfl, rfl, rfl, rfl, rfl, rfl, rfl, rfl, rfl, rfl, rfl, rfl, rfl, rfl⟩ R1.out
theorem ex_r13 {K : Act → World → Prop} {c : Code} (hc : regOf (Tryz.f6.body.getD .skip) 13 = some c) (a : Act) {v : Vex} {wq : World} {tb cp : Nat} {ad : Addr} (hF : Fex a v) (h1v : v.v1 = .pointer (some ⟨tb, 0, none⟩)) (h5v : v.v5 = .int .i64 0) (h6v : v.v6 = .int .i64 0) (h7v : v.v7 = .int .i64 0) (h8v : v.v8 = .int .i64 0) (h10v : v.v10 = .int .i64 6) (h11v : v.v11 = .int .i64 1) (h12v : v.v12 = .int .i64 0) (h13v : v.v13 = .slice (some ad) 1 cp) (h14v : v.v14 = .int .i64 7) (h15v : v.v15 = .int .i64 0) (hc0 : wq.cell? ad = some (.int .i64 1)) (hL : Calls Tryz.prog 23 #[.pointer (some ⟨tb, 0, none⟩)] wq fun e w' => e = .returned (.int .i64 2) ∧ w' = wq) (hM : Calls Tryz.prog 24 #[.pointer (some ⟨tb, 0, none⟩)] wq fun e w' => e = .returned (.int .i64 2) ∧ w' = wq)
    (hQ : ∀ a', Fex a' { v with v0 := .bool true } → K a' wq) :
    Code.wp Tryz.prog c (Exit.then K fun _ _ _ => False) a wq := by
  have HQ := hide hQ
  clear hQ
  obtain ⟨v0, v1, v2, v4, v5, v6, v7, v8, v10, v11, v12, v13, v14, v15⟩ := v
  simp only at h1v h5v h6v h7v h8v h10v h11v h12v h13v h14v h15v HQ
  subst h1v h5v h6v h7v h8v h10v h11v h12v h13v h14v h15v
  obtain ⟨u, rfl⟩ := frx_ex hF
  clear hF
  simp only [Tryz.f6, Option.getD_some, regOf] at hc
  injection hc with hc
  subst hc
  have HL := hide hL
  have HM := hide hM
  clear hL hM
  go_wp2_with (first | (go_at_call 23; refine HL.out.mono ?_; rintro e w' ⟨rfl, rfl⟩) | (go_at_call 24; refine HM.out.mono ?_; rintro e w' ⟨rfl, rfl⟩))
  exact HQ.out _ ⟨rfl, rfl, rfl, rfl, rfl, rfl, rfl, rfl, rfl, rfl, rfl, rfl, rfl, rfl, rfl, rfl⟩
end Go.Proofs.YtmkkcgkakomacaaGreat.Y
namespace Go.Proofs.YtmkkcgkakomacaaGreat.Y
open Go.RowKit
set_option maxHeartbeats 4000000
set_option maxRecDepth 100000
attribute [local go_sem ↓] Go.wp_at_zero Go.wp_at_succ
set_option linter.unusedSimpArgs false
set_option linter.unusedVariables false
def exG1 : TG := addF (TG.new ⟨#[116]⟩) ⟨0, ⟨#[112]⟩, 1, ⟨#[107]⟩, ⟨#[118]⟩⟩
def exG2 : TG := addF exG1 ⟨0, ⟨#[112]⟩, 5, ⟨#[107]⟩, ⟨#[120]⟩⟩
theorem ex_p1 : pubF (TG.new ⟨#[116]⟩) ⟨#[112]⟩ 1 ⟨#[107]⟩ ⟨#[118]⟩ = (0, 0, exG1) := by kernel_rfl
theorem ex_p2 : pubF exG1 ⟨#[112]⟩ 1 ⟨#[107]⟩ ⟨#[119]⟩ = (0, 0, exG1) := by kernel_rfl
theorem ex_p3 : pubF exG1 ⟨#[112]⟩ 0 ⟨#[107]⟩ ⟨#[119]⟩ = (0, 6, exG1) := by kernel_rfl
theorem ex_p4 : pubF exG1 ⟨#[112]⟩ 5 ⟨#[107]⟩ ⟨#[120]⟩ = (1, 0, exG2) := by kernel_rfl
theorem ex_r : readF (compF exG2 9).recs 0 9 = [⟨1, ⟨#[112]⟩, 5, ⟨#[107]⟩, ⟨#[120]⟩⟩] := by kernel_rfl
theorem ex_t3 : trimF (compF exG2 9) 3 = (7, compF exG2 9) := by kernel_rfl
theorem ex_t2 : (trimF (compF exG2 9) 2).1 = 0 := by kernel_rfl
theorem ex_lo : (trimF (compF exG2 9) 2).2.low = 2 := by kernel_rfl
theorem ex_fi : (trimF (compF exG2 9) 2).2.fin = 2 := by kernel_rfl
theorem ex_w : wordB ⟨#[116]⟩ = true := by kernel_rfl
theorem ex_nw : wordB ⟨#[84]⟩ = false := by kernel_rfl
theorem z1 (b : UInt8) : (⟨#[b]⟩ : ByteArray).size ≤ 281474976710656 := by show 1 ≤ _; omega
theorem examples_any (w : World) : Calls Tryz.prog 6 #[] w fun e w' => e = .returned (.bool true) ∧ Below w.heap.size w w' := by
  go_enter Tryz.func6, Tryz.ntmps6
  refine wp_seq (reg_mono (ex_r0 (by kernel_rfl) _ (v := ⟨_, _, _, _, _, _, _, _, _, _, _, _, _, _⟩) ⟨rfl, rfl, rfl, rfl, rfl, rfl, rfl, rfl, rfl, rfl, rfl, rfl, rfl, rfl, rfl, rfl⟩ ?_))
  intro a0 F0
  try dsimp only at F0
  refine wp_seq (reg_mono (ex_r1 (by kernel_rfl) _ F0 (held_new ⟨#[116]⟩ (z1 _) ex_w (Below.refl w.heap.size w) (Nat.le_refl _)) ?_))
  rintro a1 w1 L F1 ⟨H1, _, _⟩
  try dsimp only at F1
  refine wp_seq (reg_mono (ex_r2 (by kernel_rfl) _ F1 (R := fun w' => Below w1.heap.size w1 w') ((tnew ⟨#[84]⟩ (z1 _) w1).mono fun e w' ⟨b, h⟩ => by
    rcases h with ⟨_, h⟩ | ⟨h, _⟩
    · exact ⟨h, b⟩
    · rw [ex_nw] at h; cases h) ?_))
  intro a2 w2 F2 b2
  try dsimp only at F2
  have H2 := H1.to b2
  refine wp_seq (wp_seq (reg_mono (ex_r3 (by kernel_rfl) _ F2 rfl rfl rfl ?_)))
  intro a3 F3 g3
  try dsimp only at F3
  refine wp_cond_false g3 (wp_skip ?_)
  have E5 := held_pub H2 (by omega) ⟨#[112]⟩ 1 ⟨#[107]⟩ ⟨#[118]⟩ (z1 _) (z1 _) (z1 _)
  rw [ex_p1] at E5
  dsimp only at E5
  refine wp_seq (reg_mono (ex_r5 (by kernel_rfl) _ F3 rfl (x := 0) (y := 0) E5 ?_))
  rintro a5 w5 F5 ⟨L5, e5, H5, _⟩
  try dsimp only at F5
  rw [← e5] at F5
  have E6 := held_pub H5 (by omega) ⟨#[112]⟩ 1 ⟨#[107]⟩ ⟨#[119]⟩ (z1 _) (z1 _) (z1 _)
  rw [ex_p2] at E6
  dsimp only at E6
  refine wp_seq (reg_mono (ex_r6 (by kernel_rfl) _ F5 rfl (x := 0) (y := 0) E6 ?_))
  rintro a6 w6 F6 ⟨L6, e6, H6, _⟩
  try dsimp only at F6
  rw [← e6] at F6
  have E7 := held_pub H6 (by omega) ⟨#[112]⟩ 0 ⟨#[107]⟩ ⟨#[119]⟩ (z1 _) (z1 _) (z1 _)
  rw [ex_p3] at E7
  dsimp only at E7
  refine wp_seq (reg_mono (ex_r7 (by kernel_rfl) _ F6 rfl (x := 0) (y := 6) E7 ?_))
  rintro a7 w7 F7 ⟨L7, e7, H7, _⟩
  try dsimp only at F7
  rw [← e7] at F7
  have E8 := held_pub H7 (by omega) ⟨#[112]⟩ 5 ⟨#[107]⟩ ⟨#[120]⟩ (z1 _) (z1 _) (z1 _)
  rw [ex_p4] at E8
  dsimp only at E8
  refine wp_seq (reg_mono (ex_r8 (by kernel_rfl) _ F7 rfl (x := 1) (y := 0) E8 ?_))
  rintro a8 w8 F8 ⟨L8, e8, H8, _⟩
  try dsimp only at F8
  rw [← e8] at F8
  refine wp_seq (reg_mono (ex_r9 (by kernel_rfl) _ F8 rfl (held_comp H8 9) ?_))
  rintro a9 w9 F9 ⟨L9, e9, H9, _⟩
  try dsimp only at F9
  rw [← e9] at F9
  have HR := held_read H9 0 9 (by omega)
  rw [ex_r] at HR
  refine wp_seq (reg_mono (ex_r10 (by kernel_rfl) _ F9 rfl (n := 1) HR ?_))
  rintro a10 w10 ao cp F10 ⟨O10, H10, _⟩
  try dsimp only at F10
  have R10 := recs_of_own (l := [⟨1, ⟨#[112]⟩, 5, ⟨#[107]⟩, ⟨#[120]⟩⟩]) O10
  have E11 := held_trim H10 3
  rw [ex_t3] at E11
  dsimp only at E11
  refine wp_seq (reg_mono (ex_r11 (by kernel_rfl) _ F10 rfl (x := 7) E11 ?_))
  rintro a11 w11 F11 ⟨L11, e11, H11, s11⟩
  try dsimp only at F11
  rw [← e11] at F11
  have E12 := held_trim H11 2
  rw [ex_t2] at E12
  refine wp_seq (reg_mono (ex_r12 (by kernel_rfl) _ F11 rfl (x := 0) E12 ?_))
  rintro a12 w12 F12 ⟨L12, e12, H12, s12⟩
  try dsimp only at F12
  rw [← e12] at F12
  obtain ⟨_, bb, off, rfl, hbb, c0, _⟩ := R10.five 0 (by decide)
  have hnot : ¬ L9.own bb := fun e => by
    have h1 := H9.at_.lt e
    have h2 := (O10.lt bb rfl).1
    omega
  have d1 := s11.touch.cell _ c0 hnot
  have d2 := s12.touch.cell _ d1 (fun e => (s11.own _ e).elim hnot (fun e => by have e2 : w10.heap.size ≤ bb := e; omega))
  refine wp_seq (reg_mono (ex_r13 (by kernel_rfl) _ F12 rfl rfl rfl rfl rfl rfl rfl rfl rfl rfl rfl d2 (by have := tlow H12.at_; rw [ex_lo] at this; exact this) (by have := tend H12.at_; rw [ex_fi] at this; exact this) ?_))
  intro a13 F13
  try dsimp only at F13
  refine wp_ret ?_
  refine bodyPost_ret (v := .bool true) ?_ F13.defers ⟨rfl, H12.below⟩
  simp [results, Tryz.results6, go_sem, slot_get F13.s0]
end Go.Proofs.YtmkkcgkakomacaaGreat.Y
namespace Go.Proofs.YtmkkcgkakomacaaGreat.Y
open Go.RowKit Go.Maps
set_option maxRecDepth 100000
set_option linter.unusedVariables false
structure OI (G : TG) (T : List Rec) : Prop where
  recs : G.recs = T
  fin : G.fin = T.length
  low : G.low = 0
  off : ∀ k (h : k < T.length), T[k].off = (k : Int)
  map : IsMap G.D
  none_ : ∀ p : ByteArray, pget G.D p.data.toList = none → ∀ r ∈ T, r.prod ≠ p
  some_ : ∀ (p : ByteArray) (o s : Int), pget G.D p.data.toList = some (o, s) → ∃ k, ∃ h : k < T.length, o = (k : Int) ∧ T[k].prod = p ∧ T[k].seq = s ∧ ∀ r ∈ T, r.prod = p → r.seq ≤ s
structure OM (B : Nat) (w0 w : World) (L : LOC) (G : TG) (c : Nat) (T : List Rec) (to_ : Option Addr) (tc : Nat) : Prop where
  held : Held B w0 w L G c
  row : w.ownsRow B 39 5 (.slice to_ T.length tc) T.length (recCells T)
  apart : ∀ j, (Value.slice to_ T.length tc).ownBlock = some j → ¬ L.own j
section
variable {B : Nat} {w0 w w' : World} {L L' : LOC} {G G' : TG} {c c' : Nat} {T T' : List Rec} {to_ to' : Option Addr} {tc tc' : Nat}
theorem OM.size (h : OM B w0 w L G c T to_ tc) : B ≤ w.heap.size := Nat.le_trans h.held.le h.held.below.size
theorem OM.to (h : OM B w0 w L G c T to_ tc) (hb : Below w.heap.size w w') : OM B w0 w' L G c T to_ tc := ⟨h.held.to hb, own_below h.row hb, h.apart⟩
theorem OM.step (h : OM B w0 w L G c T to_ tc) (hh : Held B w0 w' L' G' c') (s : TStep w w' L L') : OM B w0 w' L' G' c' T to_ tc := by
  refine ⟨hh, s.touch.row h.row h.apart, fun j hj e => ?_⟩
  rcases s.own j e with e | e
  · exact h.apart j hj e
  · have := row_lt h.row hj; omega
theorem OM.grown (h : OM B w0 w L G c T to_ tc) (hg : w.grownBy w' (Value.slice to_ T.length tc).ownBlock) (hr : w'.ownsRow B 39 5 (.slice to' T'.length tc') T'.length (recCells T')) (hw : (Value.slice to' T'.length tc').ownBlock = (Value.slice to_ T.length tc).ownBlock ∨ (Value.slice to' T'.length tc').ownBlock = some w.heap.size) : OM B w0 w' L G c T' to' tc' := by
  have hb : Below B w w' := (Below.refl B w).grown hg h.size (fun j hj => (h.row.lt j hj).1)
  refine ⟨⟨h.held.at_.keep (own := fun j => (Value.slice to_ T.length tc).ownBlock = some j) ((Touch.refl _ w).grown hg (fun _ e _ => e)) (fun j hj e => h.apart j e hj), h.held.ok, h.held.below.trans hb, h.held.new, h.held.le⟩, hr, fun j hj e => ?_⟩
  rcases hw with hw | hw
  · exact h.apart j (hw ▸ hj) e
  · rw [hw] at hj
    have := h.held.at_.lt e
    have := Option.some.inj hj
    omega
end
end Go.Proofs.YtmkkcgkakomacaaGreat.Y
namespace Go.Proofs
open Go.Shelf
def Tryz.shKeys_ren : Go.Shelf.Ren := ⟨fun | 7 => 38 | 10 => 68 | n => n, fun | 23 => 50 | 26 => 9 | 3 => 57 | 28 => 71 | 0 => 0 | 27 => 70 | 33 => 47 | 4 => 4 | n => n, fun | n => n⟩
theorem Tryz.shKeys : Go.Proofs.SlLaysZ.n7 Tryz.prog Tryz.shKeys_ren := {
  mixed := by kernel_rfl
  f7 := ⟨Tryz.f38.name, by decide, Tryz.func38.trans (congrArg some (by kernel_rfl))⟩
  f10 := ⟨Tryz.f68.name, by decide, Tryz.func68.trans (congrArg some (by kernel_rfl))⟩
  t0 := Tryz.underlying0
  a0 := Tryz.isAgg0
  z0 := Tryz.sizeOf0
  v0 := Tryz.zeroValue0
  t4 := Tryz.underlying4
  a4 := Tryz.isAgg4
  z4 := Tryz.sizeOf4
  v4 := Tryz.zeroValue4
  t23 := Tryz.underlying50
  a23 := Tryz.isAgg50
  z23 := Tryz.sizeOf50
  v23 := Tryz.zeroValue50
  t26 := Tryz.underlying9
  a26 := Tryz.isAgg9
  z26 := Tryz.sizeOf9
  v26 := Tryz.zeroValue9
  t27 := Tryz.underlying70
  a27 := Tryz.isAgg70
  z27 := Tryz.sizeOf70
  v27 := Tryz.zeroValue70
  t28 := Tryz.underlying71
  a28 := Tryz.isAgg71
  z28 := Tryz.sizeOf71
  v28 := Tryz.zeroValue71
  t33 := Tryz.underlying47
  a33 := Tryz.isAgg47
  z33 := Tryz.sizeOf47
  v33 := Tryz.zeroValue47 }
def Tryz.shSorted_ren : Go.Shelf.Ren := ⟨fun | 6 => 37 | 8 => 66 | 9 => 67 | 11 => 85 | 13 => 87 | 12 => 86 | 23 => 121 | 24 => 122 | 14 => 112 | 15 => 113 | 16 => 114 | 17 => 115 | 18 => 116 | 19 => 117 | 20 => 118 | 21 => 119 | 22 => 120 | 25 => 132 | 26 => 133 | 27 => 134 | 28 => 135 | 29 => 136 | 30 => 137 | 31 => 142 | n => n, fun | 26 => 9 | 28 => 71 | 24 => 68 | 0 => 0 | 3 => 3 | 37 => 94 | 48 => 160 | 50 => 81 | 4 => 4 | 40 => 154 | 39 => 153 | 45 => 61 | 5 => 5 | 9 => 9 | 51 => 172 | 55 => 176 | 57 => 181 | 58 => 33 | 33 => 47 | n => n, fun | n => n⟩
theorem Tryz.shSorted : Go.Proofs.SlLaysZ.n6 Tryz.prog Tryz.shSorted_ren := {
  mixed := by kernel_rfl
  f6 := ⟨Tryz.f37.name, by decide, Tryz.func37.trans (congrArg some (by kernel_rfl))⟩
  f8 := ⟨Tryz.f66.name, by decide, Tryz.func66.trans (congrArg some (by kernel_rfl))⟩
  f11 := ⟨Tryz.f85.name, by decide, Tryz.func85.trans (congrArg some (by kernel_rfl))⟩
  t0 := Tryz.underlying0
  a0 := Tryz.isAgg0
  z0 := Tryz.sizeOf0
  v0 := Tryz.zeroValue0
  t24 := Tryz.underlying68
  a24 := Tryz.isAgg68
  z24 := Tryz.sizeOf68
  v24 := Tryz.zeroValue68
  t26 := Tryz.underlying9
  a26 := Tryz.isAgg9
  z26 := Tryz.sizeOf9
  v26 := Tryz.zeroValue9
  t28 := Tryz.underlying71
  a28 := Tryz.isAgg71
  z28 := Tryz.sizeOf71
  v28 := Tryz.zeroValue71
  i26 := by kernel_rfl }
def Tryz.shSort_ren : Go.Shelf.Ren := ⟨fun | 6 => 67 | 8 => 87 | 9 => 86 | 19 => 121 | 20 => 122 | 21 => 112 | 22 => 113 | 23 => 114 | 24 => 115 | 25 => 116 | 26 => 117 | 27 => 118 | 28 => 119 | 29 => 120 | 36 => 132 | 31 => 133 | 32 => 134 | 37 => 135 | 38 => 136 | 39 => 137 | 41 => 142 | n => n, fun | 27 => 68 | 29 => 9 | 3 => 3 | 32 => 94 | 26 => 68 | 0 => 0 | 44 => 160 | 46 => 81 | 4 => 4 | 36 => 154 | 35 => 153 | 41 => 61 | 5 => 5 | 9 => 9 | 53 => 172 | 57 => 176 | 63 => 181 | 64 => 33 | n => n, fun | n => n⟩
theorem Tryz.shSort : Go.Proofs.SlLaysM.n6 Tryz.prog Tryz.shSort_ren := {
  mixed := by kernel_rfl
  f6 := ⟨Tryz.f67.name, by decide, Tryz.func67.trans (congrArg some (by kernel_rfl))⟩
  f8 := Tryz.func87.trans (congrArg some (by kernel_rfl))
  f9 := ⟨Tryz.f86.name, by decide, Tryz.func86.trans (congrArg some (by kernel_rfl))⟩
  f19 := Tryz.func121.trans (congrArg some (by kernel_rfl))
  f20 := Tryz.func122.trans (congrArg some (by kernel_rfl))
  f21 := ⟨Tryz.f112.name, by decide, Tryz.func112.trans (congrArg some (by kernel_rfl))⟩
  f22 := ⟨Tryz.f113.name, by decide, Tryz.func113.trans (congrArg some (by kernel_rfl))⟩
  f23 := ⟨Tryz.f114.name, by decide, Tryz.func114.trans (congrArg some (by kernel_rfl))⟩
  f24 := ⟨Tryz.f115.name, by decide, Tryz.func115.trans (congrArg some (by kernel_rfl))⟩
  f25 := ⟨Tryz.f116.name, by decide, Tryz.func116.trans (congrArg some (by kernel_rfl))⟩
  f26 := ⟨Tryz.f117.name, by decide, Tryz.func117.trans (congrArg some (by kernel_rfl))⟩
  f27 := ⟨Tryz.f118.name, by decide, Tryz.func118.trans (congrArg some (by kernel_rfl))⟩
  f28 := ⟨Tryz.f119.name, by decide, Tryz.func119.trans (congrArg some (by kernel_rfl))⟩
  f29 := ⟨Tryz.f120.name, by decide, Tryz.func120.trans (congrArg some (by kernel_rfl))⟩
  f31 := Tryz.func133.trans (congrArg some (by kernel_rfl))
  f32 := Tryz.func134.trans (congrArg some (by kernel_rfl))
  f36 := ⟨Tryz.f132.name, by decide, Tryz.func132.trans (congrArg some (by kernel_rfl))⟩
  f37 := ⟨Tryz.f135.name, by decide, Tryz.func135.trans (congrArg some (by kernel_rfl))⟩
  f38 := ⟨Tryz.f136.name, by decide, Tryz.func136.trans (congrArg some (by kernel_rfl))⟩
  f39 := ⟨Tryz.f137.name, by decide, Tryz.func137.trans (congrArg some (by kernel_rfl))⟩
  f41 := ⟨Tryz.f142.name, by decide, Tryz.func142.trans (congrArg some (by kernel_rfl))⟩
  t0 := Tryz.underlying0
  a0 := Tryz.isAgg0
  z0 := Tryz.sizeOf0
  v0 := Tryz.zeroValue0
  t3 := Tryz.underlying3
  a3 := Tryz.isAgg3
  z3 := Tryz.sizeOf3
  v3 := Tryz.zeroValue3
  t4 := Tryz.underlying4
  a4 := Tryz.isAgg4
  z4 := Tryz.sizeOf4
  v4 := Tryz.zeroValue4
  t5 := Tryz.underlying5
  a5 := Tryz.isAgg5
  z5 := Tryz.sizeOf5
  v5 := Tryz.zeroValue5
  t9 := Tryz.underlying9
  a9 := Tryz.isAgg9
  z9 := Tryz.sizeOf9
  v9 := Tryz.zeroValue9
  t26 := Tryz.underlying68
  a26 := Tryz.isAgg68
  z26 := Tryz.sizeOf68
  v26 := Tryz.zeroValue68
  t27 := Tryz.underlying68
  a27 := Tryz.isAgg68
  z27 := Tryz.sizeOf68
  v27 := Tryz.zeroValue68
  t29 := Tryz.underlying9
  a29 := Tryz.isAgg9
  z29 := Tryz.sizeOf9
  v29 := Tryz.zeroValue9
  t32 := Tryz.underlying94
  a32 := Tryz.isAgg94
  z32 := Tryz.sizeOf94
  v32 := Tryz.zeroValue94
  t35 := Tryz.underlying153
  a35 := Tryz.isAgg153
  z35 := Tryz.sizeOf153
  v35 := Tryz.zeroValue153
  t36 := Tryz.underlying154
  a36 := Tryz.isAgg154
  z36 := Tryz.sizeOf154
  v36 := Tryz.zeroValue154
  t41 := Tryz.underlying61
  a41 := Tryz.isAgg61
  z41 := Tryz.sizeOf61
  v41 := Tryz.zeroValue61
  t44 := Tryz.underlying160
  a44 := Tryz.isAgg160
  z44 := Tryz.sizeOf160
  v44 := Tryz.zeroValue160
  t46 := Tryz.underlying81
  a46 := Tryz.isAgg81
  z46 := Tryz.sizeOf81
  v46 := Tryz.zeroValue81
  t53 := Tryz.underlying172
  a53 := Tryz.isAgg172
  z53 := Tryz.sizeOf172
  v53 := Tryz.zeroValue172
  t57 := Tryz.underlying176
  a57 := Tryz.isAgg176
  z57 := Tryz.sizeOf176
  v57 := Tryz.zeroValue176
  t63 := Tryz.underlying181
  a63 := Tryz.isAgg181
  z63 := Tryz.sizeOf181
  v63 := Tryz.zeroValue181
  t64 := Tryz.underlying33
  a64 := Tryz.isAgg33
  z64 := Tryz.sizeOf33
  v64 := Tryz.zeroValue33 }
end Go.Proofs
