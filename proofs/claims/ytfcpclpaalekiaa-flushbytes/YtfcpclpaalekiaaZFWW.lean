/-
  FlushOwns: the walk (mkfo.py).
-/
import Derived.Test.YtfcpclpaalekiaaZPhiG
import Derived.Laws.StructEq
namespace Go.Proofs.Ytfcpclpaalekiaa
open Go.RowKit
set_option maxHeartbeats 8000000
set_option maxRecDepth 100000
attribute [local go_sem ↓] Go.wp_at_zero Go.wp_at_succ
set_option linter.unusedSimpArgs false
set_option linter.unusedVariables false
theorem frame_fy (t : Array Value) (h : t.size = 101) : ∃ u : Nat → Value, t = List.toArray (u 0 :: u 1 :: u 2 :: u 3 :: u 4 :: u 5 :: u 6 :: u 7 :: u 8 :: u 9 :: u 10 :: u 11 :: u 12 :: u 13 :: u 14 :: u 15 :: u 16 :: u 17 :: u 18 :: u 19 :: u 20 :: u 21 :: u 22 :: u 23 :: u 24 :: u 25 :: u 26 :: u 27 :: u 28 :: u 29 :: u 30 :: u 31 :: u 32 :: u 33 :: u 34 :: u 35 :: u 36 :: u 37 :: u 38 :: u 39 :: u 40 :: u 41 :: u 42 :: u 43 :: u 44 :: u 45 :: u 46 :: u 47 :: u 48 :: u 49 :: u 50 :: u 51 :: u 52 :: u 53 :: u 54 :: u 55 :: u 56 :: u 57 :: u 58 :: u 59 :: u 60 :: u 61 :: u 62 :: u 63 :: u 64 :: u 65 :: u 66 :: u 67 :: u 68 :: u 69 :: u 70 :: u 71 :: u 72 :: u 73 :: u 74 :: u 75 :: u 76 :: u 77 :: u 78 :: u 79 :: u 80 :: u 81 :: u 82 :: u 83 :: u 84 :: u 85 :: u 86 :: u 87 :: u 88 :: u 89 :: u 90 :: u 91 :: u 92 :: u 93 :: u 94 :: u 95 :: u 96 :: u 97 :: u 98 :: u 99 :: u 100 :: []) := by
  refine ⟨fun i => t.getD i undef, ?_⟩
  refine Eq.trans (b := ((List.range 101).map fun i => t.getD i undef).toArray) ?_ rfl
  apply Array.ext
  · simp [h]
  · intro k h1 h2
    simp [Array.getD, h1]
structure Vfy where
  v0 : Value
  v1 : Value
  v2 : Value
  v3 : Value
  v4 : Value
  v8 : Value
  v9 : Value
  v10 : Value
  v11 : Value
  v12 : Value
  v13 : Value
  v14 : Value
  v15 : Value
  v16 : Value
  v17 : Value
  v18 : Value
  v19 : Value
  v20 : Value
  v21 : Value
  v22 : Value
  v23 : Value
  v24 : Value
  v25 : Value
structure Ffy (a : Act) (v : Vfy) : Prop where
  size : a.tmps.size = 101
  defers : a.defers = []
  s0 : a.tmps.getD 0 undef = v.v0
  s1 : a.tmps.getD 1 undef = v.v1
  s2 : a.tmps.getD 2 undef = v.v2
  s3 : a.tmps.getD 3 undef = v.v3
  s4 : a.tmps.getD 4 undef = v.v4
  s8 : a.tmps.getD 8 undef = v.v8
  s9 : a.tmps.getD 9 undef = v.v9
  s10 : a.tmps.getD 10 undef = v.v10
  s11 : a.tmps.getD 11 undef = v.v11
  s12 : a.tmps.getD 12 undef = v.v12
  s13 : a.tmps.getD 13 undef = v.v13
  s14 : a.tmps.getD 14 undef = v.v14
  s15 : a.tmps.getD 15 undef = v.v15
  s16 : a.tmps.getD 16 undef = v.v16
  s17 : a.tmps.getD 17 undef = v.v17
  s18 : a.tmps.getD 18 undef = v.v18
  s19 : a.tmps.getD 19 undef = v.v19
  s20 : a.tmps.getD 20 undef = v.v20
  s21 : a.tmps.getD 21 undef = v.v21
  s22 : a.tmps.getD 22 undef = v.v22
  s23 : a.tmps.getD 23 undef = v.v23
  s24 : a.tmps.getD 24 undef = v.v24
  s25 : a.tmps.getD 25 undef = v.v25
theorem frx_fy {a : Act} {v0 v1 v2 v3 v4 v8 v9 v10 v11 v12 v13 v14 v15 v16 v17 v18 v19 v20 v21 v22 v23 v24 v25 : Value} (h : Ffy a ⟨v0, v1, v2, v3, v4, v8, v9, v10, v11, v12, v13, v14, v15, v16, v17, v18, v19, v20, v21, v22, v23, v24, v25⟩) : ∃ u : Nat → Value, a = ⟨List.toArray (v0 :: v1 :: v2 :: v3 :: v4 :: u 5 :: u 6 :: u 7 :: v8 :: v9 :: v10 :: v11 :: v12 :: v13 :: v14 :: v15 :: v16 :: v17 :: v18 :: v19 :: v20 :: v21 :: v22 :: v23 :: v24 :: v25 :: u 26 :: u 27 :: u 28 :: u 29 :: u 30 :: u 31 :: u 32 :: u 33 :: u 34 :: u 35 :: u 36 :: u 37 :: u 38 :: u 39 :: u 40 :: u 41 :: u 42 :: u 43 :: u 44 :: u 45 :: u 46 :: u 47 :: u 48 :: u 49 :: u 50 :: u 51 :: u 52 :: u 53 :: u 54 :: u 55 :: u 56 :: u 57 :: u 58 :: u 59 :: u 60 :: u 61 :: u 62 :: u 63 :: u 64 :: u 65 :: u 66 :: u 67 :: u 68 :: u 69 :: u 70 :: u 71 :: u 72 :: u 73 :: u 74 :: u 75 :: u 76 :: u 77 :: u 78 :: u 79 :: u 80 :: u 81 :: u 82 :: u 83 :: u 84 :: u 85 :: u 86 :: u 87 :: u 88 :: u 89 :: u 90 :: u 91 :: u 92 :: u 93 :: u 94 :: u 95 :: u 96 :: u 97 :: u 98 :: u 99 :: u 100 :: []), []⟩ := by
  obtain ⟨t', d'⟩ := a
  obtain ⟨hs, hd, q0, q1, q2, q3, q4, q8, q9, q10, q11, q12, q13, q14, q15, q16, q17, q18, q19, q20, q21, q22, q23, q24, q25⟩ := h
  obtain ⟨u, hu⟩ := frame_fy t' hs
  simp only at hd q0 q1 q2 q3 q4 q8 q9 q10 q11 q12 q13 q14 q15 q16 q17 q18 q19 q20 q21 q22 q23 q24 q25
  subst hu hd
  have e0 : u 0 = v0 := q0
  have e1 : u 1 = v1 := q1
  have e2 : u 2 = v2 := q2
  have e3 : u 3 = v3 := q3
  have e4 : u 4 = v4 := q4
  have e8 : u 8 = v8 := q8
  have e9 : u 9 = v9 := q9
  have e10 : u 10 = v10 := q10
  have e11 : u 11 = v11 := q11
  have e12 : u 12 = v12 := q12
  have e13 : u 13 = v13 := q13
  have e14 : u 14 = v14 := q14
  have e15 : u 15 = v15 := q15
  have e16 : u 16 = v16 := q16
  have e17 : u 17 = v17 := q17
  have e18 : u 18 = v18 := q18
  have e19 : u 19 = v19 := q19
  have e20 : u 20 = v20 := q20
  have e21 : u 21 = v21 := q21
  have e22 : u 22 = v22 := q22
  have e23 : u 23 = v23 := q23
  have e24 : u 24 = v24 := q24
  have e25 : u 25 = v25 := q25
  refine ⟨u, ?_⟩
  rw [e0, e1, e2, e3, e4, e8, e9, e10, e11, e12, e13, e14, e15, e16, e17, e18, e19, e20, e21, e22, e23, e24, e25]
theorem fy_r0 {K : Act → World → Prop} {c : Code} (hc : regOf (Try.f4.body.getD .skip) 0 = some c) (a : Act) {v : Vfy} {wq : World} {n cp : Nat} {num : Int} {ao : Option Addr} (hF : Ffy a v) (h0v : v.v0 = .agg #[.int .i64 num, .slice ao n cp]) (hQ : ∀ a', Ffy a' { v with v4 := .pointer (some ⟨wq.heap.size, 0, none⟩), v8 := .bool false } → K a' (wq.alloc (.cells #[.int .i64 num, .slice ao n cp] tView))) :
    Code.wp Try.prog c (Exit.then K fun _ _ _ => False) a wq := by
  have HQ := hide hQ
  clear hQ
  obtain ⟨v0, v1, v2, v3, v4, v8, v9, v10, v11, v12, v13, v14, v15, v16, v17, v18, v19, v20, v21, v22, v23, v24, v25⟩ := v
  simp only at h0v HQ
  subst h0v
  obtain ⟨u, rfl⟩ := frx_fy hF
  clear hF
  simp only [Try.f4, Option.getD_some, regOf] at hc
  injection hc with hc
  subst hc
  go_wp2
  exact HQ.out _ ⟨rfl, rfl, rfl, rfl, rfl, rfl, rfl, rfl, rfl, rfl, rfl, rfl, rfl, rfl, rfl, rfl, rfl, rfl, rfl, rfl, rfl, rfl, rfl, rfl, rfl⟩
theorem fy_r1 {K : Act → World → Prop} {c : Code} (hc : regOf (Try.f4.body.getD .skip) 1 = some c) (a : Act) {v : Vfy} {wq : World} {R : World → Prop}  (hF : Ffy a v) (hE : Calls Try.prog 9 #[] wq fun e w' => e = .returned (.bool true) ∧ R w')
    (hQ : ∀ a' w1, Ffy a' { v with v9 := .bool true } → R w1 → K a' w1) :
    Code.wp Try.prog c (Exit.then K fun _ _ _ => False) a wq := by
  have HQ := hide hQ
  clear hQ
  obtain ⟨v0, v1, v2, v3, v4, v8, v9, v10, v11, v12, v13, v14, v15, v16, v17, v18, v19, v20, v21, v22, v23, v24, v25⟩ := v
  obtain ⟨u, rfl⟩ := frx_fy hF
  clear hF
  simp only [Try.f4, Option.getD_some, regOf] at hc
  injection hc with hc
  subst hc
  have HE := hide hE
  clear hE
  go_wp2_with (go_at_call 9; refine HE.out.mono ?_; rintro e w1 ⟨rfl, r1⟩; have R1 := hide r1; clear r1)
  exact HQ.out _ _ ⟨rfl, rfl, rfl, rfl, rfl, rfl, rfl, rfl, rfl, rfl, rfl, rfl, rfl, rfl, rfl, rfl, rfl, rfl, rfl, rfl, rfl, rfl, rfl, rfl, rfl⟩ R1.out
theorem fy_r2 {K : Act → World → Prop} {c : Code} (hc : regOf (Try.f4.body.getD .skip) 2 = some c) (a : Act) {v : Vfy} {wq : World} {R : World → Prop} {vb n cp : Nat} {num : Int} {ao : Option Addr} {lo : Option Addr} {ln lc : Nat} {s : ByteArray} {z : Int} (hF : Ffy a v) (h4v : v.v4 = .pointer (some ⟨vb, 0, none⟩)) (h1v : v.v1 = .slice lo ln lc) (hV : wq.heap[vb]? = some (.cells #[.int .i64 num, .slice ao n cp] tView (0, 0))) (hE : Calls Try.prog 17 #[.agg #[.int .i64 num, .slice ao n cp], .slice lo ln lc] wq fun e w' => e = .returned (.tuple #[.string s, .int .i64 z]) ∧ R w')
    (hQ : ∀ a' w1, Ffy a' { v with v10 := .string s, v11 := .int .i64 z } → R w1 → K a' w1) :
    Code.wp Try.prog c (Exit.then K fun _ _ _ => False) a wq := by
  have HQ := hide hQ
  clear hQ
  obtain ⟨v0, v1, v2, v3, v4, v8, v9, v10, v11, v12, v13, v14, v15, v16, v17, v18, v19, v20, v21, v22, v23, v24, v25⟩ := v
  simp only at h4v h1v HQ
  subst h4v h1v
  obtain ⟨u, rfl⟩ := frx_fy hF
  clear hF
  simp only [Try.f4, Option.getD_some, regOf] at hc
  injection hc with hc
  subst hc
  have HE := hide hE
  clear hE
  have z0 := box_cell hV 0 rfl
  have z1 := box_cell hV 1 rfl
  clear hV
  go_wp2_with (go_at_call 17; refine HE.out.mono ?_; rintro e w1 ⟨rfl, r1⟩; have R1 := hide r1; clear r1)
  exact HQ.out _ _ ⟨rfl, rfl, rfl, rfl, rfl, rfl, rfl, rfl, rfl, rfl, rfl, rfl, rfl, rfl, rfl, rfl, rfl, rfl, rfl, rfl, rfl, rfl, rfl, rfl, rfl⟩ R1.out
theorem fy_r3 {K : Act → World → Prop} {c : Code} (hc : regOf (Try.f4.body.getD .skip) 3 = some c) (a : Act) {v : Vfy} {wq : World} {R : World → Prop} {vb n cp : Nat} {num : Int} {ao : Option Addr} {lo : Option Addr} {ln lc : Nat} {s : ByteArray} {z : Int} (hF : Ffy a v) (h4v : v.v4 = .pointer (some ⟨vb, 0, none⟩)) (h1v : v.v1 = .slice lo ln lc) (hV : wq.heap[vb]? = some (.cells #[.int .i64 num, .slice ao n cp] tView (0, 0))) (hE : Calls Try.prog 18 #[.agg #[.int .i64 num, .slice ao n cp], .slice lo ln lc] wq fun e w' => e = .returned (.tuple #[.string s, .int .i64 z]) ∧ R w')
    (hQ : ∀ a' w1, Ffy a' { v with v12 := .string s, v13 := .int .i64 z } → R w1 → K a' w1) :
    Code.wp Try.prog c (Exit.then K fun _ _ _ => False) a wq := by
  have HQ := hide hQ
  clear hQ
  obtain ⟨v0, v1, v2, v3, v4, v8, v9, v10, v11, v12, v13, v14, v15, v16, v17, v18, v19, v20, v21, v22, v23, v24, v25⟩ := v
  simp only at h4v h1v HQ
  subst h4v h1v
  obtain ⟨u, rfl⟩ := frx_fy hF
  clear hF
  simp only [Try.f4, Option.getD_some, regOf] at hc
  injection hc with hc
  subst hc
  have HE := hide hE
  clear hE
  have z0 := box_cell hV 0 rfl
  have z1 := box_cell hV 1 rfl
  clear hV
  go_wp2_with (go_at_call 18; refine HE.out.mono ?_; rintro e w1 ⟨rfl, r1⟩; have R1 := hide r1; clear r1)
  exact HQ.out _ _ ⟨rfl, rfl, rfl, rfl, rfl, rfl, rfl, rfl, rfl, rfl, rfl, rfl, rfl, rfl, rfl, rfl, rfl, rfl, rfl, rfl, rfl, rfl, rfl, rfl, rfl⟩ R1.out
theorem fy_r4 {K : Act → World → Prop} {c : Code} (hc : regOf (Try.f4.body.getD .skip) 4 = some c) (a : Act) {v : Vfy} {wq : World} {R : Option Addr → Nat → Option Addr → Nat → World → Prop} {s : ByteArray} {m k : Nat} {num z : Int} (hF : Ffy a v) (h2v : v.v2 = .string s) (hE : Calls Try.prog 19 #[.string s] wq fun e w' => ∃ (ro : Option Addr) (rc : Nat) (to' : Option Addr) (tc : Nat), e = .returned (.tuple #[.agg #[.int .i64 num, .slice ro m rc], .slice to' k tc, .int .i64 z]) ∧ R ro rc to' tc w')
    (hQ : ∀ a' w1 ro rc to' tc, Ffy a' { v with v14 := .pointer (some ⟨w1.heap.size, 0, none⟩), v15 := .slice to' k tc, v16 := .int .i64 z } → R ro rc to' tc w1 → K a' (w1.alloc (.cells #[.int .i64 num, .slice ro m rc] tView))) :
    Code.wp Try.prog c (Exit.then K fun _ _ _ => False) a wq := by
  have HQ := hide hQ
  clear hQ
  obtain ⟨v0, v1, v2, v3, v4, v8, v9, v10, v11, v12, v13, v14, v15, v16, v17, v18, v19, v20, v21, v22, v23, v24, v25⟩ := v
  simp only at h2v HQ
  subst h2v
  obtain ⟨u, rfl⟩ := frx_fy hF
  clear hF
  simp only [Try.f4, Option.getD_some, regOf] at hc
  injection hc with hc
  subst hc
  have HE := hide hE
  clear hE
  go_wp2_with (go_at_call 19; refine HE.out.mono ?_; rintro e w1 ⟨ro, rc, to', tc, rfl, r1⟩; have R1 := hide r1; clear r1)
  exact HQ.out _ _ _ _ _ _ ⟨rfl, rfl, rfl, rfl, rfl, rfl, rfl, rfl, rfl, rfl, rfl, rfl, rfl, rfl, rfl, rfl, rfl, rfl, rfl, rfl, rfl, rfl, rfl, rfl, rfl⟩ R1.out
theorem fy_r5 {K : Act → World → Prop} {c : Code} (hc : regOf (Try.f4.body.getD .skip) 5 = some c) (a : Act) {v : Vfy} {wq : World} {R : Option Addr → Nat → Option Addr → Nat → World → Prop} {s : ByteArray} {m k : Nat} {num z : Int} (hF : Ffy a v) (h2v : v.v2 = .string s) (hE : Calls Try.prog 20 #[.string s] wq fun e w' => ∃ (ro : Option Addr) (rc : Nat) (to' : Option Addr) (tc : Nat), e = .returned (.tuple #[.agg #[.int .i64 num, .slice ro m rc], .slice to' k tc, .int .i64 z]) ∧ R ro rc to' tc w')
    (hQ : ∀ a' w1 ro rc to' tc, Ffy a' { v with v17 := .pointer (some ⟨w1.heap.size, 0, none⟩), v18 := .slice to' k tc, v19 := .int .i64 z } → R ro rc to' tc w1 → K a' (w1.alloc (.cells #[.int .i64 num, .slice ro m rc] tView))) :
    Code.wp Try.prog c (Exit.then K fun _ _ _ => False) a wq := by
  have HQ := hide hQ
  clear hQ
  obtain ⟨v0, v1, v2, v3, v4, v8, v9, v10, v11, v12, v13, v14, v15, v16, v17, v18, v19, v20, v21, v22, v23, v24, v25⟩ := v
  simp only at h2v HQ
  subst h2v
  obtain ⟨u, rfl⟩ := frx_fy hF
  clear hF
  simp only [Try.f4, Option.getD_some, regOf] at hc
  injection hc with hc
  subst hc
  have HE := hide hE
  clear hE
  go_wp2_with (go_at_call 20; refine HE.out.mono ?_; rintro e w1 ⟨ro, rc, to', tc, rfl, r1⟩; have R1 := hide r1; clear r1)
  exact HQ.out _ _ _ _ _ _ ⟨rfl, rfl, rfl, rfl, rfl, rfl, rfl, rfl, rfl, rfl, rfl, rfl, rfl, rfl, rfl, rfl, rfl, rfl, rfl, rfl, rfl, rfl, rfl, rfl, rfl⟩ R1.out
theorem fy_r6 {K : Act → World → Prop} {c : Code} (hc : regOf (Try.f4.body.getD .skip) 6 = some c) (a : Act) {v : Vfy} {wq : World} {R : World → Prop} {vb n cp : Nat} {num : Int} {ao : Option Addr} {lo : Option Addr} {ln lc : Nat} {s : ByteArray} {z : Int} (hF : Ffy a v) (h4v : v.v4 = .pointer (some ⟨vb, 0, none⟩)) (h3v : v.v3 = .slice lo ln lc) (hV : wq.heap[vb]? = some (.cells #[.int .i64 num, .slice ao n cp] tView (0, 0))) (hE : Calls Try.prog 21 #[.agg #[.int .i64 num, .slice ao n cp], .slice lo ln lc] wq fun e w' => e = .returned (.tuple #[.string s, .int .i64 z]) ∧ R w')
    (hQ : ∀ a' w1, Ffy a' { v with v20 := .string s, v21 := .int .i64 z } → R w1 → K a' w1) :
    Code.wp Try.prog c (Exit.then K fun _ _ _ => False) a wq := by
  have HQ := hide hQ
  clear hQ
  obtain ⟨v0, v1, v2, v3, v4, v8, v9, v10, v11, v12, v13, v14, v15, v16, v17, v18, v19, v20, v21, v22, v23, v24, v25⟩ := v
  simp only at h4v h3v HQ
  subst h4v h3v
  obtain ⟨u, rfl⟩ := frx_fy hF
  clear hF
  simp only [Try.f4, Option.getD_some, regOf] at hc
  injection hc with hc
  subst hc
  have HE := hide hE
  clear hE
  have z0 := box_cell hV 0 rfl
  have z1 := box_cell hV 1 rfl
  clear hV
  go_wp2_with (go_at_call 21; refine HE.out.mono ?_; rintro e w1 ⟨rfl, r1⟩; have R1 := hide r1; clear r1)
  exact HQ.out _ _ ⟨rfl, rfl, rfl, rfl, rfl, rfl, rfl, rfl, rfl, rfl, rfl, rfl, rfl, rfl, rfl, rfl, rfl, rfl, rfl, rfl, rfl, rfl, rfl, rfl, rfl⟩ R1.out
theorem fy_r7 {K : Act → World → Prop} {c : Code} (hc : regOf (Try.f4.body.getD .skip) 7 = some c) (a : Act) {v : Vfy} {wq : World} {R : World → Prop} {vb n cp : Nat} {num : Int} {ao : Option Addr} {lo : Option Addr} {ln lc : Nat} {s : ByteArray} {z : Int} (hF : Ffy a v) (h4v : v.v4 = .pointer (some ⟨vb, 0, none⟩)) (h3v : v.v3 = .slice lo ln lc) (hV : wq.heap[vb]? = some (.cells #[.int .i64 num, .slice ao n cp] tView (0, 0))) (hE : Calls Try.prog 22 #[.agg #[.int .i64 num, .slice ao n cp], .slice lo ln lc] wq fun e w' => e = .returned (.tuple #[.string s, .int .i64 z]) ∧ R w')
    (hQ : ∀ a' w1, Ffy a' { v with v22 := .string s, v23 := .int .i64 z } → R w1 → K a' w1) :
    Code.wp Try.prog c (Exit.then K fun _ _ _ => False) a wq := by
  have HQ := hide hQ
  clear hQ
  obtain ⟨v0, v1, v2, v3, v4, v8, v9, v10, v11, v12, v13, v14, v15, v16, v17, v18, v19, v20, v21, v22, v23, v24, v25⟩ := v
  simp only at h4v h3v HQ
  subst h4v h3v
  obtain ⟨u, rfl⟩ := frx_fy hF
  clear hF
  simp only [Try.f4, Option.getD_some, regOf] at hc
  injection hc with hc
  subst hc
  have HE := hide hE
  clear hE
  have z0 := box_cell hV 0 rfl
  have z1 := box_cell hV 1 rfl
  clear hV
  go_wp2_with (go_at_call 22; refine HE.out.mono ?_; rintro e w1 ⟨rfl, r1⟩; have R1 := hide r1; clear r1)
  exact HQ.out _ _ ⟨rfl, rfl, rfl, rfl, rfl, rfl, rfl, rfl, rfl, rfl, rfl, rfl, rfl, rfl, rfl, rfl, rfl, rfl, rfl, rfl, rfl, rfl, rfl, rfl, rfl⟩ R1.out
theorem fy_r8 {K : Act → World → Prop} {c : Code} (hc : regOf (Try.f4.body.getD .skip) 8 = some c) (a : Act) {v : Vfy} {wq : World} {R : World → Prop} {vb n cp : Nat} {num : Int} {ao : Option Addr} {ub cq : Nat} {bo : Option Addr} (hF : Ffy a v) (h14v : v.v14 = .pointer (some ⟨vb, 0, none⟩)) (h17v : v.v17 = .pointer (some ⟨ub, 0, none⟩)) (hV : wq.heap[vb]? = some (.cells #[.int .i64 num, .slice ao n cp] tView (0, 0))) (hU : wq.heap[ub]? = some (.cells #[.int .i64 num, .slice bo n cq] tView (0, 0))) (hE : Calls Try.prog 23 #[.agg #[.int .i64 num, .slice ao n cp], .agg #[.int .i64 num, .slice bo n cq]] wq fun e w' => e = .returned (.bool true) ∧ R w')
    (hQ : ∀ a' w1, Ffy a' { v with v24 := .bool true } → R w1 → K a' w1) :
    Code.wp Try.prog c (Exit.then K fun _ _ _ => False) a wq := by
  have HQ := hide hQ
  clear hQ
  obtain ⟨v0, v1, v2, v3, v4, v8, v9, v10, v11, v12, v13, v14, v15, v16, v17, v18, v19, v20, v21, v22, v23, v24, v25⟩ := v
  simp only at h14v h17v HQ
  subst h14v h17v
  obtain ⟨u, rfl⟩ := frx_fy hF
  clear hF
  simp only [Try.f4, Option.getD_some, regOf] at hc
  injection hc with hc
  subst hc
  have HE := hide hE
  clear hE
  have z0 := box_cell hV 0 rfl
  have z1 := box_cell hV 1 rfl
  clear hV
  have y0 := box_cell hU 0 rfl
  have y1 := box_cell hU 1 rfl
  clear hU
  go_wp2_with (go_at_call 23; refine HE.out.mono ?_; rintro e w1 ⟨rfl, r1⟩; have R1 := hide r1; clear r1)
  exact HQ.out _ _ ⟨rfl, rfl, rfl, rfl, rfl, rfl, rfl, rfl, rfl, rfl, rfl, rfl, rfl, rfl, rfl, rfl, rfl, rfl, rfl, rfl, rfl, rfl, rfl, rfl, rfl⟩ R1.out
theorem fy_r9 {K : Act → World → Prop} {c : Code} (hc : regOf (Try.f4.body.getD .skip) 9 = some c) (a : Act) {v : Vfy} {wq : World} {R : World → Prop} {lo mo : Option Addr} {ln lc mc : Nat} (hF : Ffy a v) (h15v : v.v15 = .slice lo ln lc) (h18v : v.v18 = .slice mo ln mc) (hE : Calls Try.prog 12 #[.slice lo ln lc, .slice mo ln mc] wq fun e w' => e = .returned (.bool true) ∧ R w')
    (hQ : ∀ a' w1, Ffy a' { v with v25 := .bool true } → R w1 → K a' w1) :
    Code.wp Try.prog c (Exit.then K fun _ _ _ => False) a wq := by
  have HQ := hide hQ
  clear hQ
  obtain ⟨v0, v1, v2, v3, v4, v8, v9, v10, v11, v12, v13, v14, v15, v16, v17, v18, v19, v20, v21, v22, v23, v24, v25⟩ := v
  simp only at h15v h18v HQ
  subst h15v h18v
  obtain ⟨u, rfl⟩ := frx_fy hF
  clear hF
  simp only [Try.f4, Option.getD_some, regOf] at hc
  injection hc with hc
  subst hc
  have HE := hide hE
  clear hE
  go_wp2_with (go_at_call 12; refine HE.out.mono ?_; rintro e w1 ⟨rfl, r1⟩; have R1 := hide r1; clear r1)
  exact HQ.out _ _ ⟨rfl, rfl, rfl, rfl, rfl, rfl, rfl, rfl, rfl, rfl, rfl, rfl, rfl, rfl, rfl, rfl, rfl, rfl, rfl, rfl, rfl, rfl, rfl, rfl, rfl⟩ R1.out
theorem fy_r10 {K : Act → World → Prop} {c : Code} (hc : regOf (Try.f4.body.getD .skip) 10 = some c) (a : Act) {v : Vfy} {wq : World} {s t : ByteArray} {x y z : Int} (hF : Ffy a v) (h9v : v.v9 = .bool true) (h10v : v.v10 = .string s) (h12v : v.v12 = .string s) (h11v : v.v11 = .int .i64 x) (h13v : v.v13 = .int .i64 x) (h24v : v.v24 = .bool true) (h25v : v.v25 = .bool true) (h16v : v.v16 = .int .i64 y) (h19v : v.v19 = .int .i64 y) (h20v : v.v20 = .string t) (h22v : v.v22 = .string t) (h21v : v.v21 = .int .i64 z) (h23v : v.v23 = .int .i64 z) (hQ : ∀ a', Ffy a' { v with v8 := .bool true } → K a' wq) :
    Code.wp Try.prog c (Exit.then K fun _ _ _ => False) a wq := by
  have HQ := hide hQ
  clear hQ
  obtain ⟨v0, v1, v2, v3, v4, v8, v9, v10, v11, v12, v13, v14, v15, v16, v17, v18, v19, v20, v21, v22, v23, v24, v25⟩ := v
  simp only at h9v h10v h12v h11v h13v h24v h25v h16v h19v h20v h22v h21v h23v HQ
  subst h9v h10v h12v h11v h13v h24v h25v h16v h19v h20v h22v h21v h23v
  obtain ⟨u, rfl⟩ := frx_fy hF
  clear hF
  simp only [Try.f4, Option.getD_some, regOf] at hc
  injection hc with hc
  subst hc
  go_wp2
  exact HQ.out _ ⟨rfl, rfl, rfl, rfl, rfl, rfl, rfl, rfl, rfl, rfl, rfl, rfl, rfl, rfl, rfl, rfl, rfl, rfl, rfl, rfl, rfl, rfl, rfl, rfl, rfl⟩
theorem fy_ret {W : World} {a : Act} {v : Vfy} {x : Bool} {R : Ending → World → Prop} (hF : Ffy a v) (h2 : v.v8 = .bool x) (h : R (.returned (.bool x)) W) : bodyPost Try.prog Try.f4 R .ret a W := by
  have g0 := slot_get (hF.s8.trans h2)
  refine bodyPost_ret (v := .bool x) ?_ hF.defers h
  simp [results, Try.results4, go_sem, g0]
end Go.Proofs.Ytfcpclpaalekiaa
namespace Go.Proofs.Ytfcpclpaalekiaa
open Go.RowKit
attribute [local go_sem ↓] Go.wp_at_zero Go.wp_at_succ
set_option linter.unusedSimpArgs false
set_option linter.unusedVariables false
structure Vfw where
  v0 : Value
  v1 : Value
  v2 : Value
  v4 : Value
  v5 : Value
  v6 : Value
  v7 : Value
  v8 : Value
  v9 : Value
  v10 : Value
  v11 : Value
  v12 : Value
  v13 : Value
  v14 : Value
  v15 : Value
  v16 : Value
structure Ffw (a : Act) (v : Vfw) : Prop where
  size : a.tmps.size = 87
  defers : a.defers = []
  s0 : a.tmps.getD 0 undef = v.v0
  s1 : a.tmps.getD 1 undef = v.v1
  s2 : a.tmps.getD 2 undef = v.v2
  s4 : a.tmps.getD 4 undef = v.v4
  s5 : a.tmps.getD 5 undef = v.v5
  s6 : a.tmps.getD 6 undef = v.v6
  s7 : a.tmps.getD 7 undef = v.v7
  s8 : a.tmps.getD 8 undef = v.v8
  s9 : a.tmps.getD 9 undef = v.v9
  s10 : a.tmps.getD 10 undef = v.v10
  s11 : a.tmps.getD 11 undef = v.v11
  s12 : a.tmps.getD 12 undef = v.v12
  s13 : a.tmps.getD 13 undef = v.v13
  s14 : a.tmps.getD 14 undef = v.v14
  s15 : a.tmps.getD 15 undef = v.v15
  s16 : a.tmps.getD 16 undef = v.v16
end Go.Proofs.Ytfcpclpaalekiaa
namespace Go.Proofs.Ytfcpclpaalekiaa
open Go.RowKit
attribute [local go_sem ↓] Go.wp_at_zero Go.wp_at_succ
set_option linter.unusedSimpArgs false
set_option linter.unusedVariables false
theorem fdecode_says (t : ByteArray) (w : World) (hs : t.size ≤ 9223372036854775807) {r : VW × List ByteArray × Int} (hr : decL t.data.toList = r) :
    Calls Try.prog 19 #[.string t] w fun e w' => ∃ (ro : Option Addr) (rc : Nat) (to' : Option Addr) (tc : Nat), e = .returned (.tuple #[.agg #[.int .i64 r.1.num, .slice ro r.1.mem.length rc], .slice to' r.2.1.length tc, .int .i64 r.2.2]) ∧ (MemsAt w' ro r.1.mem ∧ TextsAt w' to' r.2.1 ∧ Below w.heap.size w w') := by
  subst hr
  exact (fdecode t w hs).mono fun e w' ⟨⟨ro, rc, to', tc, h1, h2, h3⟩, h4⟩ => ⟨ro, rc, to', tc, h1, mems_of_row h2 rfl, texts_own h3, h4⟩
end Go.Proofs.Ytfcpclpaalekiaa
