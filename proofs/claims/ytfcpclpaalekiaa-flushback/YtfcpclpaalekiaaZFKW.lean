/-
  FlushBack: the walk (mkfo.py).
-/
import Derived.Test.YtfcpclpaalekiaaZPhiG
import Derived.Laws.StructEq
namespace Go.Proofs.Ytfcpclpaalekiaa
open Go.RowKit
set_option maxHeartbeats 8000000
set_option maxRecDepth 100000
attribute [local go_sem ↓] Go.wp_at_zero Go.wp_at_succ
set_option linter.unusedSimpArgs false
set_option linter.unusedVariables false
theorem frame_fk (t : Array Value) (h : t.size = 90) : ∃ u : Nat → Value, t = List.toArray (u 0 :: u 1 :: u 2 :: u 3 :: u 4 :: u 5 :: u 6 :: u 7 :: u 8 :: u 9 :: u 10 :: u 11 :: u 12 :: u 13 :: u 14 :: u 15 :: u 16 :: u 17 :: u 18 :: u 19 :: u 20 :: u 21 :: u 22 :: u 23 :: u 24 :: u 25 :: u 26 :: u 27 :: u 28 :: u 29 :: u 30 :: u 31 :: u 32 :: u 33 :: u 34 :: u 35 :: u 36 :: u 37 :: u 38 :: u 39 :: u 40 :: u 41 :: u 42 :: u 43 :: u 44 :: u 45 :: u 46 :: u 47 :: u 48 :: u 49 :: u 50 :: u 51 :: u 52 :: u 53 :: u 54 :: u 55 :: u 56 :: u 57 :: u 58 :: u 59 :: u 60 :: u 61 :: u 62 :: u 63 :: u 64 :: u 65 :: u 66 :: u 67 :: u 68 :: u 69 :: u 70 :: u 71 :: u 72 :: u 73 :: u 74 :: u 75 :: u 76 :: u 77 :: u 78 :: u 79 :: u 80 :: u 81 :: u 82 :: u 83 :: u 84 :: u 85 :: u 86 :: u 87 :: u 88 :: u 89 :: []) := by
  refine ⟨fun i => t.getD i undef, ?_⟩
  refine Eq.trans (b := ((List.range 90).map fun i => t.getD i undef).toArray) ?_ rfl
  apply Array.ext
  · simp [h]
  · intro k h1 h2
    simp [Array.getD, h1]
structure Vfk where
  v0 : Value
  v1 : Value
  v2 : Value
  v3 : Value
  v6 : Value
  v7 : Value
  v8 : Value
  v9 : Value
  v10 : Value
  v11 : Value
  v12 : Value
  v13 : Value
  v14 : Value
  v15 : Value
  v16 : Value
  v17 : Value
  v18 : Value
  v19 : Value
structure Ffk (a : Act) (v : Vfk) : Prop where
  size : a.tmps.size = 90
  defers : a.defers = []
  s0 : a.tmps.getD 0 undef = v.v0
  s1 : a.tmps.getD 1 undef = v.v1
  s2 : a.tmps.getD 2 undef = v.v2
  s3 : a.tmps.getD 3 undef = v.v3
  s6 : a.tmps.getD 6 undef = v.v6
  s7 : a.tmps.getD 7 undef = v.v7
  s8 : a.tmps.getD 8 undef = v.v8
  s9 : a.tmps.getD 9 undef = v.v9
  s10 : a.tmps.getD 10 undef = v.v10
  s11 : a.tmps.getD 11 undef = v.v11
  s12 : a.tmps.getD 12 undef = v.v12
  s13 : a.tmps.getD 13 undef = v.v13
  s14 : a.tmps.getD 14 undef = v.v14
  s15 : a.tmps.getD 15 undef = v.v15
  s16 : a.tmps.getD 16 undef = v.v16
  s17 : a.tmps.getD 17 undef = v.v17
  s18 : a.tmps.getD 18 undef = v.v18
  s19 : a.tmps.getD 19 undef = v.v19
theorem frx_fk {a : Act} {v0 v1 v2 v3 v6 v7 v8 v9 v10 v11 v12 v13 v14 v15 v16 v17 v18 v19 : Value} (h : Ffk a ⟨v0, v1, v2, v3, v6, v7, v8, v9, v10, v11, v12, v13, v14, v15, v16, v17, v18, v19⟩) : ∃ u : Nat → Value, a = ⟨List.toArray (v0 :: v1 :: v2 :: v3 :: u 4 :: u 5 :: v6 :: v7 :: v8 :: v9 :: v10 :: v11 :: v12 :: v13 :: v14 :: v15 :: v16 :: v17 :: v18 :: v19 :: u 20 :: u 21 :: u 22 :: u 23 :: u 24 :: u 25 :: u 26 :: u 27 :: u 28 :: u 29 :: u 30 :: u 31 :: u 32 :: u 33 :: u 34 :: u 35 :: u 36 :: u 37 :: u 38 :: u 39 :: u 40 :: u 41 :: u 42 :: u 43 :: u 44 :: u 45 :: u 46 :: u 47 :: u 48 :: u 49 :: u 50 :: u 51 :: u 52 :: u 53 :: u 54 :: u 55 :: u 56 :: u 57 :: u 58 :: u 59 :: u 60 :: u 61 :: u 62 :: u 63 :: u 64 :: u 65 :: u 66 :: u 67 :: u 68 :: u 69 :: u 70 :: u 71 :: u 72 :: u 73 :: u 74 :: u 75 :: u 76 :: u 77 :: u 78 :: u 79 :: u 80 :: u 81 :: u 82 :: u 83 :: u 84 :: u 85 :: u 86 :: u 87 :: u 88 :: u 89 :: []), []⟩ := by
  obtain ⟨t', d'⟩ := a
  obtain ⟨hs, hd, q0, q1, q2, q3, q6, q7, q8, q9, q10, q11, q12, q13, q14, q15, q16, q17, q18, q19⟩ := h
  obtain ⟨u, hu⟩ := frame_fk t' hs
  simp only at hd q0 q1 q2 q3 q6 q7 q8 q9 q10 q11 q12 q13 q14 q15 q16 q17 q18 q19
  subst hu hd
  have e0 : u 0 = v0 := q0
  have e1 : u 1 = v1 := q1
  have e2 : u 2 = v2 := q2
  have e3 : u 3 = v3 := q3
  have e6 : u 6 = v6 := q6
  have e7 : u 7 = v7 := q7
  have e8 : u 8 = v8 := q8
  have e9 : u 9 = v9 := q9
  have e10 : u 10 = v10 := q10
  have e11 : u 11 = v11 := q11
  have e12 : u 12 = v12 := q12
  have e13 : u 13 = v13 := q13
  have e14 : u 14 = v14 := q14
  have e15 : u 15 = v15 := q15
  have e16 : u 16 = v16 := q16
  have e17 : u 17 = v17 := q17
  have e18 : u 18 = v18 := q18
  have e19 : u 19 = v19 := q19
  refine ⟨u, ?_⟩
  rw [e0, e1, e2, e3, e6, e7, e8, e9, e10, e11, e12, e13, e14, e15, e16, e17, e18, e19]
theorem fk_r0 {K : Act → World → Prop} {c : Code} (hc : regOf (Try.f5.body.getD .skip) 0 = some c) (a : Act) {v : Vfk} {wq : World} {n cp : Nat} {num : Int} {ao : Option Addr} (hF : Ffk a v) (h0v : v.v0 = .agg #[.int .i64 num, .slice ao n cp]) (hQ : ∀ a', Ffk a' { v with v3 := .pointer (some ⟨wq.heap.size, 0, none⟩), v6 := .bool false } → K a' (wq.alloc (.cells #[.int .i64 num, .slice ao n cp] tView))) :
    Code.wp Try.prog c (Exit.then K fun _ _ _ => False) a wq := by
  have HQ := hide hQ
  clear hQ
  obtain ⟨v0, v1, v2, v3, v6, v7, v8, v9, v10, v11, v12, v13, v14, v15, v16, v17, v18, v19⟩ := v
  simp only at h0v HQ
  subst h0v
  obtain ⟨u, rfl⟩ := frx_fk hF
  clear hF
  simp only [Try.f5, Option.getD_some, regOf] at hc
  injection hc with hc
  subst hc
  go_wp2
  exact HQ.out _ ⟨rfl, rfl, rfl, rfl, rfl, rfl, rfl, rfl, rfl, rfl, rfl, rfl, rfl, rfl, rfl, rfl, rfl, rfl, rfl, rfl⟩
theorem fk_r1 {K : Act → World → Prop} {c : Code} (hc : regOf (Try.f5.body.getD .skip) 1 = some c) (a : Act) {v : Vfk} {wq : World} {R : World → Prop}  (hF : Ffk a v) (hE : Calls Try.prog 9 #[] wq fun e w' => e = .returned (.bool true) ∧ R w')
    (hQ : ∀ a' w1, Ffk a' { v with v7 := .bool true } → R w1 → K a' w1) :
    Code.wp Try.prog c (Exit.then K fun _ _ _ => False) a wq := by
  have HQ := hide hQ
  clear hQ
  obtain ⟨v0, v1, v2, v3, v6, v7, v8, v9, v10, v11, v12, v13, v14, v15, v16, v17, v18, v19⟩ := v
  obtain ⟨u, rfl⟩ := frx_fk hF
  clear hF
  simp only [Try.f5, Option.getD_some, regOf] at hc
  injection hc with hc
  subst hc
  have HE := hide hE
  clear hE
  go_wp2_with (go_at_call 9; refine HE.out.mono ?_; rintro e w1 ⟨rfl, r1⟩; have R1 := hide r1; clear r1)
  exact HQ.out _ _ ⟨rfl, rfl, rfl, rfl, rfl, rfl, rfl, rfl, rfl, rfl, rfl, rfl, rfl, rfl, rfl, rfl, rfl, rfl, rfl, rfl⟩ R1.out
theorem fk_r2 {K : Act → World → Prop} {c : Code} (hc : regOf (Try.f5.body.getD .skip) 2 = some c) (a : Act) {v : Vfk} {wq : World} {R : World → Prop} {vb n cp : Nat} {num : Int} {ao : Option Addr} {lo : Option Addr} {ln lc : Nat} {s : ByteArray} {z : Int} (hF : Ffk a v) (h3v : v.v3 = .pointer (some ⟨vb, 0, none⟩)) (h1v : v.v1 = .slice lo ln lc) (hV : wq.heap[vb]? = some (.cells #[.int .i64 num, .slice ao n cp] tView (0, 0))) (hE : Calls Try.prog 17 #[.agg #[.int .i64 num, .slice ao n cp], .slice lo ln lc] wq fun e w' => e = .returned (.tuple #[.string s, .int .i64 z]) ∧ R w')
    (hQ : ∀ a' w1, Ffk a' { v with v8 := .string s, v9 := .int .i64 z } → R w1 → K a' w1) :
    Code.wp Try.prog c (Exit.then K fun _ _ _ => False) a wq := by
  have HQ := hide hQ
  clear hQ
  obtain ⟨v0, v1, v2, v3, v6, v7, v8, v9, v10, v11, v12, v13, v14, v15, v16, v17, v18, v19⟩ := v
  simp only at h3v h1v HQ
  subst h3v h1v
  obtain ⟨u, rfl⟩ := frx_fk hF
  clear hF
  simp only [Try.f5, Option.getD_some, regOf] at hc
  injection hc with hc
  subst hc
  have HE := hide hE
  clear hE
  have z0 := box_cell hV 0 rfl
  have z1 := box_cell hV 1 rfl
  clear hV
  go_wp2_with (go_at_call 17; refine HE.out.mono ?_; rintro e w1 ⟨rfl, r1⟩; have R1 := hide r1; clear r1)
  exact HQ.out _ _ ⟨rfl, rfl, rfl, rfl, rfl, rfl, rfl, rfl, rfl, rfl, rfl, rfl, rfl, rfl, rfl, rfl, rfl, rfl, rfl, rfl⟩ R1.out
theorem fk_r3y {K : Act → World → Prop} {c : Code} (hc : regOf (Try.f5.body.getD .skip) 3 = some c) (a : Act) {v : Vfk} {wq : World}  (hF : Ffk a v) (h9v : v.v9 = .int .i64 0) (hQ : ∀ a', Ffk a' v → a'.tmps.getD 28 undef = .bool true → K a' wq) :
    Code.wp Try.prog c (Exit.then K fun _ _ _ => False) a wq := by
  have HQ := hide hQ
  clear hQ
  obtain ⟨v0, v1, v2, v3, v6, v7, v8, v9, v10, v11, v12, v13, v14, v15, v16, v17, v18, v19⟩ := v
  simp only at h9v HQ
  subst h9v
  obtain ⟨u, rfl⟩ := frx_fk hF
  clear hF
  simp only [Try.f5, Option.getD_some, regOf] at hc
  injection hc with hc
  subst hc
  go_wp2
  exact HQ.out _ ⟨rfl, rfl, rfl, rfl, rfl, rfl, rfl, rfl, rfl, rfl, rfl, rfl, rfl, rfl, rfl, rfl, rfl, rfl, rfl, rfl⟩ (by first | rfl | (simp; done))
theorem fk_r3n {K : Act → World → Prop} {c : Code} (hc : regOf (Try.f5.body.getD .skip) 3 = some c) (a : Act) {v : Vfk} {wq : World} {z : Int} (hF : Ffk a v) (h9v : v.v9 = .int .i64 z) (hz : z ≠ 0) (hQ : ∀ a', Ffk a' v → a'.tmps.getD 28 undef = .bool false → K a' wq) :
    Code.wp Try.prog c (Exit.then K fun _ _ _ => False) a wq := by
  have HQ := hide hQ
  clear hQ
  obtain ⟨v0, v1, v2, v3, v6, v7, v8, v9, v10, v11, v12, v13, v14, v15, v16, v17, v18, v19⟩ := v
  simp only at h9v HQ
  subst h9v
  obtain ⟨u, rfl⟩ := frx_fk hF
  clear hF
  simp only [Try.f5, Option.getD_some, regOf] at hc
  injection hc with hc
  subst hc
  have hd : (z == 0) = false := by simp [hz]
  go_wp2
  exact HQ.out _ ⟨rfl, rfl, rfl, rfl, rfl, rfl, rfl, rfl, rfl, rfl, rfl, rfl, rfl, rfl, rfl, rfl, rfl, rfl, rfl, rfl⟩ (by first | rfl | (simp; done))
theorem fk_r4 {K : Act → World → Prop} {c : Code} (hc : regOf (Try.f5.body.getD .skip) 4 = some c) (a : Act) {v : Vfk} {wq : World} {R : Option Addr → Nat → Option Addr → Nat → World → Prop} {s : ByteArray} {m k : Nat} {num z : Int} (hF : Ffk a v) (h8v : v.v8 = .string s) (hE : Calls Try.prog 19 #[.string s] wq fun e w' => ∃ (ro : Option Addr) (rc : Nat) (to' : Option Addr) (tc : Nat), e = .returned (.tuple #[.agg #[.int .i64 num, .slice ro m rc], .slice to' k tc, .int .i64 z]) ∧ R ro rc to' tc w')
    (hQ : ∀ a' w1 ro rc to' tc, Ffk a' { v with v10 := .pointer (some ⟨w1.heap.size, 0, none⟩), v11 := .slice to' k tc, v12 := .int .i64 z } → R ro rc to' tc w1 → K a' (w1.alloc (.cells #[.int .i64 num, .slice ro m rc] tView))) :
    Code.wp Try.prog c (Exit.then K fun _ _ _ => False) a wq := by
  have HQ := hide hQ
  clear hQ
  obtain ⟨v0, v1, v2, v3, v6, v7, v8, v9, v10, v11, v12, v13, v14, v15, v16, v17, v18, v19⟩ := v
  simp only at h8v HQ
  subst h8v
  obtain ⟨u, rfl⟩ := frx_fk hF
  clear hF
  simp only [Try.f5, Option.getD_some, regOf] at hc
  injection hc with hc
  subst hc
  have HE := hide hE
  clear hE
  go_wp2_with (go_at_call 19; refine HE.out.mono ?_; rintro e w1 ⟨ro, rc, to', tc, rfl, r1⟩; have R1 := hide r1; clear r1)
  exact HQ.out _ _ _ _ _ _ ⟨rfl, rfl, rfl, rfl, rfl, rfl, rfl, rfl, rfl, rfl, rfl, rfl, rfl, rfl, rfl, rfl, rfl, rfl, rfl, rfl⟩ R1.out
theorem fk_r5 {K : Act → World → Prop} {c : Code} (hc : regOf (Try.f5.body.getD .skip) 5 = some c) (a : Act) {v : Vfk} {wq : World} {R : World → Prop} {vb n cp : Nat} {num : Int} {ao : Option Addr} {ub cq : Nat} {bo : Option Addr} (hF : Ffk a v) (h10v : v.v10 = .pointer (some ⟨vb, 0, none⟩)) (h3v : v.v3 = .pointer (some ⟨ub, 0, none⟩)) (hV : wq.heap[vb]? = some (.cells #[.int .i64 num, .slice ao n cp] tView (0, 0))) (hU : wq.heap[ub]? = some (.cells #[.int .i64 num, .slice bo n cq] tView (0, 0))) (hE : Calls Try.prog 23 #[.agg #[.int .i64 num, .slice ao n cp], .agg #[.int .i64 num, .slice bo n cq]] wq fun e w' => e = .returned (.bool true) ∧ R w')
    (hQ : ∀ a' w1, Ffk a' { v with v13 := .bool true } → R w1 → K a' w1) :
    Code.wp Try.prog c (Exit.then K fun _ _ _ => False) a wq := by
  have HQ := hide hQ
  clear hQ
  obtain ⟨v0, v1, v2, v3, v6, v7, v8, v9, v10, v11, v12, v13, v14, v15, v16, v17, v18, v19⟩ := v
  simp only at h10v h3v HQ
  subst h10v h3v
  obtain ⟨u, rfl⟩ := frx_fk hF
  clear hF
  simp only [Try.f5, Option.getD_some, regOf] at hc
  injection hc with hc
  subst hc
  have HE := hide hE
  clear hE
  have z0 := box_cell hV 0 rfl
  have z1 := box_cell hV 1 rfl
  clear hV
  have y0 := box_cell hU 0 rfl
  have y1 := box_cell hU 1 rfl
  clear hU
  go_wp2_with (go_at_call 23; refine HE.out.mono ?_; rintro e w1 ⟨rfl, r1⟩; have R1 := hide r1; clear r1)
  exact HQ.out _ _ ⟨rfl, rfl, rfl, rfl, rfl, rfl, rfl, rfl, rfl, rfl, rfl, rfl, rfl, rfl, rfl, rfl, rfl, rfl, rfl, rfl⟩ R1.out
theorem fk_r6 {K : Act → World → Prop} {c : Code} (hc : regOf (Try.f5.body.getD .skip) 6 = some c) (a : Act) {v : Vfk} {wq : World} {R : World → Prop} {lo mo : Option Addr} {ln lc mc : Nat} (hF : Ffk a v) (h11v : v.v11 = .slice lo ln lc) (h1v : v.v1 = .slice mo ln mc) (hE : Calls Try.prog 12 #[.slice lo ln lc, .slice mo ln mc] wq fun e w' => e = .returned (.bool true) ∧ R w')
    (hQ : ∀ a' w1, Ffk a' { v with v14 := .bool true } → R w1 → K a' w1) :
    Code.wp Try.prog c (Exit.then K fun _ _ _ => False) a wq := by
  have HQ := hide hQ
  clear hQ
  obtain ⟨v0, v1, v2, v3, v6, v7, v8, v9, v10, v11, v12, v13, v14, v15, v16, v17, v18, v19⟩ := v
  simp only at h11v h1v HQ
  subst h11v h1v
  obtain ⟨u, rfl⟩ := frx_fk hF
  clear hF
  simp only [Try.f5, Option.getD_some, regOf] at hc
  injection hc with hc
  subst hc
  have HE := hide hE
  clear hE
  go_wp2_with (go_at_call 12; refine HE.out.mono ?_; rintro e w1 ⟨rfl, r1⟩; have R1 := hide r1; clear r1)
  exact HQ.out _ _ ⟨rfl, rfl, rfl, rfl, rfl, rfl, rfl, rfl, rfl, rfl, rfl, rfl, rfl, rfl, rfl, rfl, rfl, rfl, rfl, rfl⟩ R1.out
theorem fk_r7 {K : Act → World → Prop} {c : Code} (hc : regOf (Try.f5.body.getD .skip) 7 = some c) (a : Act) {v : Vfk} {wq : World}  (hF : Ffk a v) (h13v : v.v13 = .bool true) (h14v : v.v14 = .bool true) (h12v : v.v12 = .int .i64 0) (hQ : ∀ a', Ffk a' v → a'.tmps.getD 50 undef = .bool false → K a' wq) :
    Code.wp Try.prog c (Exit.then K fun _ _ _ => False) a wq := by
  have HQ := hide hQ
  clear hQ
  obtain ⟨v0, v1, v2, v3, v6, v7, v8, v9, v10, v11, v12, v13, v14, v15, v16, v17, v18, v19⟩ := v
  simp only at h13v h14v h12v HQ
  subst h13v h14v h12v
  obtain ⟨u, rfl⟩ := frx_fk hF
  clear hF
  simp only [Try.f5, Option.getD_some, regOf] at hc
  injection hc with hc
  subst hc
  go_wp2
  exact HQ.out _ ⟨rfl, rfl, rfl, rfl, rfl, rfl, rfl, rfl, rfl, rfl, rfl, rfl, rfl, rfl, rfl, rfl, rfl, rfl, rfl, rfl⟩ (by first | rfl | (simp; done))
theorem fk_r9 {K : Act → World → Prop} {c : Code} (hc : regOf (Try.f5.body.getD .skip) 9 = some c) (a : Act) {v : Vfk} {wq : World} {R : Option Addr → Nat → Option Addr → Nat → World → Prop} {s : ByteArray} {m k : Nat} {num z : Int} (hF : Ffk a v) (h2v : v.v2 = .string s) (hE : Calls Try.prog 19 #[.string s] wq fun e w' => ∃ (ro : Option Addr) (rc : Nat) (to' : Option Addr) (tc : Nat), e = .returned (.tuple #[.agg #[.int .i64 num, .slice ro m rc], .slice to' k tc, .int .i64 z]) ∧ R ro rc to' tc w')
    (hQ : ∀ a' w1 ro rc to' tc, Ffk a' { v with v15 := .pointer (some ⟨w1.heap.size, 0, none⟩), v16 := .slice to' k tc, v17 := .int .i64 z } → R ro rc to' tc w1 → K a' (w1.alloc (.cells #[.int .i64 num, .slice ro m rc] tView))) :
    Code.wp Try.prog c (Exit.then K fun _ _ _ => False) a wq := by
  have HQ := hide hQ
  clear hQ
  obtain ⟨v0, v1, v2, v3, v6, v7, v8, v9, v10, v11, v12, v13, v14, v15, v16, v17, v18, v19⟩ := v
  simp only at h2v HQ
  subst h2v
  obtain ⟨u, rfl⟩ := frx_fk hF
  clear hF
  simp only [Try.f5, Option.getD_some, regOf] at hc
  injection hc with hc
  subst hc
  have HE := hide hE
  clear hE
  go_wp2_with (go_at_call 19; refine HE.out.mono ?_; rintro e w1 ⟨ro, rc, to', tc, rfl, r1⟩; have R1 := hide r1; clear r1)
  exact HQ.out _ _ _ _ _ _ ⟨rfl, rfl, rfl, rfl, rfl, rfl, rfl, rfl, rfl, rfl, rfl, rfl, rfl, rfl, rfl, rfl, rfl, rfl, rfl, rfl⟩ R1.out
theorem fk_r10y {K : Act → World → Prop} {c : Code} (hc : regOf (Try.f5.body.getD .skip) 10 = some c) (a : Act) {v : Vfk} {wq : World} {z : Int} (hF : Ffk a v) (h17v : v.v17 = .int .i64 z) (hz : z ≠ 0) (hQ : ∀ a', Ffk a' v → a'.tmps.getD 58 undef = .bool true → K a' wq) :
    Code.wp Try.prog c (Exit.then K fun _ _ _ => False) a wq := by
  have HQ := hide hQ
  clear hQ
  obtain ⟨v0, v1, v2, v3, v6, v7, v8, v9, v10, v11, v12, v13, v14, v15, v16, v17, v18, v19⟩ := v
  simp only at h17v HQ
  subst h17v
  obtain ⟨u, rfl⟩ := frx_fk hF
  clear hF
  simp only [Try.f5, Option.getD_some, regOf] at hc
  injection hc with hc
  subst hc
  have hd : (z != 0) = true := by simp [hz]
  go_wp2
  exact HQ.out _ ⟨rfl, rfl, rfl, rfl, rfl, rfl, rfl, rfl, rfl, rfl, rfl, rfl, rfl, rfl, rfl, rfl, rfl, rfl, rfl, rfl⟩ (by first | rfl | (simp; done))
theorem fk_r10n {K : Act → World → Prop} {c : Code} (hc : regOf (Try.f5.body.getD .skip) 10 = some c) (a : Act) {v : Vfk} {wq : World}  (hF : Ffk a v) (h17v : v.v17 = .int .i64 0) (hQ : ∀ a', Ffk a' v → a'.tmps.getD 58 undef = .bool false → K a' wq) :
    Code.wp Try.prog c (Exit.then K fun _ _ _ => False) a wq := by
  have HQ := hide hQ
  clear hQ
  obtain ⟨v0, v1, v2, v3, v6, v7, v8, v9, v10, v11, v12, v13, v14, v15, v16, v17, v18, v19⟩ := v
  simp only at h17v HQ
  subst h17v
  obtain ⟨u, rfl⟩ := frx_fk hF
  clear hF
  simp only [Try.f5, Option.getD_some, regOf] at hc
  injection hc with hc
  subst hc
  go_wp2
  exact HQ.out _ ⟨rfl, rfl, rfl, rfl, rfl, rfl, rfl, rfl, rfl, rfl, rfl, rfl, rfl, rfl, rfl, rfl, rfl, rfl, rfl, rfl⟩ (by first | rfl | (simp; done))
theorem fk_r11 {K : Act → World → Prop} {c : Code} (hc : regOf (Try.f5.body.getD .skip) 11 = some c) (a : Act) {v : Vfk} {wq : World} {ub cq lc : Nat} {bo lo : Option Addr} {n : Nat} (hF : Ffk a v) (h7v : v.v7 = .bool true) (h15v : v.v15 = .pointer (some ⟨ub, 0, none⟩)) (h16v : v.v16 = .slice lo 0 lc) (hU : wq.heap[ub]? = some (.cells #[.int .i64 0, .slice bo n cq] tView (0, 0))) (hQ : ∀ a', Ffk a' { v with v6 := .bool true } → K a' wq) :
    Code.wp Try.prog c (Exit.then K fun _ _ _ => False) a wq := by
  have HQ := hide hQ
  clear hQ
  obtain ⟨v0, v1, v2, v3, v6, v7, v8, v9, v10, v11, v12, v13, v14, v15, v16, v17, v18, v19⟩ := v
  simp only at h7v h15v h16v HQ
  subst h7v h15v h16v
  obtain ⟨u, rfl⟩ := frx_fk hF
  clear hF
  simp only [Try.f5, Option.getD_some, regOf] at hc
  injection hc with hc
  subst hc
  have y0 := box_cell hU 0 rfl
  have y1 := box_cell hU 1 rfl
  clear hU
  go_wp2
  exact HQ.out _ ⟨rfl, rfl, rfl, rfl, rfl, rfl, rfl, rfl, rfl, rfl, rfl, rfl, rfl, rfl, rfl, rfl, rfl, rfl, rfl, rfl⟩
theorem fk_r12 {K : Act → World → Prop} {c : Code} (hc : regOf (Try.f5.body.getD .skip) 12 = some c) (a : Act) {v : Vfk} {wq : World} {R : World → Prop} {vb n cp : Nat} {num : Int} {ao : Option Addr} {lo : Option Addr} {ln lc : Nat} {s : ByteArray} {z : Int} (hF : Ffk a v) (h15v : v.v15 = .pointer (some ⟨vb, 0, none⟩)) (h16v : v.v16 = .slice lo ln lc) (hV : wq.heap[vb]? = some (.cells #[.int .i64 num, .slice ao n cp] tView (0, 0))) (hE : Calls Try.prog 17 #[.agg #[.int .i64 num, .slice ao n cp], .slice lo ln lc] wq fun e w' => e = .returned (.tuple #[.string s, .int .i64 z]) ∧ R w')
    (hQ : ∀ a' w1, Ffk a' { v with v18 := .string s, v19 := .int .i64 z } → R w1 → K a' w1) :
    Code.wp Try.prog c (Exit.then K fun _ _ _ => False) a wq := by
  have HQ := hide hQ
  clear hQ
  obtain ⟨v0, v1, v2, v3, v6, v7, v8, v9, v10, v11, v12, v13, v14, v15, v16, v17, v18, v19⟩ := v
  simp only at h15v h16v HQ
  subst h15v h16v
  obtain ⟨u, rfl⟩ := frx_fk hF
  clear hF
  simp only [Try.f5, Option.getD_some, regOf] at hc
  injection hc with hc
  subst hc
  have HE := hide hE
  clear hE
  have z0 := box_cell hV 0 rfl
  have z1 := box_cell hV 1 rfl
  clear hV
  go_wp2_with (go_at_call 17; refine HE.out.mono ?_; rintro e w1 ⟨rfl, r1⟩; have R1 := hide r1; clear r1)
  exact HQ.out _ _ ⟨rfl, rfl, rfl, rfl, rfl, rfl, rfl, rfl, rfl, rfl, rfl, rfl, rfl, rfl, rfl, rfl, rfl, rfl, rfl, rfl⟩ R1.out
theorem fk_r13a {K : Act → World → Prop} {c : Code} (hc : regOf (Try.f5.body.getD .skip) 13 = some c) (a : Act) {v : Vfk} {wq : World} {s : ByteArray} (hF : Ffk a v) (h7v : v.v7 = .bool true) (h2v : v.v2 = .string s) (h18v : v.v18 = .string s) (h19v : v.v19 = .int .i64 0) (hQ : ∀ a', Ffk a' { v with v6 := .bool true } → K a' wq) :
    Code.wp Try.prog c (Exit.then K fun _ _ _ => False) a wq := by
  have HQ := hide hQ
  clear hQ
  obtain ⟨v0, v1, v2, v3, v6, v7, v8, v9, v10, v11, v12, v13, v14, v15, v16, v17, v18, v19⟩ := v
  simp only at h7v h2v h18v h19v HQ
  subst h7v h2v h18v h19v
  obtain ⟨u, rfl⟩ := frx_fk hF
  clear hF
  simp only [Try.f5, Option.getD_some, regOf] at hc
  injection hc with hc
  subst hc
  go_wp2
  exact HQ.out _ ⟨rfl, rfl, rfl, rfl, rfl, rfl, rfl, rfl, rfl, rfl, rfl, rfl, rfl, rfl, rfl, rfl, rfl, rfl, rfl, rfl⟩
theorem fk_r13b {K : Act → World → Prop} {c : Code} (hc : regOf (Try.f5.body.getD .skip) 13 = some c) (a : Act) {v : Vfk} {wq : World}  (hF : Ffk a v) (h7v : v.v7 = .bool true) (h19v : v.v19 = .int .i64 3) (hQ : ∀ a', Ffk a' { v with v6 := .bool true } → K a' wq) :
    Code.wp Try.prog c (Exit.then K fun _ _ _ => False) a wq := by
  have HQ := hide hQ
  clear hQ
  obtain ⟨v0, v1, v2, v3, v6, v7, v8, v9, v10, v11, v12, v13, v14, v15, v16, v17, v18, v19⟩ := v
  simp only at h7v h19v HQ
  subst h7v h19v
  obtain ⟨u, rfl⟩ := frx_fk hF
  clear hF
  simp only [Try.f5, Option.getD_some, regOf] at hc
  injection hc with hc
  subst hc
  go_wp2
  exact HQ.out _ ⟨rfl, rfl, rfl, rfl, rfl, rfl, rfl, rfl, rfl, rfl, rfl, rfl, rfl, rfl, rfl, rfl, rfl, rfl, rfl, rfl⟩
theorem fk_ret {W : World} {a : Act} {v : Vfk} {x : Bool} {R : Ending → World → Prop} (hF : Ffk a v) (h2 : v.v6 = .bool x) (h : R (.returned (.bool x)) W) : bodyPost Try.prog Try.f5 R .ret a W := by
  have g0 := slot_get (hF.s6.trans h2)
  refine bodyPost_ret (v := .bool x) ?_ hF.defers h
  simp [results, Try.results5, go_sem, g0]
end Go.Proofs.Ytfcpclpaalekiaa
namespace Go.Proofs.Ytfcpclpaalekiaa
open Go.RowKit
attribute [local go_sem ↓] Go.wp_at_zero Go.wp_at_succ
set_option linter.unusedSimpArgs false
set_option linter.unusedVariables false
structure Vfw where
  v0 : Value
  v1 : Value
  v2 : Value
  v4 : Value
  v5 : Value
  v6 : Value
  v7 : Value
  v8 : Value
  v9 : Value
  v10 : Value
  v11 : Value
  v12 : Value
  v13 : Value
  v14 : Value
  v15 : Value
  v16 : Value
structure Ffw (a : Act) (v : Vfw) : Prop where
  size : a.tmps.size = 87
  defers : a.defers = []
  s0 : a.tmps.getD 0 undef = v.v0
  s1 : a.tmps.getD 1 undef = v.v1
  s2 : a.tmps.getD 2 undef = v.v2
  s4 : a.tmps.getD 4 undef = v.v4
  s5 : a.tmps.getD 5 undef = v.v5
  s6 : a.tmps.getD 6 undef = v.v6
  s7 : a.tmps.getD 7 undef = v.v7
  s8 : a.tmps.getD 8 undef = v.v8
  s9 : a.tmps.getD 9 undef = v.v9
  s10 : a.tmps.getD 10 undef = v.v10
  s11 : a.tmps.getD 11 undef = v.v11
  s12 : a.tmps.getD 12 undef = v.v12
  s13 : a.tmps.getD 13 undef = v.v13
  s14 : a.tmps.getD 14 undef = v.v14
  s15 : a.tmps.getD 15 undef = v.v15
  s16 : a.tmps.getD 16 undef = v.v16
end Go.Proofs.Ytfcpclpaalekiaa
namespace Go.Proofs.Ytfcpclpaalekiaa
open Go.RowKit
attribute [local go_sem ↓] Go.wp_at_zero Go.wp_at_succ
set_option linter.unusedSimpArgs false
set_option linter.unusedVariables false
theorem fdecode_says (t : ByteArray) (w : World) (hs : t.size ≤ 9223372036854775807) {r : VW × List ByteArray × Int} (hr : decL t.data.toList = r) :
    Calls Try.prog 19 #[.string t] w fun e w' => ∃ (ro : Option Addr) (rc : Nat) (to' : Option Addr) (tc : Nat), e = .returned (.tuple #[.agg #[.int .i64 r.1.num, .slice ro r.1.mem.length rc], .slice to' r.2.1.length tc, .int .i64 r.2.2]) ∧ (MemsAt w' ro r.1.mem ∧ TextsAt w' to' r.2.1 ∧ Below w.heap.size w w') := by
  subst hr
  exact (fdecode t w hs).mono fun e w' ⟨⟨ro, rc, to', tc, h1, h2, h3⟩, h4⟩ => ⟨ro, rc, to', tc, h1, mems_of_row h2 rfl, texts_own h3, h4⟩
end Go.Proofs.Ytfcpclpaalekiaa
namespace Go.Proofs.Ytfcpclpaalekiaa
open Go.RowKit
set_option maxHeartbeats 8000000
set_option maxRecDepth 100000
attribute [local go_sem ↓] Go.wp_at_zero Go.wp_at_succ
set_option linter.unusedSimpArgs false
set_option linter.unusedVariables false
theorem back_walk (v : VW) (ao lo : Option Addr) (cp lc : Nat) (log : List ByteArray) (s : ByteArray) (w : World) (hM : MemsAt w ao v.mem) (hm : v.mem.length ≤ 4611686018427387903) (hL : TextsAt w lo log) (hn : log.length ≤ 17592186044416) (hs : ∀ x ∈ log, x.size ≤ 140737488351232) (hss : s.size ≤ 140737488351232) :
    Calls Try.prog 5 #[v.v ao cp, .slice lo log.length lc, .string s] w fun e w' => e = .returned (.bool true) ∧ Below w.heap.size w w' := by
  have hlen := encL_len v log
  simp only [VW.v]
  go_enter Try.func5, Try.ntmps5
  have X0 := heap_alloc_new w (.cells #[.int .i64 v.num, .slice ao v.mem.length cp] tView)
  have B0 := (Below.refl w.heap.size w).alloc (Nat.le_refl _) (.cells #[.int .i64 v.num, .slice ao v.mem.length cp] tView)
  refine wp_seq (reg_mono (fk_r0 (by kernel_rfl) _ (v := ⟨_, _, _, _, _, _, _, _, _, _, _, _, _, _, _, _, _, _⟩) ⟨rfl, rfl, rfl, rfl, rfl, rfl, rfl, rfl, rfl, rfl, rfl, rfl, rfl, rfl, rfl, rfl, rfl, rfl, rfl, rfl⟩ rfl ?_))
  intro a0 F0
  try dsimp only at F0
  generalize w.alloc _ = w0 at *
  refine wp_seq (reg_mono (fk_r1 (by kernel_rfl) _ F0 (fexamples w0) ?_))
  intro a1 w1 F1 b1
  try dsimp only at F1
  have X1 := (b1.block _ (heap_lt X0)).trans X0
  have B1 := B0.trans (b1.mono B0.size)
  clear X0 B0 b1 F0
  have henc := fencode v ao lo cp lc log w1 (hM.below B1) hm (hL.below B1) hn hs
  simp only [VW.v] at henc
  refine wp_seq (reg_mono (fk_r2 (R := fun W => Below w1.heap.size w1 W) (by kernel_rfl) _ F1 rfl rfl X1 henc ?_))
  intro a2 w2 F2 b2
  try dsimp only at F2
  have X2 := (b2.block _ (heap_lt X1)).trans X1
  have B2 := B1.trans (b2.mono B1.size)
  refine wp_mid (fun a W => ∃ x8 x9 x10 x11 x12 x13 x14 x15 x16 x17 x18 x19 : Value, Below w.heap.size w W ∧ W.heap[w.heap.size]? = some (.cells #[.int .i64 v.num, .slice ao v.mem.length cp] tView (0, 0)) ∧ Ffk a { v0 := .agg #[.int .i64 v.num, .slice ao v.mem.length cp], v1 := .slice lo log.length lc, v2 := .string s, v3 := .pointer (some ⟨w.heap.size, 0, none⟩), v6 := .bool false, v7 := .bool true, v8 := x8, v9 := x9, v10 := x10, v11 := x11, v12 := x12, v13 := x13, v14 := x14, v15 := x15, v16 := x16, v17 := x17, v18 := x18, v19 := x19 }) ?_ ?_
  · by_cases he : (encL v log).2 = 0
    case neg =>
      refine wp_seq (reg_mono (fk_r3n (by kernel_rfl) _ F2 rfl he ?_))
      intro a3 F3 g3
      refine wp_cond_false g3 (wp_skip ?_)
      exact ⟨_, _, _, _, _, _, _, _, _, _, _, _, B2, X2, F3⟩
    obtain ⟨hd, hr⟩ := decL_encL he
    rw [he] at F2
    generalize hS : (encL v log).1 = S at *
    refine wp_seq (reg_mono (fk_r3y (by kernel_rfl) _ F2 rfl ?_))
    intro a3 F3 g3
    refine wp_cond_true g3 ?_
    refine wp_seq (reg_mono (fk_r4 (R := fun ro rc to' tc W => MemsAt W ro v.mem ∧ TextsAt W to' log ∧ Below w2.heap.size w2 W) (by kernel_rfl) _ F3 rfl (fdecode_says ⟨S.toArray⟩ w2 (by show S.toArray.size ≤ _; simp only [List.size_toArray]; omega) (r := (v, log, 0)) (by simpa using hd)) ?_))
    rintro a9 w9 r9 c9 t9 k9 F9 ⟨M9, T9, b9⟩
    try dsimp only at F9
    have X9 := (b9.block _ (heap_lt X2)).trans X2
    have B9 := B2.trans (b9.mono B2.size)
    have bu := (Below.refl w9.heap.size w9).alloc (Nat.le_refl _) (.cells #[.int .i64 v.num, .slice r9 v.mem.length c9] tView)
    have Y0 := heap_alloc_new w9 (.cells #[.int .i64 v.num, .slice r9 v.mem.length c9] tView)
    have X10 := (bu.block _ (heap_lt X9)).trans X9
    have B10 := B9.trans (bu.mono B9.size)
    have M10 := M9.below bu
    have T10 := T9.below bu
    generalize w9.heap.size = vb at *
    generalize w9.alloc _ = w10 at *
    have hvw := fviews v r9 ao c9 cp w10 M10 (hM.below B10) (by omega)
    simp only [VW.v] at hvw
    refine wp_seq (reg_mono (fk_r5 (R := fun W => Below w10.heap.size w10 W) (by kernel_rfl) _ F9 rfl rfl Y0 X10 hvw ?_))
    intro a10 w11 F10 b11
    try dsimp only at F10
    have B11 := B10.trans (b11.mono B10.size)
    have X11 := (b11.block _ (heap_lt X10)).trans X10
    refine wp_seq (reg_mono (fk_r6 (R := fun W => ∃ n, W = w11.drewN n) (by kernel_rfl) _ F10 rfl rfl (ptexts_eq t9 lo k9 lc log w11 (T10.below b11) (hL.below B11) hn) ?_))
    rintro a11 w12 F11 ⟨n12, rfl⟩
    try dsimp only at F11
    refine wp_seq (reg_mono (fk_r7 (by kernel_rfl) _ F11 rfl rfl rfl ?_))
    intro a12 F12 g12
    refine wp_cond_false g12 (wp_skip ?_)
    exact ⟨_, _, _, _, _, _, _, _, _, _, _, _, below_drewN B11 _, X11, F12⟩
  rintro a3 w3 ⟨x8, x9, x10, x11, x12, x13, x14, x15, x16, x17, x18, x19, B3, X3, F3⟩
  obtain ⟨D, hD⟩ : ∃ D, decL s.data.toList = D := ⟨_, rfl⟩
  refine wp_seq (reg_mono (fk_r9 (R := fun ro rc to' tc W => MemsAt W ro D.1.mem ∧ TextsAt W to' D.2.1 ∧ Below w3.heap.size w3 W) (by kernel_rfl) _ F3 rfl (fdecode_says s w3 (by omega) hD) ?_))
  rintro a9 w9 r9 c9 t9 k9 F9 ⟨M9, T9, b9⟩
  try dsimp only at F9
  have X9 := (b9.block _ (heap_lt X3)).trans X3
  have B9 := B3.trans (b9.mono B3.size)
  have bu := (Below.refl w9.heap.size w9).alloc (Nat.le_refl _) (.cells #[.int .i64 D.1.num, .slice r9 D.1.mem.length c9] tView)
  have Y0 := heap_alloc_new w9 (.cells #[.int .i64 D.1.num, .slice r9 D.1.mem.length c9] tView)
  have B10 := B9.trans (bu.mono B9.size)
  have M10 := M9.below bu
  have T10 := T9.below bu
  generalize w9.heap.size = vb at *
  generalize w9.alloc _ = w10 at *
  by_cases hz : D.2.2 = 0
  case neg =>
    obtain ⟨h1, h2⟩ := decL_none (s := s.data.toList) (by rw [hD]; exact hz)
    rw [hD] at h1 h2
    rw [h1] at Y0
    rw [h2] at F9
    refine wp_seq (wp_seq (reg_mono (fk_r10y (by kernel_rfl) _ F9 rfl hz ?_)))
    intro a4 F4 g4
    refine wp_cond_true g4 ?_
    refine wp_seq (reg_mono (fk_r11 (by kernel_rfl) _ F4 rfl rfl rfl Y0 ?_))
    intro a5 F5
    refine wp_ret ?_
    try dsimp only [Exit.then, Exit.inBlock]
    exact fk_ret (x := true) F5 rfl ⟨rfl, B10⟩
  obtain ⟨h1, h2, h3, h4⟩ := decL_zero (s := s.data.toList) (by rw [hD]; exact hz)
  have hback := encL_decL (s := s.data.toList) (by rw [hD]; exact hz)
  rw [hD] at h1 h2 h3 h4 hback
  rw [hz] at F9
  refine wp_seq (wp_seq (reg_mono (fk_r10n (by kernel_rfl) _ F9 rfl ?_)))
  intro a4 F4 g4
  refine wp_cond_false g4 (wp_skip ?_)
  show Code.wp _ _ _ _ _
  have h7 := h1.2.2.2.1
  have henc2 := fencode D.1 r9 t9 c9 k9 D.2.1 w10 M10 (by omega) T10 (by omega) (fun x hx => by have := h4 x hx; omega)
  simp only [VW.v] at henc2
  refine wp_seq (reg_mono (fk_r12 (R := fun W => Below w10.heap.size w10 W) (by kernel_rfl) _ F4 rfl rfl Y0 henc2 ?_))
  intro a12 w12 F12 b12
  try dsimp only at F12
  have B12 := B10.trans (b12.mono B10.size)
  rcases hback with e | e
  · have e2 : (⟨(encL D.1 D.2.1).1.toArray⟩ : ByteArray) = s := by rw [e]
    have e3 : (encL D.1 D.2.1).2 = 0 := by rw [e]
    rw [e2, e3] at F12
    refine wp_seq (reg_mono (fk_r13a (by kernel_rfl) _ F12 rfl rfl rfl rfl ?_))
    intro a13 F13
    refine wp_ret ?_
    try dsimp only [Exit.then, Exit.inBlock]
    exact fk_ret (x := true) F13 rfl ⟨rfl, B12⟩
  · rw [e] at F12
    refine wp_seq (reg_mono (fk_r13b (by kernel_rfl) _ F12 rfl rfl ?_))
    intro a13 F13
    refine wp_ret ?_
    try dsimp only [Exit.then, Exit.inBlock]
    exact fk_ret (x := true) F13 rfl ⟨rfl, B12⟩
end Go.Proofs.Ytfcpclpaalekiaa
