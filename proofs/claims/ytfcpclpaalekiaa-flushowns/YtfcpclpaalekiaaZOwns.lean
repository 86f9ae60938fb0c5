/-
  FlushOwns: for all views and logs the law's call returns true and leaves them as they were; no condition.
-/
import Derived.Test.YtfcpclpaalekiaaZPhiG
import Derived.Laws.StructEq
import Derived.Test.YtfcpclpaalekiaaZFK
namespace Go.Proofs.Ytfcpclpaalekiaa
open Go.RowKit
set_option maxHeartbeats 8000000
set_option maxRecDepth 100000
attribute [local go_sem ↓] Go.wp_at_zero Go.wp_at_succ
set_option linter.unusedSimpArgs false
set_option linter.unusedVariables false
theorem frame_fw (t : Array Value) (h : t.size = 87) : ∃ u : Nat → Value, t = List.toArray (u 0 :: u 1 :: u 2 :: u 3 :: u 4 :: u 5 :: u 6 :: u 7 :: u 8 :: u 9 :: u 10 :: u 11 :: u 12 :: u 13 :: u 14 :: u 15 :: u 16 :: u 17 :: u 18 :: u 19 :: u 20 :: u 21 :: u 22 :: u 23 :: u 24 :: u 25 :: u 26 :: u 27 :: u 28 :: u 29 :: u 30 :: u 31 :: u 32 :: u 33 :: u 34 :: u 35 :: u 36 :: u 37 :: u 38 :: u 39 :: u 40 :: u 41 :: u 42 :: u 43 :: u 44 :: u 45 :: u 46 :: u 47 :: u 48 :: u 49 :: u 50 :: u 51 :: u 52 :: u 53 :: u 54 :: u 55 :: u 56 :: u 57 :: u 58 :: u 59 :: u 60 :: u 61 :: u 62 :: u 63 :: u 64 :: u 65 :: u 66 :: u 67 :: u 68 :: u 69 :: u 70 :: u 71 :: u 72 :: u 73 :: u 74 :: u 75 :: u 76 :: u 77 :: u 78 :: u 79 :: u 80 :: u 81 :: u 82 :: u 83 :: u 84 :: u 85 :: u 86 :: []) := by
  refine ⟨fun i => t.getD i undef, ?_⟩
  refine Eq.trans (b := ((List.range 87).map fun i => t.getD i undef).toArray) ?_ rfl
  apply Array.ext
  · simp [h]
  · intro k h1 h2
    simp [Array.getD, h1]
structure Vfw where
  v0 : Value
  v1 : Value
  v2 : Value
  v4 : Value
  v5 : Value
  v6 : Value
  v7 : Value
  v8 : Value
  v9 : Value
  v10 : Value
  v11 : Value
  v12 : Value
  v13 : Value
  v14 : Value
  v15 : Value
  v16 : Value
structure Ffw (a : Act) (v : Vfw) : Prop where
  size : a.tmps.size = 87
  defers : a.defers = []
  s0 : a.tmps.getD 0 undef = v.v0
  s1 : a.tmps.getD 1 undef = v.v1
  s2 : a.tmps.getD 2 undef = v.v2
  s4 : a.tmps.getD 4 undef = v.v4
  s5 : a.tmps.getD 5 undef = v.v5
  s6 : a.tmps.getD 6 undef = v.v6
  s7 : a.tmps.getD 7 undef = v.v7
  s8 : a.tmps.getD 8 undef = v.v8
  s9 : a.tmps.getD 9 undef = v.v9
  s10 : a.tmps.getD 10 undef = v.v10
  s11 : a.tmps.getD 11 undef = v.v11
  s12 : a.tmps.getD 12 undef = v.v12
  s13 : a.tmps.getD 13 undef = v.v13
  s14 : a.tmps.getD 14 undef = v.v14
  s15 : a.tmps.getD 15 undef = v.v15
  s16 : a.tmps.getD 16 undef = v.v16
theorem frx_fw {a : Act} {v0 v1 v2 v4 v5 v6 v7 v8 v9 v10 v11 v12 v13 v14 v15 v16 : Value} (h : Ffw a ⟨v0, v1, v2, v4, v5, v6, v7, v8, v9, v10, v11, v12, v13, v14, v15, v16⟩) : ∃ u : Nat → Value, a = ⟨List.toArray (v0 :: v1 :: v2 :: u 3 :: v4 :: v5 :: v6 :: v7 :: v8 :: v9 :: v10 :: v11 :: v12 :: v13 :: v14 :: v15 :: v16 :: u 17 :: u 18 :: u 19 :: u 20 :: u 21 :: u 22 :: u 23 :: u 24 :: u 25 :: u 26 :: u 27 :: u 28 :: u 29 :: u 30 :: u 31 :: u 32 :: u 33 :: u 34 :: u 35 :: u 36 :: u 37 :: u 38 :: u 39 :: u 40 :: u 41 :: u 42 :: u 43 :: u 44 :: u 45 :: u 46 :: u 47 :: u 48 :: u 49 :: u 50 :: u 51 :: u 52 :: u 53 :: u 54 :: u 55 :: u 56 :: u 57 :: u 58 :: u 59 :: u 60 :: u 61 :: u 62 :: u 63 :: u 64 :: u 65 :: u 66 :: u 67 :: u 68 :: u 69 :: u 70 :: u 71 :: u 72 :: u 73 :: u 74 :: u 75 :: u 76 :: u 77 :: u 78 :: u 79 :: u 80 :: u 81 :: u 82 :: u 83 :: u 84 :: u 85 :: u 86 :: []), []⟩ := by
  obtain ⟨t', d'⟩ := a
  obtain ⟨hs, hd, q0, q1, q2, q4, q5, q6, q7, q8, q9, q10, q11, q12, q13, q14, q15, q16⟩ := h
  obtain ⟨u, hu⟩ := frame_fw t' hs
  simp only at hd q0 q1 q2 q4 q5 q6 q7 q8 q9 q10 q11 q12 q13 q14 q15 q16
  subst hu hd
  have e0 : u 0 = v0 := q0
  have e1 : u 1 = v1 := q1
  have e2 : u 2 = v2 := q2
  have e4 : u 4 = v4 := q4
  have e5 : u 5 = v5 := q5
  have e6 : u 6 = v6 := q6
  have e7 : u 7 = v7 := q7
  have e8 : u 8 = v8 := q8
  have e9 : u 9 = v9 := q9
  have e10 : u 10 = v10 := q10
  have e11 : u 11 = v11 := q11
  have e12 : u 12 = v12 := q12
  have e13 : u 13 = v13 := q13
  have e14 : u 14 = v14 := q14
  have e15 : u 15 = v15 := q15
  have e16 : u 16 = v16 := q16
  refine ⟨u, ?_⟩
  rw [e0, e1, e2, e4, e5, e6, e7, e8, e9, e10, e11, e12, e13, e14, e15, e16]
theorem fw_r0 {K : Act → World → Prop} {c : Code} (hc : regOf (Try.f7.body.getD .skip) 0 = some c) (a : Act) {v : Vfw} {wq : World} {n cp : Nat} {num : Int} {ao : Option Addr} (hF : Ffw a v) (h0v : v.v0 = .agg #[.int .i64 num, .slice ao n cp]) (hQ : ∀ a', Ffw a' { v with v2 := .pointer (some ⟨wq.heap.size, 0, none⟩), v4 := .bool false } → K a' (wq.alloc (.cells #[.int .i64 num, .slice ao n cp] tView))) :
    Code.wp Try.prog c (Exit.then K fun _ _ _ => False) a wq := by
  have HQ := hide hQ
  clear hQ
  obtain ⟨v0, v1, v2, v4, v5, v6, v7, v8, v9, v10, v11, v12, v13, v14, v15, v16⟩ := v
  simp only at h0v HQ
  subst h0v
  obtain ⟨u, rfl⟩ := frx_fw hF
  clear hF
  simp only [Try.f7, Option.getD_some, regOf] at hc
  injection hc with hc
  subst hc
  go_wp2
  exact HQ.out _ ⟨rfl, rfl, rfl, rfl, rfl, rfl, rfl, rfl, rfl, rfl, rfl, rfl, rfl, rfl, rfl, rfl, rfl, rfl⟩
theorem fw_r1 {K : Act → World → Prop} {c : Code} (hc : regOf (Try.f7.body.getD .skip) 1 = some c) (a : Act) {v : Vfw} {wq : World} {R : World → Prop}  (hF : Ffw a v) (hE : Calls Try.prog 9 #[] wq fun e w' => e = .returned (.bool true) ∧ R w')
    (hQ : ∀ a' w1, Ffw a' { v with v5 := .bool true } → R w1 → K a' w1) :
    Code.wp Try.prog c (Exit.then K fun _ _ _ => False) a wq := by
  have HQ := hide hQ
  clear hQ
  obtain ⟨v0, v1, v2, v4, v5, v6, v7, v8, v9, v10, v11, v12, v13, v14, v15, v16⟩ := v
  obtain ⟨u, rfl⟩ := frx_fw hF
  clear hF
  simp only [Try.f7, Option.getD_some, regOf] at hc
  injection hc with hc
  subst hc
  have HE := hide hE
  clear hE
  go_wp2_with (go_at_call 9; refine HE.out.mono ?_; rintro e w1 ⟨rfl, r1⟩; have R1 := hide r1; clear r1)
  exact HQ.out _ _ ⟨rfl, rfl, rfl, rfl, rfl, rfl, rfl, rfl, rfl, rfl, rfl, rfl, rfl, rfl, rfl, rfl, rfl, rfl⟩ R1.out
theorem fw_r2 {K : Act → World → Prop} {c : Code} (hc : regOf (Try.f7.body.getD .skip) 2 = some c) (a : Act) {v : Vfw} {wq : World} {R : World → Prop} {vb n cp : Nat} {num : Int} {ao : Option Addr} {lo : Option Addr} {ln lc : Nat} {s : ByteArray} {z : Int} (hF : Ffw a v) (h2v : v.v2 = .pointer (some ⟨vb, 0, none⟩)) (h1v : v.v1 = .slice lo ln lc) (hV : wq.heap[vb]? = some (.cells #[.int .i64 num, .slice ao n cp] tView (0, 0))) (hE : Calls Try.prog 21 #[.agg #[.int .i64 num, .slice ao n cp], .slice lo ln lc] wq fun e w' => e = .returned (.tuple #[.string s, .int .i64 z]) ∧ R w')
    (hQ : ∀ a' w1, Ffw a' { v with v6 := .string s, v7 := .int .i64 z } → R w1 → K a' w1) :
    Code.wp Try.prog c (Exit.then K fun _ _ _ => False) a wq := by
  have HQ := hide hQ
  clear hQ
  obtain ⟨v0, v1, v2, v4, v5, v6, v7, v8, v9, v10, v11, v12, v13, v14, v15, v16⟩ := v
  simp only at h2v h1v HQ
  subst h2v h1v
  obtain ⟨u, rfl⟩ := frx_fw hF
  clear hF
  simp only [Try.f7, Option.getD_some, regOf] at hc
  injection hc with hc
  subst hc
  have HE := hide hE
  clear hE
  have z0 := box_cell hV 0 rfl
  have z1 := box_cell hV 1 rfl
  clear hV
  go_wp2_with (go_at_call 21; refine HE.out.mono ?_; rintro e w1 ⟨rfl, r1⟩; have R1 := hide r1; clear r1)
  exact HQ.out _ _ ⟨rfl, rfl, rfl, rfl, rfl, rfl, rfl, rfl, rfl, rfl, rfl, rfl, rfl, rfl, rfl, rfl, rfl, rfl⟩ R1.out
theorem fw_r3 {K : Act → World → Prop} {c : Code} (hc : regOf (Try.f7.body.getD .skip) 3 = some c) (a : Act) {v : Vfw} {wq : World} {R : Option Addr → Nat → World → Prop} {lo : Option Addr} {ln lc m : Nat} {z : Int} (hF : Ffw a v) (h1v : v.v1 = .slice lo ln lc) (hE : Calls Try.prog 11 #[.slice lo ln lc] wq fun e w' => ∃ (ro : Option Addr) (rc : Nat), e = .returned (.tuple #[.slice ro m rc, .int .i64 z]) ∧ R ro rc w')
    (hQ : ∀ a' w1 ro rc, Ffw a' { v with v8 := .slice ro m rc, v9 := .int .i64 z } → R ro rc w1 → K a' w1) :
    Code.wp Try.prog c (Exit.then K fun _ _ _ => False) a wq := by
  have HQ := hide hQ
  clear hQ
  obtain ⟨v0, v1, v2, v4, v5, v6, v7, v8, v9, v10, v11, v12, v13, v14, v15, v16⟩ := v
  simp only at h1v HQ
  subst h1v
  obtain ⟨u, rfl⟩ := frx_fw hF
  clear hF
  simp only [Try.f7, Option.getD_some, regOf] at hc
  injection hc with hc
  subst hc
  have HE := hide hE
  clear hE
  go_wp2_with (go_at_call 11; refine HE.out.mono ?_; rintro e w1 ⟨ro, rc, rfl, r1⟩; have R1 := hide r1; clear r1)
  exact HQ.out _ _ _ _ ⟨rfl, rfl, rfl, rfl, rfl, rfl, rfl, rfl, rfl, rfl, rfl, rfl, rfl, rfl, rfl, rfl, rfl, rfl⟩ R1.out
theorem fw_r4y {K : Act → World → Prop} {c : Code} (hc : regOf (Try.f7.body.getD .skip) 4 = some c) (a : Act) {v : Vfw} {wq : World} {z : Int} (hF : Ffw a v) (h9v : v.v9 = .int .i64 z) (hz : z ≠ 0) (hQ : ∀ a', Ffw a' v → a'.tmps.getD 30 undef = .bool true → K a' wq) :
    Code.wp Try.prog c (Exit.then K fun _ _ _ => False) a wq := by
  have HQ := hide hQ
  clear hQ
  obtain ⟨v0, v1, v2, v4, v5, v6, v7, v8, v9, v10, v11, v12, v13, v14, v15, v16⟩ := v
  simp only at h9v HQ
  subst h9v
  obtain ⟨u, rfl⟩ := frx_fw hF
  clear hF
  simp only [Try.f7, Option.getD_some, regOf] at hc
  injection hc with hc
  subst hc
  have hd : (z != 0) = true := by simp [hz]
  go_wp2
  exact HQ.out _ ⟨rfl, rfl, rfl, rfl, rfl, rfl, rfl, rfl, rfl, rfl, rfl, rfl, rfl, rfl, rfl, rfl, rfl, rfl⟩ (by first | rfl | (simp; done))
theorem fw_r4n {K : Act → World → Prop} {c : Code} (hc : regOf (Try.f7.body.getD .skip) 4 = some c) (a : Act) {v : Vfw} {wq : World}  (hF : Ffw a v) (h9v : v.v9 = .int .i64 0) (hQ : ∀ a', Ffw a' v → a'.tmps.getD 30 undef = .bool false → K a' wq) :
    Code.wp Try.prog c (Exit.then K fun _ _ _ => False) a wq := by
  have HQ := hide hQ
  clear hQ
  obtain ⟨v0, v1, v2, v4, v5, v6, v7, v8, v9, v10, v11, v12, v13, v14, v15, v16⟩ := v
  simp only at h9v HQ
  subst h9v
  obtain ⟨u, rfl⟩ := frx_fw hF
  clear hF
  simp only [Try.f7, Option.getD_some, regOf] at hc
  injection hc with hc
  subst hc
  go_wp2
  exact HQ.out _ ⟨rfl, rfl, rfl, rfl, rfl, rfl, rfl, rfl, rfl, rfl, rfl, rfl, rfl, rfl, rfl, rfl, rfl, rfl⟩ (by first | rfl | (simp; done))
theorem fw_r5 {K : Act → World → Prop} {c : Code} (hc : regOf (Try.f7.body.getD .skip) 5 = some c) (a : Act) {v : Vfw} {wq : World} {z : Int} (hF : Ffw a v) (h5v : v.v5 = .bool true) (h6v : v.v6 = .string ⟨#[]⟩) (h7v : v.v7 = .int .i64 z) (h9v : v.v9 = .int .i64 z) (hQ : ∀ a', Ffw a' { v with v4 := .bool true } → K a' wq) :
    Code.wp Try.prog c (Exit.then K fun _ _ _ => False) a wq := by
  have HQ := hide hQ
  clear hQ
  obtain ⟨v0, v1, v2, v4, v5, v6, v7, v8, v9, v10, v11, v12, v13, v14, v15, v16⟩ := v
  simp only at h5v h6v h7v h9v HQ
  subst h5v h6v h7v h9v
  obtain ⟨u, rfl⟩ := frx_fw hF
  clear hF
  simp only [Try.f7, Option.getD_some, regOf] at hc
  injection hc with hc
  subst hc
  go_wp2
  exact HQ.out _ ⟨rfl, rfl, rfl, rfl, rfl, rfl, rfl, rfl, rfl, rfl, rfl, rfl, rfl, rfl, rfl, rfl, rfl, rfl⟩
theorem fw_r6 {K : Act → World → Prop} {c : Code} (hc : regOf (Try.f7.body.getD .skip) 6 = some c) (a : Act) {v : Vfw} {wq : World} {R : World → Prop} {vb n cp : Nat} {num : Int} {ao : Option Addr} {lo : Option Addr} {ln lc : Nat} {s : ByteArray} {z : Int} (hF : Ffw a v) (h2v : v.v2 = .pointer (some ⟨vb, 0, none⟩)) (h8v : v.v8 = .slice lo ln lc) (hV : wq.heap[vb]? = some (.cells #[.int .i64 num, .slice ao n cp] tView (0, 0))) (hE : Calls Try.prog 17 #[.agg #[.int .i64 num, .slice ao n cp], .slice lo ln lc] wq fun e w' => e = .returned (.tuple #[.string s, .int .i64 z]) ∧ R w')
    (hQ : ∀ a' w1, Ffw a' { v with v10 := .string s, v11 := .int .i64 z } → R w1 → K a' w1) :
    Code.wp Try.prog c (Exit.then K fun _ _ _ => False) a wq := by
  have HQ := hide hQ
  clear hQ
  obtain ⟨v0, v1, v2, v4, v5, v6, v7, v8, v9, v10, v11, v12, v13, v14, v15, v16⟩ := v
  simp only at h2v h8v HQ
  subst h2v h8v
  obtain ⟨u, rfl⟩ := frx_fw hF
  clear hF
  simp only [Try.f7, Option.getD_some, regOf] at hc
  injection hc with hc
  subst hc
  have HE := hide hE
  clear hE
  have z0 := box_cell hV 0 rfl
  have z1 := box_cell hV 1 rfl
  clear hV
  go_wp2_with (go_at_call 17; refine HE.out.mono ?_; rintro e w1 ⟨rfl, r1⟩; have R1 := hide r1; clear r1)
  exact HQ.out _ _ ⟨rfl, rfl, rfl, rfl, rfl, rfl, rfl, rfl, rfl, rfl, rfl, rfl, rfl, rfl, rfl, rfl, rfl, rfl⟩ R1.out
theorem fw_r7y {K : Act → World → Prop} {c : Code} (hc : regOf (Try.f7.body.getD .skip) 7 = some c) (a : Act) {v : Vfw} {wq : World} {z : Int} (hF : Ffw a v) (h7v : v.v7 = .int .i64 z) (hz : z ≠ 0) (hQ : ∀ a', Ffw a' v → a'.tmps.getD 48 undef = .bool true → K a' wq) :
    Code.wp Try.prog c (Exit.then K fun _ _ _ => False) a wq := by
  have HQ := hide hQ
  clear hQ
  obtain ⟨v0, v1, v2, v4, v5, v6, v7, v8, v9, v10, v11, v12, v13, v14, v15, v16⟩ := v
  simp only at h7v HQ
  subst h7v
  obtain ⟨u, rfl⟩ := frx_fw hF
  clear hF
  simp only [Try.f7, Option.getD_some, regOf] at hc
  injection hc with hc
  subst hc
  have hd : (z != 0) = true := by simp [hz]
  go_wp2
  exact HQ.out _ ⟨rfl, rfl, rfl, rfl, rfl, rfl, rfl, rfl, rfl, rfl, rfl, rfl, rfl, rfl, rfl, rfl, rfl, rfl⟩ (by first | rfl | (simp; done))
theorem fw_r7n {K : Act → World → Prop} {c : Code} (hc : regOf (Try.f7.body.getD .skip) 7 = some c) (a : Act) {v : Vfw} {wq : World}  (hF : Ffw a v) (h7v : v.v7 = .int .i64 0) (hQ : ∀ a', Ffw a' v → a'.tmps.getD 48 undef = .bool false → K a' wq) :
    Code.wp Try.prog c (Exit.then K fun _ _ _ => False) a wq := by
  have HQ := hide hQ
  clear hQ
  obtain ⟨v0, v1, v2, v4, v5, v6, v7, v8, v9, v10, v11, v12, v13, v14, v15, v16⟩ := v
  simp only at h7v HQ
  subst h7v
  obtain ⟨u, rfl⟩ := frx_fw hF
  clear hF
  simp only [Try.f7, Option.getD_some, regOf] at hc
  injection hc with hc
  subst hc
  go_wp2
  exact HQ.out _ ⟨rfl, rfl, rfl, rfl, rfl, rfl, rfl, rfl, rfl, rfl, rfl, rfl, rfl, rfl, rfl, rfl, rfl, rfl⟩ (by first | rfl | (simp; done))
theorem fw_r8 {K : Act → World → Prop} {c : Code} (hc : regOf (Try.f7.body.getD .skip) 8 = some c) (a : Act) {v : Vfw} {wq : World} {z : Int} (hF : Ffw a v) (h5v : v.v5 = .bool true) (h6v : v.v6 = .string ⟨#[]⟩) (h7v : v.v7 = .int .i64 z) (h11v : v.v11 = .int .i64 z) (hQ : ∀ a', Ffw a' { v with v4 := .bool true } → K a' wq) :
    Code.wp Try.prog c (Exit.then K fun _ _ _ => False) a wq := by
  have HQ := hide hQ
  clear hQ
  obtain ⟨v0, v1, v2, v4, v5, v6, v7, v8, v9, v10, v11, v12, v13, v14, v15, v16⟩ := v
  simp only at h5v h6v h7v h11v HQ
  subst h5v h6v h7v h11v
  obtain ⟨u, rfl⟩ := frx_fw hF
  clear hF
  simp only [Try.f7, Option.getD_some, regOf] at hc
  injection hc with hc
  subst hc
  go_wp2
  exact HQ.out _ ⟨rfl, rfl, rfl, rfl, rfl, rfl, rfl, rfl, rfl, rfl, rfl, rfl, rfl, rfl, rfl, rfl, rfl, rfl⟩
theorem fw_r9 {K : Act → World → Prop} {c : Code} (hc : regOf (Try.f7.body.getD .skip) 9 = some c) (a : Act) {v : Vfw} {wq : World} {R : Option Addr → Nat → Option Addr → Nat → World → Prop} {s : ByteArray} {m k : Nat} {num z : Int} (hF : Ffw a v) (h6v : v.v6 = .string s) (hE : Calls Try.prog 19 #[.string s] wq fun e w' => ∃ (ro : Option Addr) (rc : Nat) (to' : Option Addr) (tc : Nat), e = .returned (.tuple #[.agg #[.int .i64 num, .slice ro m rc], .slice to' k tc, .int .i64 z]) ∧ R ro rc to' tc w')
    (hQ : ∀ a' w1 ro rc to' tc, Ffw a' { v with v12 := .pointer (some ⟨w1.heap.size, 0, none⟩), v13 := .slice to' k tc, v14 := .int .i64 z } → R ro rc to' tc w1 → K a' (w1.alloc (.cells #[.int .i64 num, .slice ro m rc] tView))) :
    Code.wp Try.prog c (Exit.then K fun _ _ _ => False) a wq := by
  have HQ := hide hQ
  clear hQ
  obtain ⟨v0, v1, v2, v4, v5, v6, v7, v8, v9, v10, v11, v12, v13, v14, v15, v16⟩ := v
  simp only at h6v HQ
  subst h6v
  obtain ⟨u, rfl⟩ := frx_fw hF
  clear hF
  simp only [Try.f7, Option.getD_some, regOf] at hc
  injection hc with hc
  subst hc
  have HE := hide hE
  clear hE
  go_wp2_with (go_at_call 19; refine HE.out.mono ?_; rintro e w1 ⟨ro, rc, to', tc, rfl, r1⟩; have R1 := hide r1; clear r1)
  exact HQ.out _ _ _ _ _ _ ⟨rfl, rfl, rfl, rfl, rfl, rfl, rfl, rfl, rfl, rfl, rfl, rfl, rfl, rfl, rfl, rfl, rfl, rfl⟩ R1.out
theorem fw_r10 {K : Act → World → Prop} {c : Code} (hc : regOf (Try.f7.body.getD .skip) 10 = some c) (a : Act) {v : Vfw} {wq : World} {R : World → Prop} {vb n cp : Nat} {num : Int} {ao : Option Addr} {ub cq : Nat} {bo : Option Addr} (hF : Ffw a v) (h12v : v.v12 = .pointer (some ⟨vb, 0, none⟩)) (h2v : v.v2 = .pointer (some ⟨ub, 0, none⟩)) (hV : wq.heap[vb]? = some (.cells #[.int .i64 num, .slice ao n cp] tView (0, 0))) (hU : wq.heap[ub]? = some (.cells #[.int .i64 num, .slice bo n cq] tView (0, 0))) (hE : Calls Try.prog 23 #[.agg #[.int .i64 num, .slice ao n cp], .agg #[.int .i64 num, .slice bo n cq]] wq fun e w' => e = .returned (.bool true) ∧ R w')
    (hQ : ∀ a' w1, Ffw a' { v with v15 := .bool true } → R w1 → K a' w1) :
    Code.wp Try.prog c (Exit.then K fun _ _ _ => False) a wq := by
  have HQ := hide hQ
  clear hQ
  obtain ⟨v0, v1, v2, v4, v5, v6, v7, v8, v9, v10, v11, v12, v13, v14, v15, v16⟩ := v
  simp only at h12v h2v HQ
  subst h12v h2v
  obtain ⟨u, rfl⟩ := frx_fw hF
  clear hF
  simp only [Try.f7, Option.getD_some, regOf] at hc
  injection hc with hc
  subst hc
  have HE := hide hE
  clear hE
  have z0 := box_cell hV 0 rfl
  have z1 := box_cell hV 1 rfl
  clear hV
  have y0 := box_cell hU 0 rfl
  have y1 := box_cell hU 1 rfl
  clear hU
  go_wp2_with (go_at_call 23; refine HE.out.mono ?_; rintro e w1 ⟨rfl, r1⟩; have R1 := hide r1; clear r1)
  exact HQ.out _ _ ⟨rfl, rfl, rfl, rfl, rfl, rfl, rfl, rfl, rfl, rfl, rfl, rfl, rfl, rfl, rfl, rfl, rfl, rfl⟩ R1.out
theorem fw_r11 {K : Act → World → Prop} {c : Code} (hc : regOf (Try.f7.body.getD .skip) 11 = some c) (a : Act) {v : Vfw} {wq : World} {R : World → Prop} {lo mo : Option Addr} {ln lc mc : Nat} (hF : Ffw a v) (h13v : v.v13 = .slice lo ln lc) (h8v : v.v8 = .slice mo ln mc) (hE : Calls Try.prog 12 #[.slice lo ln lc, .slice mo ln mc] wq fun e w' => e = .returned (.bool true) ∧ R w')
    (hQ : ∀ a' w1, Ffw a' { v with v16 := .bool true } → R w1 → K a' w1) :
    Code.wp Try.prog c (Exit.then K fun _ _ _ => False) a wq := by
  have HQ := hide hQ
  clear hQ
  obtain ⟨v0, v1, v2, v4, v5, v6, v7, v8, v9, v10, v11, v12, v13, v14, v15, v16⟩ := v
  simp only at h13v h8v HQ
  subst h13v h8v
  obtain ⟨u, rfl⟩ := frx_fw hF
  clear hF
  simp only [Try.f7, Option.getD_some, regOf] at hc
  injection hc with hc
  subst hc
  have HE := hide hE
  clear hE
  go_wp2_with (go_at_call 12; refine HE.out.mono ?_; rintro e w1 ⟨rfl, r1⟩; have R1 := hide r1; clear r1)
  exact HQ.out _ _ ⟨rfl, rfl, rfl, rfl, rfl, rfl, rfl, rfl, rfl, rfl, rfl, rfl, rfl, rfl, rfl, rfl, rfl, rfl⟩ R1.out
theorem fw_r12 {K : Act → World → Prop} {c : Code} (hc : regOf (Try.f7.body.getD .skip) 12 = some c) (a : Act) {v : Vfw} {wq : World} {s : ByteArray} (hF : Ffw a v) (h5v : v.v5 = .bool true) (h6v : v.v6 = .string s) (h10v : v.v10 = .string s) (h14v : v.v14 = .int .i64 0) (h15v : v.v15 = .bool true) (h16v : v.v16 = .bool true) (hQ : ∀ a', Ffw a' { v with v4 := .bool true } → K a' wq) :
    Code.wp Try.prog c (Exit.then K fun _ _ _ => False) a wq := by
  have HQ := hide hQ
  clear hQ
  obtain ⟨v0, v1, v2, v4, v5, v6, v7, v8, v9, v10, v11, v12, v13, v14, v15, v16⟩ := v
  simp only at h5v h6v h10v h14v h15v h16v HQ
  subst h5v h6v h10v h14v h15v h16v
  obtain ⟨u, rfl⟩ := frx_fw hF
  clear hF
  simp only [Try.f7, Option.getD_some, regOf] at hc
  injection hc with hc
  subst hc
  go_wp2
  exact HQ.out _ ⟨rfl, rfl, rfl, rfl, rfl, rfl, rfl, rfl, rfl, rfl, rfl, rfl, rfl, rfl, rfl, rfl, rfl, rfl⟩
theorem fw_ret {W : World} {a : Act} {v : Vfw} {x : Bool} {R : Ending → World → Prop} (hF : Ffw a v) (h2 : v.v4 = .bool x) (h : R (.returned (.bool x)) W) : bodyPost Try.prog Try.f7 R .ret a W := by
  have g0 := slot_get (hF.s4.trans h2)
  refine bodyPost_ret (v := .bool x) ?_ hF.defers h
  simp [results, Try.results7, go_sem, g0]
end Go.Proofs.Ytfcpclpaalekiaa
namespace Go.Proofs.Ytfcpclpaalekiaa
open Go.RowKit
set_option maxHeartbeats 8000000
set_option maxRecDepth 100000
attribute [local go_sem ↓] Go.wp_at_zero Go.wp_at_succ
set_option linter.unusedSimpArgs false
set_option linter.unusedVariables false
theorem encL_none {v : VW} {log : List ByteArray} (h : (encL v log).2 ≠ 0) : (encL v log).1 = [] := by
  unfold encL at h ⊢
  by_cases h1 : v.right
  · rw [if_pos h1] at h ⊢
    by_cases h2 : fitsL v log
    · rw [if_pos h2] at h; exact absurd rfl h
    · rw [if_neg h2]
  · rw [if_neg h1]
theorem fdecode_says (t : ByteArray) (w : World) (hs : t.size ≤ 9223372036854775807) {r : VW × List ByteArray × Int} (hr : decL t.data.toList = r) :
    Calls Try.prog 19 #[.string t] w fun e w' => ∃ (ro : Option Addr) (rc : Nat) (to' : Option Addr) (tc : Nat), e = .returned (.tuple #[.agg #[.int .i64 r.1.num, .slice ro r.1.mem.length rc], .slice to' r.2.1.length tc, .int .i64 r.2.2]) ∧ (MemsAt w' ro r.1.mem ∧ TextsAt w' to' r.2.1 ∧ Below w.heap.size w w') := by
  subst hr
  exact (fdecode t w hs).mono fun e w' ⟨⟨ro, rc, to', tc, h1, h2, h3⟩, h4⟩ => ⟨ro, rc, to', tc, h1, mems_of_row h2 rfl, texts_own h3, h4⟩
theorem flongest_says (ao : Option Addr) (cp : Nat) (l : List (List ByteArray)) (w : World) (hl : LogsAt w ao l) (hn : l.length ≤ 17592186044416) (hs : LogsOk l) :
    Calls Try.prog 11 #[.slice ao l.length cp] w fun e w' => ∃ (lo : Option Addr) (lc : Nat), e = .returned (.tuple #[.slice lo (longF l).1.length lc, .int .i64 (longF l).2]) ∧ (TextsAt w' lo (longF l).1 ∧ Below w.heap.size w w') :=
  (flongest ao cp l w hl hn hs).mono fun e w' ⟨lo, lc, h1, h2, h3⟩ => ⟨lo, lc, h1, texts_own h2, h3⟩
theorem owns_walk (v : VW) (ao lo : Option Addr) (cp lc : Nat) (logs : List (List ByteArray)) (w : World) (hM : MemsAt w ao v.mem) (hm : v.mem.length ≤ 4611686018427387903) (hL : LogsAt w lo logs) (hn : logs.length ≤ 17592186044416) (hs : LogsOk logs) :
    Calls Try.prog 7 #[v.v ao cp, .slice lo logs.length lc] w fun e w' => e = .returned (.bool true) ∧ Below w.heap.size w w' := by
  obtain ⟨m1, m2⟩ := mostF_nil_or hs
  have hlen := encL_len v (longF logs).1
  simp only [VW.v]
  go_enter Try.func7, Try.ntmps7
  have X0 := heap_alloc_new w (.cells #[.int .i64 v.num, .slice ao v.mem.length cp] tView)
  have B0 := (Below.refl w.heap.size w).alloc (Nat.le_refl _) (.cells #[.int .i64 v.num, .slice ao v.mem.length cp] tView)
  refine wp_seq (reg_mono (fw_r0 (by kernel_rfl) _ (v := ⟨_, _, _, _, _, _, _, _, _, _, _, _, _, _, _, _⟩) ⟨rfl, rfl, rfl, rfl, rfl, rfl, rfl, rfl, rfl, rfl, rfl, rfl, rfl, rfl, rfl, rfl, rfl, rfl⟩ rfl ?_))
  intro a0 F0
  try dsimp only at F0
  generalize w.alloc _ = w0 at *
  refine wp_seq (reg_mono (fw_r1 (by kernel_rfl) _ F0 (fexamples w0) ?_))
  intro a1 w1 F1 b1
  try dsimp only at F1
  have X1 := (b1.block _ (heap_lt X0)).trans X0
  have B1 := B0.trans (b1.mono B0.size)
  clear X0 B0 b1 F0
  have hown := fown v ao lo cp lc logs w1 (hM.below B1) hm (hL.below B1) hn hs
  simp only [VW.v] at hown
  refine wp_seq (reg_mono (fw_r2 (R := fun W => Below w1.heap.size w1 W) (by kernel_rfl) _ F1 rfl rfl X1 hown ?_))
  intro a2 w2 F2 b2
  try dsimp only at F2
  have X2 := (b2.block _ (heap_lt X1)).trans X1
  have B2 := B1.trans (b2.mono B1.size)
  refine wp_seq (reg_mono (fw_r3 (R := fun ro rc W => TextsAt W ro (longF logs).1 ∧ Below w2.heap.size w2 W) (by kernel_rfl) _ F2 rfl (flongest_says lo lc logs w2 (hL.below B2) hn hs) ?_))
  rintro a3 w3 ro rc F3 ⟨T3, b3⟩
  try dsimp only at F3
  have X3 := (b3.block _ (heap_lt X2)).trans X2
  have B3 := B2.trans (b3.mono B2.size)
  clear hown
  by_cases hf : (longF logs).2 = 0
  case neg =>
    have ho : ownL v logs = ([], (longF logs).2) := by unfold ownL; rw [if_neg hf]
    rw [ho] at F3
    refine wp_seq (wp_seq (reg_mono (fw_r4y (by kernel_rfl) _ F3 rfl hf ?_)))
    intro a4 F4 g4
    refine wp_cond_true g4 ?_
    refine wp_seq (reg_mono (fw_r5 (by kernel_rfl) _ F4 rfl rfl rfl rfl ?_))
    intro a5 F5
    refine wp_ret ?_
    try dsimp only [Exit.then, Exit.inBlock]
    exact fw_ret (x := true) F5 rfl ⟨rfl, B3⟩
  have ho : ownL v logs = encL v (longF logs).1 := by unfold ownL; rw [if_pos hf]
  rw [ho, hf] at F3
  generalize (longF logs).1 = L at *
  refine wp_seq (wp_seq (reg_mono (fw_r4n (by kernel_rfl) _ F3 rfl ?_)))
  intro a4 F4 g4
  refine wp_cond_false g4 (wp_skip ?_)
  show Code.wp _ _ _ _ _
  have henc := fencode v ao ro cp rc L w3 (hM.below B3) hm T3 (by omega) m2
  simp only [VW.v] at henc
  refine wp_seq (reg_mono (fw_r6 (R := fun W => Below w3.heap.size w3 W) (by kernel_rfl) _ F4 rfl rfl X3 henc ?_))
  intro a6 w6 F6 b6
  try dsimp only at F6
  have X6 := (b6.block _ (heap_lt X3)).trans X3
  have B6 := B3.trans (b6.mono B3.size)
  have T6 := T3.below b6
  by_cases he : (encL v L).2 = 0
  case neg =>
    rw [encL_none he] at F6
    refine wp_seq (wp_seq (reg_mono (fw_r7y (by kernel_rfl) _ F6 rfl he ?_)))
    intro a7 F7 g7
    refine wp_cond_true g7 ?_
    refine wp_seq (reg_mono (fw_r8 (by kernel_rfl) _ F7 rfl rfl rfl rfl ?_))
    intro a8 F8
    refine wp_ret ?_
    try dsimp only [Exit.then, Exit.inBlock]
    exact fw_ret (x := true) F8 rfl ⟨rfl, B6⟩
  obtain ⟨hd, hr⟩ := decL_encL he
  rw [he] at F6
  refine wp_seq (wp_seq (reg_mono (fw_r7n (by kernel_rfl) _ F6 rfl ?_)))
  intro a7 F7 g7
  refine wp_cond_false g7 (wp_skip ?_)
  show Code.wp _ _ _ _ _
  generalize hS : (encL v L).1 = S at *
  refine wp_seq (reg_mono (fw_r9 (R := fun ro rc to' tc W => MemsAt W ro v.mem ∧ TextsAt W to' L ∧ Below w6.heap.size w6 W) (by kernel_rfl) _ F7 rfl (fdecode_says ⟨S.toArray⟩ w6 (by show S.toArray.size ≤ _; simp only [List.size_toArray]; omega) (r := (v, L, 0)) (by simpa using hd)) ?_))
  rintro a9 w9 r9 c9 t9 k9 F9 ⟨M9, T9, b9⟩
  try dsimp only at F9
  have X9 := (b9.block _ (heap_lt X6)).trans X6
  have B9 := B6.trans (b9.mono B6.size)
  have T9b := T6.below b9
  have bu := (Below.refl w9.heap.size w9).alloc (Nat.le_refl _) (.cells #[.int .i64 v.num, .slice r9 v.mem.length c9] tView)
  have Y0 := heap_alloc_new w9 (.cells #[.int .i64 v.num, .slice r9 v.mem.length c9] tView)
  have X10 := (bu.block _ (heap_lt X9)).trans X9
  have B10 := B9.trans (bu.mono B9.size)
  have M10 := M9.below bu
  have T10 := T9.below bu
  have T10b := T9b.below bu
  generalize w9.heap.size = vb at *
  generalize w9.alloc _ = w10 at *
  have hvw := fviews v r9 ao c9 cp w10 M10 (hM.below B10) (by omega)
  simp only [VW.v] at hvw
  refine wp_seq (reg_mono (fw_r10 (R := fun W => Below w10.heap.size w10 W) (by kernel_rfl) _ F9 rfl rfl Y0 X10 hvw ?_))
  intro a10 w11 F10 b11
  try dsimp only at F10
  have B11 := B10.trans (b11.mono B10.size)
  refine wp_seq (reg_mono (fw_r11 (R := fun W => ∃ n, W = w11.drewN n) (by kernel_rfl) _ F10 rfl rfl (ptexts_eq t9 ro k9 rc L w11 (T10.below b11) (T10b.below b11) (by omega)) ?_))
  rintro a11 w12 F11 ⟨n12, rfl⟩
  try dsimp only at F11
  refine wp_seq (reg_mono (fw_r12 (by kernel_rfl) _ F11 rfl rfl rfl rfl rfl rfl ?_))
  intro a12 F12
  refine wp_ret ?_
  try dsimp only [Exit.then, Exit.inBlock]
  exact fw_ret (x := true) F12 rfl ⟨rfl, below_drewN B11 _⟩
end Go.Proofs.Ytfcpclpaalekiaa
namespace Go.Proofs.Ytfcpclpaalekiaa
open Go.ChangeShapes Go.WideShapes Go.ChangeAt Go.RowKit
set_option maxRecDepth 100000
open Go.ChangeMaps (open_string shut_string)
theorem flushOwns_lifted (os : Os) (started : os.Started) (H : Type) (enc : TypeId × Value → H) :
    ReturnsInHanded {} Try.checked os 7 .any (Rows.flushOwnsSpec.pre6 enc Try.prog Try.f7 Rows.flushOwnsRow.domain false) (Rows.flushOwnsSpec.post enc Try.prog Try.f7 false true false false) := by
  refine returnsInHanded_of_change_sized (C := Try.checked) own started (by kernel_rfl) Try.func7
    (ChangeSpec.witness6 (enc := enc) (C := Try.checked) false ⟨#[], #[.agg #[.int .i64 0, .slice none 0 0], .slice none 0 0], []⟩ 8 (by kernel_rfl) (by kernel_rfl) (by kernel_rfl) (by kernel_rfl)) ?_
  intro W base args ds gs before hval0 hW hcnd hsz0 _
  have hval : ∀ (j : Nat) t v, Try.f7.params[j]? = some t → args[j]? = some v → Value.okWide Try.prog W .any base t v := hval0
  have hsz : (DataW.weightsEach Try.prog (Try.f7.params.toList ++ Rows.flushOwnsSpec.plain.varTypes Try.prog) (ds ++ gs)).all (· ≤ reachBytes) = true := hsz0
  have hW' := hW
  obtain ⟨p, q, hA0, hV, rfl, hfz, hnd⟩ := hW
  have hA : DataW.TrodAll enc Try.prog W 0 (fun _ => true) true Try.f7.params.toList args.toList ds p := hA0
  rw [Try.params7] at hA hval hsz
  obtain ⟨v0, vs0, d0, ds0, p0, q0, hargs, rfl, rfl, h0, r0⟩ := trodAll_cons hA
  obtain ⟨v1, vs1, d1, ds1, p1, q1, rfl, rfl, rfl, h1, r1⟩ := trodAll_cons r0
  obtain ⟨rfl, rfl, rfl⟩ := trodAll_nil r1
  obtain rfl : args = #[v0, v1] := by cases args; simp_all
  obtain ⟨rfl, rfl⟩ := trodVars_none hV
  have k0 := h0
  have lt0 : ∀ x ∈ p0, x.block < W.heap.size := by obtain ⟨m, hm⟩ := k0; exact DataW.trod_lt m _ _ _ hm
  obtain ⟨a0, c0, x0, rfl, n0, m0, ok0, l0⟩ := view_param (hval 0 35 v0 rfl rfl) h0 hsz (j := 0) rfl rfl
  have k1 := h1
  have lt1 : ∀ x ∈ p1, x.block < W.heap.size := by obtain ⟨m, hm⟩ := k1; exact DataW.trod_lt m _ _ _ hm
  obtain ⟨a1, cap1, us1, rfl, cm1, in1, ln1, nz1⟩ := logs_param (hval 1 22 v1 rfl rfl) h1 hsz (j := 1) rfl rfl
  clear hA0 hval0
  refine (owns_walk x0 a0 a1 c0 cap1 us1 W m0 (by omega) cm1 (by omega) in1).mono fun e W' ⟨he, bel⟩ => ?_
  subst he
  exact ⟨_, rfl, _, _, _, [], _, [], hW', trodAll_mk1 (shut_bool Try.underlying4 _), (trodAll_cons_mk (Below.trod laidOut (by kernel_rfl) (of_decide_eq_true (by kernel_rfl)) k0 bel lt0) (trodAll_cons_mk (Below.trod laidOut (by kernel_rfl) (of_decide_eq_true (by kernel_rfl)) k1 bel lt1) trodAll_mk0)), rfl, bel.frame _, fun h => by cases h⟩
theorem flushOwns_holds : Rows.FlushOwnsSaid :=
  OpenClaim.holds_of_wide 7 Try.f7 rfl rfl rfl rfl rfl rfl rfl ⟨rfl, rfl, rfl, rfl, rfl⟩ rfl rfl rfl rfl rfl (by kernel_rfl) Try.func7 (by kernel_rfl)
    (of_decide_eq_true (by kernel_rfl)) (by unfold Func.isWrapper; first | (rw [if_pos (by decide +kernel)]; kernel_rfl) | (rw [if_neg (by decide +kernel)]; exact ⟨rfl, rfl⟩))
    (fun os started H enc _ => flushOwns_lifted os started H enc)
#print axioms flushOwns_holds
end Go.Proofs.Ytfcpclpaalekiaa
