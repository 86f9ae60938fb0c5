/-
  MachineAgree's regions (mkj24.py).
-/
import Derived.Test.YtlfodldlkchmoaaGreatZJ18
import Derived.Test.YtlfodldlkchmoaaGreatZYCl
import Derived.Laws.StructEq
namespace Go.Proofs.YtlfodldlkchmoaaGreat.Y
open Go.RowKit
set_option maxHeartbeats 8000000
set_option maxRecDepth 100000
attribute [local go_sem ↓] Go.wp_at_zero Go.wp_at_succ
set_option linter.unusedSimpArgs false
set_option linter.unusedVariables false
open Go.Maps
structure Two (w0 w : World) (La Lb : LM) (X Y : MS) : Prop where
  a : MAt w La X
  b : MAt w Lb Y
  ap : ∀ j, La.own j → ¬ Lb.own j
  bel : Below w0.heap.size w0 w
  oa : ∀ j, La.own j → w0.heap.size ≤ j
  ob : ∀ j, Lb.own j → w0.heap.size ≤ j
theorem Two.to {w0 w w' : World} {La Lb : LM} {X Y : MS} (h : Two w0 w La Lb X Y) (hb : Below w.heap.size w w') : Two w0 w' La Lb X Y := ⟨h.a.below hb, h.b.below hb, h.ap, h.bel.trans (hb.mono h.bel.size), h.oa, h.ob⟩
theorem Two.swap {w0 w : World} {La Lb : LM} {X Y : MS} (h : Two w0 w La Lb X Y) : Two w0 w Lb La Y X := ⟨h.b, h.a, fun j e e2 => h.ap j e2 e, h.bel, h.ob, h.oa⟩
theorem Two.stepA {w0 w w' : World} {La La' Lb : LM} {X X' Y : MS} (h : Two w0 w La Lb X Y) (s : MStep w w' La La') (ha : MAt w' La' X') : Two w0 w' La' Lb X' Y := by
  have hz := h.bel.size
  refine ⟨ha, h.b.keep s.touch fun j e e2 => h.ap j e2 e, fun j e e2 => ?_, h.bel.trans (s.touch.toBelow hz fun j hj e => by have := h.oa j e; omega), fun j e => ?_, h.ob⟩
  · rcases s.own j e with e3 | e3
    · exact h.ap j e3 e2
    · have := h.b.lim j e2; omega
  · rcases s.own j e with e3 | e3
    · exact h.oa j e3
    · omega
theorem Two.stepB {w0 w w' : World} {La Lb Lb' : LM} {X Y Y' : MS} (h : Two w0 w La Lb X Y) (s : MStep w w' Lb Lb') (hb : MAt w' Lb' Y') : Two w0 w' La Lb' X Y' := (h.swap.stepA s hb).swap
theorem frame_ag (t : Array Value) (h : t.size = 105) : ∃ u : Nat → Value, t = List.toArray (u 0 :: u 1 :: u 2 :: u 3 :: u 4 :: u 5 :: u 6 :: u 7 :: u 8 :: u 9 :: u 10 :: u 11 :: u 12 :: u 13 :: u 14 :: u 15 :: u 16 :: u 17 :: u 18 :: u 19 :: u 20 :: u 21 :: u 22 :: u 23 :: u 24 :: u 25 :: u 26 :: u 27 :: u 28 :: u 29 :: u 30 :: u 31 :: u 32 :: u 33 :: u 34 :: u 35 :: u 36 :: u 37 :: u 38 :: u 39 :: u 40 :: u 41 :: u 42 :: u 43 :: u 44 :: u 45 :: u 46 :: u 47 :: u 48 :: u 49 :: u 50 :: u 51 :: u 52 :: u 53 :: u 54 :: u 55 :: u 56 :: u 57 :: u 58 :: u 59 :: u 60 :: u 61 :: u 62 :: u 63 :: u 64 :: u 65 :: u 66 :: u 67 :: u 68 :: u 69 :: u 70 :: u 71 :: u 72 :: u 73 :: u 74 :: u 75 :: u 76 :: u 77 :: u 78 :: u 79 :: u 80 :: u 81 :: u 82 :: u 83 :: u 84 :: u 85 :: u 86 :: u 87 :: u 88 :: u 89 :: u 90 :: u 91 :: u 92 :: u 93 :: u 94 :: u 95 :: u 96 :: u 97 :: u 98 :: u 99 :: u 100 :: u 101 :: u 102 :: u 103 :: u 104 :: []) := by
  refine ⟨fun i => t.getD i undef, ?_⟩
  refine Eq.trans (b := ((List.range 105).map fun i => t.getD i undef).toArray) ?_ rfl
  apply Array.ext
  · simp [h]
  · intro k h1 h2
    simp [Array.getD, h1]
structure Vag where
  v0 : Value
  v1 : Value
  v2 : Value
  v5 : Value
  v6 : Value
  v7 : Value
  v8 : Value
  v9 : Value
  v10 : Value
  v11 : Value
  v12 : Value
  v13 : Value
  v14 : Value
  v15 : Value
structure Fag (a : Act) (v : Vag) : Prop where
  size : a.tmps.size = 105
  defers : a.defers = []
  s0 : a.tmps.getD 0 undef = v.v0
  s1 : a.tmps.getD 1 undef = v.v1
  s2 : a.tmps.getD 2 undef = v.v2
  s5 : a.tmps.getD 5 undef = v.v5
  s6 : a.tmps.getD 6 undef = v.v6
  s7 : a.tmps.getD 7 undef = v.v7
  s8 : a.tmps.getD 8 undef = v.v8
  s9 : a.tmps.getD 9 undef = v.v9
  s10 : a.tmps.getD 10 undef = v.v10
  s11 : a.tmps.getD 11 undef = v.v11
  s12 : a.tmps.getD 12 undef = v.v12
  s13 : a.tmps.getD 13 undef = v.v13
  s14 : a.tmps.getD 14 undef = v.v14
  s15 : a.tmps.getD 15 undef = v.v15
theorem frx_ag {a : Act} {v0 v1 v2 v5 v6 v7 v8 v9 v10 v11 v12 v13 v14 v15 : Value} (h : Fag a ⟨v0, v1, v2, v5, v6, v7, v8, v9, v10, v11, v12, v13, v14, v15⟩) : ∃ u : Nat → Value, a = ⟨List.toArray (v0 :: v1 :: v2 :: u 3 :: u 4 :: v5 :: v6 :: v7 :: v8 :: v9 :: v10 :: v11 :: v12 :: v13 :: v14 :: v15 :: u 16 :: u 17 :: u 18 :: u 19 :: u 20 :: u 21 :: u 22 :: u 23 :: u 24 :: u 25 :: u 26 :: u 27 :: u 28 :: u 29 :: u 30 :: u 31 :: u 32 :: u 33 :: u 34 :: u 35 :: u 36 :: u 37 :: u 38 :: u 39 :: u 40 :: u 41 :: u 42 :: u 43 :: u 44 :: u 45 :: u 46 :: u 47 :: u 48 :: u 49 :: u 50 :: u 51 :: u 52 :: u 53 :: u 54 :: u 55 :: u 56 :: u 57 :: u 58 :: u 59 :: u 60 :: u 61 :: u 62 :: u 63 :: u 64 :: u 65 :: u 66 :: u 67 :: u 68 :: u 69 :: u 70 :: u 71 :: u 72 :: u 73 :: u 74 :: u 75 :: u 76 :: u 77 :: u 78 :: u 79 :: u 80 :: u 81 :: u 82 :: u 83 :: u 84 :: u 85 :: u 86 :: u 87 :: u 88 :: u 89 :: u 90 :: u 91 :: u 92 :: u 93 :: u 94 :: u 95 :: u 96 :: u 97 :: u 98 :: u 99 :: u 100 :: u 101 :: u 102 :: u 103 :: u 104 :: []), []⟩ := by
  obtain ⟨t', d'⟩ := a
  obtain ⟨hs, hd, q0, q1, q2, q5, q6, q7, q8, q9, q10, q11, q12, q13, q14, q15⟩ := h
  obtain ⟨u, hu⟩ := frame_ag t' hs
  simp only at hd q0 q1 q2 q5 q6 q7 q8 q9 q10 q11 q12 q13 q14 q15
  subst hu hd
  have e0 : u 0 = v0 := q0
  have e1 : u 1 = v1 := q1
  have e2 : u 2 = v2 := q2
  have e5 : u 5 = v5 := q5
  have e6 : u 6 = v6 := q6
  have e7 : u 7 = v7 := q7
  have e8 : u 8 = v8 := q8
  have e9 : u 9 = v9 := q9
  have e10 : u 10 = v10 := q10
  have e11 : u 11 = v11 := q11
  have e12 : u 12 = v12 := q12
  have e13 : u 13 = v13 := q13
  have e14 : u 14 = v14 := q14
  have e15 : u 15 = v15 := q15
  refine ⟨u, ?_⟩
  rw [e0, e1, e2, e5, e6, e7, e8, e9, e10, e11, e12, e13, e14, e15]
theorem ag_r0 {K : Act → World → Prop} {c : Code} (hc : regOf (Tryz.f4.body.getD .skip) 0 = some c) (a : Act) {v : Vag} {wq : World} {de : GD} (hF : Fag a v) (h2v : v.v2 = .agg #[.int .i64 de.c.kind, .string de.c.topic, .string de.c.name, .int .i64 de.c.seq, .string de.c.key, .string de.c.val, .int .i64 de.c.n, .int .i64 de.c.node, .int .i64 de.c.ask, .string de.s]) (hQ : ∀ a', Fag a' { v with v5 := .pointer (some ⟨wq.heap.size, 0, none⟩), v6 := .bool false } → K a' (wq.alloc (.cells #[.int .i64 de.c.kind, .string de.c.topic, .string de.c.name, .int .i64 de.c.seq, .string de.c.key, .string de.c.val, .int .i64 de.c.n, .int .i64 de.c.node, .int .i64 de.c.ask, .string de.s] 33))) :
    Code.wp Tryz.prog c (Exit.then K fun _ _ _ => False) a wq := by
  have HQ := hide hQ
  clear hQ
  obtain ⟨v0, v1, v2, v5, v6, v7, v8, v9, v10, v11, v12, v13, v14, v15⟩ := v
  simp only at h2v HQ
  subst h2v
  obtain ⟨u, rfl⟩ := frx_ag hF
  clear hF
  simp only [Tryz.f4, Option.getD_some, regOf] at hc
  injection hc with hc
  subst hc
  go_wp2
  exact HQ.out _ ⟨rfl, rfl, rfl, rfl, rfl, rfl, rfl, rfl, rfl, rfl, rfl, rfl, rfl, rfl, rfl, rfl⟩
theorem ag_r1 {K : Act → World → Prop} {c : Code} (hc : regOf (Tryz.f4.body.getD .skip) 1 = some c) (a : Act) {v : Vag} {wq : World}  (hF : Fag a v) (hE : Calls Tryz.prog 8 #[] wq fun e w' => e = .returned (.bool true) ∧ Below wq.heap.size wq w')
    (hQ : ∀ a' w1, Fag a' { v with v7 := .bool true } → Below wq.heap.size wq w1 → K a' w1) :
    Code.wp Tryz.prog c (Exit.then K fun _ _ _ => False) a wq := by
  have HQ := hide hQ
  clear hQ
  obtain ⟨v0, v1, v2, v5, v6, v7, v8, v9, v10, v11, v12, v13, v14, v15⟩ := v
  obtain ⟨u, rfl⟩ := frx_ag hF
  clear hF
  simp only [Tryz.f4, Option.getD_some, regOf] at hc
  injection hc with hc
  subst hc
  have HE := hide hE
  clear hE
  go_wp2_with (go_at_call 8; refine HE.out.mono ?_; rintro e w1 ⟨rfl, b1⟩; have B1 := hide b1; clear b1)
  exact HQ.out _ _ ⟨rfl, rfl, rfl, rfl, rfl, rfl, rfl, rfl, rfl, rfl, rfl, rfl, rfl, rfl, rfl, rfl⟩ B1.out
theorem ag_r2 {K : Act → World → Prop} {c : Code} (hc : regOf (Tryz.f4.body.getD .skip) 2 = some c) (a : Act) {v : Vag} {wq : World} {n ec : Int} {R : Option Addr → World → Prop} (hF : Fag a v) (h0v : v.v0 = .int .i64 n) (hE : Calls Tryz.prog 9 #[.int .i64 n] wq fun e w' => ∃ po, e = .returned (.tuple #[.pointer po, .int .i64 ec]) ∧ R po w')
    (hQ : ∀ a' w1 po, Fag a' { v with v8 := .pointer po, v9 := .int .i64 ec } → R po w1 → K a' w1) :
    Code.wp Tryz.prog c (Exit.then K fun _ _ _ => False) a wq := by
  have HQ := hide hQ
  clear hQ
  obtain ⟨v0, v1, v2, v5, v6, v7, v8, v9, v10, v11, v12, v13, v14, v15⟩ := v
  simp only at h0v HQ
  subst h0v
  obtain ⟨u, rfl⟩ := frx_ag hF
  clear hF
  simp only [Tryz.f4, Option.getD_some, regOf] at hc
  injection hc with hc
  subst hc
  have HE := hide hE
  clear hE
  go_wp2_with (go_at_call 9; refine HE.out.mono ?_; rintro e w1 ⟨po, rfl, r1⟩; have R1 := hide r1; clear r1)
  exact HQ.out _ _ _ ⟨rfl, rfl, rfl, rfl, rfl, rfl, rfl, rfl, rfl, rfl, rfl, rfl, rfl, rfl, rfl, rfl⟩ R1.out
theorem ag_r3 {K : Act → World → Prop} {c : Code} (hc : regOf (Tryz.f4.body.getD .skip) 3 = some c) (a : Act) {v : Vag} {wq : World} {n ec : Int} {R : Option Addr → World → Prop} (hF : Fag a v) (h0v : v.v0 = .int .i64 n) (hE : Calls Tryz.prog 9 #[.int .i64 n] wq fun e w' => ∃ po, e = .returned (.tuple #[.pointer po, .int .i64 ec]) ∧ R po w')
    (hQ : ∀ a' w1 po, Fag a' { v with v10 := .pointer po, v11 := .int .i64 ec } → R po w1 → K a' w1) :
    Code.wp Tryz.prog c (Exit.then K fun _ _ _ => False) a wq := by
  have HQ := hide hQ
  clear hQ
  obtain ⟨v0, v1, v2, v5, v6, v7, v8, v9, v10, v11, v12, v13, v14, v15⟩ := v
  simp only at h0v HQ
  subst h0v
  obtain ⟨u, rfl⟩ := frx_ag hF
  clear hF
  simp only [Tryz.f4, Option.getD_some, regOf] at hc
  injection hc with hc
  subst hc
  have HE := hide hE
  clear hE
  go_wp2_with (go_at_call 9; refine HE.out.mono ?_; rintro e w1 ⟨po, rfl, r1⟩; have R1 := hide r1; clear r1)
  exact HQ.out _ _ _ ⟨rfl, rfl, rfl, rfl, rfl, rfl, rfl, rfl, rfl, rfl, rfl, rfl, rfl, rfl, rfl, rfl⟩ R1.out
theorem ag_r4b {K : Act → World → Prop} {c : Code} (hc : regOf (Tryz.f4.body.getD .skip) 4 = some c) (a : Act) {v : Vag} {wq : World}  (hF : Fag a v) (h9v : v.v9 = .int .i64 1) (hQ : ∀ a', Fag a' v → a'.tmps.getD 40 undef = .bool true → K a' wq) :
    Code.wp Tryz.prog c (Exit.then K fun _ _ _ => False) a wq := by
  have HQ := hide hQ
  clear hQ
  obtain ⟨v0, v1, v2, v5, v6, v7, v8, v9, v10, v11, v12, v13, v14, v15⟩ := v
  simp only at h9v HQ
  subst h9v
  obtain ⟨u, rfl⟩ := frx_ag hF
  clear hF
  simp only [Tryz.f4, Option.getD_some, regOf] at hc
  injection hc with hc
  subst hc
  go_wp2
  exact HQ.out _ ⟨rfl, rfl, rfl, rfl, rfl, rfl, rfl, rfl, rfl, rfl, rfl, rfl, rfl, rfl, rfl, rfl⟩ (by first | rfl | (simp; done))
theorem ag_r4g {K : Act → World → Prop} {c : Code} (hc : regOf (Tryz.f4.body.getD .skip) 4 = some c) (a : Act) {v : Vag} {wq : World} {ma mb : Nat} (hF : Fag a v) (h8v : v.v8 = .pointer (some ⟨ma, 0, none⟩)) (h9v : v.v9 = .int .i64 0) (h10v : v.v10 = .pointer (some ⟨mb, 0, none⟩)) (h11v : v.v11 = .int .i64 0) (hQ : ∀ a', Fag a' v → a'.tmps.getD 40 undef = .bool false → K a' wq) :
    Code.wp Tryz.prog c (Exit.then K fun _ _ _ => False) a wq := by
  have HQ := hide hQ
  clear hQ
  obtain ⟨v0, v1, v2, v5, v6, v7, v8, v9, v10, v11, v12, v13, v14, v15⟩ := v
  simp only at h8v h9v h10v h11v HQ
  subst h8v h9v h10v h11v
  obtain ⟨u, rfl⟩ := frx_ag hF
  clear hF
  simp only [Tryz.f4, Option.getD_some, regOf] at hc
  injection hc with hc
  subst hc
  go_wp2
  exact HQ.out _ ⟨rfl, rfl, rfl, rfl, rfl, rfl, rfl, rfl, rfl, rfl, rfl, rfl, rfl, rfl, rfl, rfl⟩ (by first | rfl | (simp; done))
theorem ag_r5 {K : Act → World → Prop} {c : Code} (hc : regOf (Tryz.f4.body.getD .skip) 5 = some c) (a : Act) {v : Vag} {wq : World}  (hF : Fag a v) (h7v : v.v7 = .bool true) (h9v : v.v9 = .int .i64 1) (h11v : v.v11 = .int .i64 1) (hQ : ∀ a', Fag a' { v with v6 := .bool true } → K a' wq) :
    Code.wp Tryz.prog c (Exit.then K fun _ _ _ => False) a wq := by
  have HQ := hide hQ
  clear hQ
  obtain ⟨v0, v1, v2, v5, v6, v7, v8, v9, v10, v11, v12, v13, v14, v15⟩ := v
  simp only at h7v h9v h11v HQ
  subst h7v h9v h11v
  obtain ⟨u, rfl⟩ := frx_ag hF
  clear hF
  simp only [Tryz.f4, Option.getD_some, regOf] at hc
  injection hc with hc
  subst hc
  go_wp2
  exact HQ.out _ ⟨rfl, rfl, rfl, rfl, rfl, rfl, rfl, rfl, rfl, rfl, rfl, rfl, rfl, rfl, rfl, rfl⟩
theorem ag_r6 {K : Act → World → Prop} {c : Code} (hc : regOf (Tryz.f4.body.getD .skip) 6 = some c) (a : Act) {v : Vag} {wq : World}  (hF : Fag a v) (hQ : ∀ a', Fag a' { v with v12 := .int .i64 ((0 : Nat) : Int) } → K a' wq) :
    Code.wp Tryz.prog c (Exit.then K fun _ _ _ => False) a wq := by
  have HQ := hide hQ
  clear hQ
  obtain ⟨v0, v1, v2, v5, v6, v7, v8, v9, v10, v11, v12, v13, v14, v15⟩ := v
  obtain ⟨u, rfl⟩ := frx_ag hF
  clear hF
  simp only [Tryz.f4, Option.getD_some, regOf] at hc
  injection hc with hc
  subst hc
  go_wp2
  exact HQ.out _ ⟨rfl, rfl, rfl, rfl, rfl, rfl, rfl, rfl, rfl, rfl, rfl, rfl, rfl, rfl, rfl, rfl⟩
theorem ag_r7n {K : Act → World → Prop} {c : Code} (hc : regOf (Tryz.f4.body.getD .skip) 7 = some c) (a : Act) {v : Vag} {wq : World} {ao : Option Addr} {n cp k : Nat} (hF : Fag a v) (h1v : v.v1 = .slice ao n cp) (h12v : v.v12 = .int .i64 (k : Int)) (hk : ¬ (k : Int) < (n : Int)) (hQ : ∀ a', Fag a' v → a'.tmps.getD 54 undef = .bool false → K a' wq) :
    Code.wp Tryz.prog c (Exit.then K fun _ _ _ => False) a wq := by
  have HQ := hide hQ
  clear hQ
  obtain ⟨v0, v1, v2, v5, v6, v7, v8, v9, v10, v11, v12, v13, v14, v15⟩ := v
  simp only at h1v h12v HQ
  subst h1v h12v
  obtain ⟨u, rfl⟩ := frx_ag hF
  clear hF
  simp only [Tryz.f4, Option.getD_some, regOf] at hc
  injection hc with hc
  subst hc
  have hd : decide ((k : Int) < (n : Int)) = false := decide_eq_false hk
  go_wp2
  exact HQ.out _ ⟨rfl, rfl, rfl, rfl, rfl, rfl, rfl, rfl, rfl, rfl, rfl, rfl, rfl, rfl, rfl, rfl⟩ (by first | rfl | (simp; done))
theorem ag_r7y {K : Act → World → Prop} {c : Code} (hc : regOf (Tryz.f4.body.getD .skip) 7 = some c) (a : Act) {v : Vag} {wq : World} {ao : Option Addr} {n cp k : Nat} (hF : Fag a v) (h1v : v.v1 = .slice ao n cp) (h12v : v.v12 = .int .i64 (k : Int)) (hk : (k : Int) < (n : Int)) (hQ : ∀ a', Fag a' v → a'.tmps.getD 54 undef = .bool (decide ((k : Int) < 80)) → K a' wq) :
    Code.wp Tryz.prog c (Exit.then K fun _ _ _ => False) a wq := by
  have HQ := hide hQ
  clear hQ
  obtain ⟨v0, v1, v2, v5, v6, v7, v8, v9, v10, v11, v12, v13, v14, v15⟩ := v
  simp only at h1v h12v HQ
  subst h1v h12v
  obtain ⟨u, rfl⟩ := frx_ag hF
  clear hF
  simp only [Tryz.f4, Option.getD_some, regOf] at hc
  injection hc with hc
  subst hc
  have hd : decide ((k : Int) < (n : Int)) = true := decide_eq_true hk
  go_wp2
  exact HQ.out _ ⟨rfl, rfl, rfl, rfl, rfl, rfl, rfl, rfl, rfl, rfl, rfl, rfl, rfl, rfl, rfl, rfl⟩ (by first | rfl | (simp; done))
theorem ag_r9 {K : Act → World → Prop} {c : Code} (hc : regOf (Tryz.f4.body.getD .skip) 9 = some c) (a : Act) {v : Vag} {wq : World} {db df n cp k ln mb : Nat} {de : GD} {tx : ByteArray} {x y : Int} {R : Option Addr → Nat → World → World → Prop} (hF : Fag a v) (h1v : v.v1 = .slice (some ⟨db, df, none⟩) n cp) (h8v : v.v8 = .pointer (some ⟨mb, 0, none⟩)) (h12v : v.v12 = .int .i64 (k : Int)) (hk : k < n) (hD : GDAt wq db (df + k * 10) de) (hT : Calls Tryz.prog 11 #[.agg #[.int .i64 de.c.kind, .string de.c.topic, .string de.c.name, .int .i64 de.c.seq, .string de.c.key, .string de.c.val, .int .i64 de.c.n, .int .i64 de.c.node, .int .i64 de.c.ask, .string de.s]] wq fun e w' => e = .returned (.string tx) ∧ Below wq.heap.size wq w') (hA : ∀ W, Below wq.heap.size wq W → Calls Tryz.prog 12 #[.pointer (some ⟨mb, 0, none⟩), .string tx] W fun e w' => ∃ aq cq, e = .returned (.agg #[.int .i64 x, .int .i64 y, .slice aq ln cq]) ∧ R aq cq W w')
    (hQ : ∀ a' W w1 aq cq, Fag a' { v with v13 := .pointer (some ⟨w1.heap.size, 0, none⟩) } → Below wq.heap.size wq W → R aq cq W w1 → K a' (w1.alloc (.cells #[.int .i64 x, .int .i64 y, .slice aq ln cq] 37))) :
    Code.wp Tryz.prog c (Exit.then K fun _ _ _ => False) a wq := by
  have HQ := hide hQ
  clear hQ
  obtain ⟨v0, v1, v2, v5, v6, v7, v8, v9, v10, v11, v12, v13, v14, v15⟩ := v
  simp only at h1v h8v h12v HQ
  subst h1v h8v h12v
  obtain ⟨u, rfl⟩ := frx_ag hF
  clear hF
  simp only [Tryz.f4, Option.getD_some, regOf] at hc
  injection hc with hc
  subst hc
  have HT := hide hT
  have HA := hide hA
  clear hT hA
  obtain ⟨c0, c1, c2, c3, c4, c5, c6, c7, c8, c9⟩ := hD
  have i0 : (0 : Int) ≤ (k : Int) := by omega
  have i1 : (k : Int) < (n : Int) := by omega
  go_wp2_with (first | (go_at_call 11; refine HT.out.mono ?_; rintro e w1 ⟨rfl, b1⟩; have B1 := hide b1; clear b1) | (go_at_call 12; refine (HA.out _ B1.out).mono ?_; rintro e w2 ⟨aq, cq, rfl, r1⟩; have R1 := hide r1; clear r1))
  exact HQ.out _ _ _ _ _ ⟨rfl, rfl, rfl, rfl, rfl, rfl, rfl, rfl, rfl, rfl, rfl, rfl, rfl, rfl, rfl, rfl⟩ B1.out R1.out
theorem ag_r10 {K : Act → World → Prop} {c : Code} (hc : regOf (Tryz.f4.body.getD .skip) 10 = some c) (a : Act) {v : Vag} {wq : World} {db df n cp k ln mb : Nat} {de : GD} {tx : ByteArray} {x y : Int} {R : Option Addr → Nat → World → World → Prop} (hF : Fag a v) (h1v : v.v1 = .slice (some ⟨db, df, none⟩) n cp) (h10v : v.v10 = .pointer (some ⟨mb, 0, none⟩)) (h12v : v.v12 = .int .i64 (k : Int)) (hk : k < n) (hD : GDAt wq db (df + k * 10) de) (hT : Calls Tryz.prog 11 #[.agg #[.int .i64 de.c.kind, .string de.c.topic, .string de.c.name, .int .i64 de.c.seq, .string de.c.key, .string de.c.val, .int .i64 de.c.n, .int .i64 de.c.node, .int .i64 de.c.ask, .string de.s]] wq fun e w' => e = .returned (.string tx) ∧ Below wq.heap.size wq w') (hA : ∀ W, Below wq.heap.size wq W → Calls Tryz.prog 12 #[.pointer (some ⟨mb, 0, none⟩), .string tx] W fun e w' => ∃ aq cq, e = .returned (.agg #[.int .i64 x, .int .i64 y, .slice aq ln cq]) ∧ R aq cq W w')
    (hQ : ∀ a' W w1 aq cq, Fag a' { v with v14 := .pointer (some ⟨w1.heap.size, 0, none⟩) } → Below wq.heap.size wq W → R aq cq W w1 → K a' (w1.alloc (.cells #[.int .i64 x, .int .i64 y, .slice aq ln cq] 37))) :
    Code.wp Tryz.prog c (Exit.then K fun _ _ _ => False) a wq := by
  have HQ := hide hQ
  clear hQ
  obtain ⟨v0, v1, v2, v5, v6, v7, v8, v9, v10, v11, v12, v13, v14, v15⟩ := v
  simp only at h1v h10v h12v HQ
  subst h1v h10v h12v
  obtain ⟨u, rfl⟩ := frx_ag hF
  clear hF
  simp only [Tryz.f4, Option.getD_some, regOf] at hc
  injection hc with hc
  subst hc
  have HT := hide hT
  have HA := hide hA
  clear hT hA
  obtain ⟨c0, c1, c2, c3, c4, c5, c6, c7, c8, c9⟩ := hD
  have i0 : (0 : Int) ≤ (k : Int) := by omega
  have i1 : (k : Int) < (n : Int) := by omega
  go_wp2_with (first | (go_at_call 11; refine HT.out.mono ?_; rintro e w1 ⟨rfl, b1⟩; have B1 := hide b1; clear b1) | (go_at_call 12; refine (HA.out _ B1.out).mono ?_; rintro e w2 ⟨aq, cq, rfl, r1⟩; have R1 := hide r1; clear r1))
  exact HQ.out _ _ _ _ _ ⟨rfl, rfl, rfl, rfl, rfl, rfl, rfl, rfl, rfl, rfl, rfl, rfl, rfl, rfl, rfl, rfl⟩ B1.out R1.out
theorem ag_r11 {K : Act → World → Prop} {c : Code} (hc : regOf (Tryz.f4.body.getD .skip) 11 = some c) (a : Act) {v : Vag} {wq : World} {b1 b2 ln pc qc : Nat} {po qo : Option Addr} {x y : Int} (hF : Fag a v) (h13v : v.v13 = .pointer (some ⟨b1, 0, none⟩)) (h14v : v.v14 = .pointer (some ⟨b2, 0, none⟩)) (hp : wq.heap[b1]? = some (.cells #[.int .i64 x, .int .i64 y, .slice po ln pc] 37 (0, 0))) (hq : wq.heap[b2]? = some (.cells #[.int .i64 x, .int .i64 y, .slice qo ln qc] 37 (0, 0))) (hE : Calls Tryz.prog 14 #[.agg #[.int .i64 x, .int .i64 y, .slice po ln pc], .agg #[.int .i64 x, .int .i64 y, .slice qo ln qc]] wq fun e w' => e = .returned (.bool true) ∧ Below wq.heap.size wq w')
    (hQ : ∀ a' w1, Fag a' { v with v15 := .bool true } → Below wq.heap.size wq w1 → K a' w1) :
    Code.wp Tryz.prog c (Exit.then K fun _ _ _ => False) a wq := by
  have HQ := hide hQ
  clear hQ
  obtain ⟨v0, v1, v2, v5, v6, v7, v8, v9, v10, v11, v12, v13, v14, v15⟩ := v
  simp only at h13v h14v HQ
  subst h13v h14v
  obtain ⟨u, rfl⟩ := frx_ag hF
  clear hF
  simp only [Tryz.f4, Option.getD_some, regOf] at hc
  injection hc with hc
  subst hc
  have HE := hide hE
  clear hE
  have u0 := box_cell hp 0 rfl
  have t0 := box_cell hq 0 rfl
  have u1 := box_cell hp 1 rfl
  have t1 := box_cell hq 1 rfl
  have u2 := box_cell hp 2 rfl
  have t2 := box_cell hq 2 rfl
  clear hp hq
  go_wp2_with (go_at_call 14; refine HE.out.mono ?_; rintro e w1 ⟨rfl, b1⟩; have B1 := hide b1; clear b1)
  exact HQ.out _ _ ⟨rfl, rfl, rfl, rfl, rfl, rfl, rfl, rfl, rfl, rfl, rfl, rfl, rfl, rfl, rfl, rfl⟩ B1.out
theorem ag_r12 {K : Act → World → Prop} {c : Code} (hc : regOf (Tryz.f4.body.getD .skip) 12 = some c) (a : Act) {v : Vag} {wq : World} {ma mb : Nat} {re im : Int} (hF : Fag a v) (h8v : v.v8 = .pointer (some ⟨ma, 0, none⟩)) (h10v : v.v10 = .pointer (some ⟨mb, 0, none⟩)) (h15v : v.v15 = .bool true) (hA : Calls Tryz.prog 16 #[.pointer (some ⟨ma, 0, none⟩)] wq fun e w' => e = .returned (.agg #[.int .i64 re, .int .i64 im]) ∧ Below wq.heap.size wq w') (hB : ∀ W, Below wq.heap.size wq W → Calls Tryz.prog 16 #[.pointer (some ⟨mb, 0, none⟩)] W fun e w' => e = .returned (.agg #[.int .i64 re, .int .i64 im]) ∧ Below W.heap.size W w')
    (hQ : ∀ a' w1, Fag a' v → a'.tmps.getD 82 undef = .bool false → Below wq.heap.size wq w1 → K a' w1) :
    Code.wp Tryz.prog c (Exit.then K fun _ _ _ => False) a wq := by
  have HQ := hide hQ
  clear hQ
  obtain ⟨v0, v1, v2, v5, v6, v7, v8, v9, v10, v11, v12, v13, v14, v15⟩ := v
  simp only at h8v h10v h15v HQ
  subst h8v h10v h15v
  obtain ⟨u, rfl⟩ := frx_ag hF
  clear hF
  simp only [Tryz.f4, Option.getD_some, regOf] at hc
  injection hc with hc
  subst hc
  have HA := hide hA
  have HB := hide hB
  clear hA hB
  go_wp2_with fail
  refine HA.out.mono ?_
  rintro e w1 ⟨rfl, b1⟩
  have B1 := hide b1
  clear b1
  go_wp2_with fail
  refine (HB.out _ B1.out).mono ?_
  rintro e w2 ⟨rfl, b2⟩
  have B2 := hide (B1.out.trans (b2.mono B1.out.size))
  clear b2
  go_wp2_with fail
  exact HQ.out _ _ ⟨rfl, rfl, rfl, rfl, rfl, rfl, rfl, rfl, rfl, rfl, rfl, rfl, rfl, rfl, rfl, rfl⟩ (by first | rfl | (simp; done)) B2.out
theorem ag_r8 {K : Act → World → Prop} {c : Code} (hc : regOf (Tryz.f4.body.getD .skip) 8 = some c) (a : Act) {v : Vag} {wq : World} {i : Nat} (hF : Fag a v) (h12v : v.v12 = .int .i64 (i : Int)) (hi : i ≤ 1000000)
    (hQ : ∀ a', Fag a' { v with v12 := .int .i64 ((i + 1 : Nat) : Int) } → K a' wq) :
    Code.wp Tryz.prog c (Exit.then K fun _ _ _ => False) a wq := by
  have HQ := hide hQ
  clear hQ
  obtain ⟨v0, v1, v2, v5, v6, v7, v8, v9, v10, v11, v12, v13, v14, v15⟩ := v
  simp only at h12v HQ
  subst h12v
  obtain ⟨u, rfl⟩ := frx_ag hF
  clear hF
  simp only [Tryz.f4, Option.getD_some, regOf] at hc
  injection hc with hc
  subst hc
  go_wp2
  exact HQ.out _ ⟨rfl, rfl, rfl, rfl, rfl, rfl, rfl, rfl, rfl, rfl, rfl, rfl, (by first | rfl | (simp; done) | (go_num; done)), rfl, rfl, rfl⟩
theorem ag_r14 {K : Act → World → Prop} {c : Code} (hc : regOf (Tryz.f4.body.getD .skip) 14 = some c) (a : Act) {v : Vag} {wq : World} {db mb : Nat} {de : GD} {tx : ByteArray} {R : World → World → Prop} (hF : Fag a v) (h5v : v.v5 = .pointer (some ⟨db, 0, none⟩)) (h8v : v.v8 = .pointer (some ⟨mb, 0, none⟩)) (hD : wq.heap[db]? = some (.cells #[.int .i64 de.c.kind, .string de.c.topic, .string de.c.name, .int .i64 de.c.seq, .string de.c.key, .string de.c.val, .int .i64 de.c.n, .int .i64 de.c.node, .int .i64 de.c.ask, .string de.s] 33 (0, 0))) (hT : Calls Tryz.prog 11 #[.agg #[.int .i64 de.c.kind, .string de.c.topic, .string de.c.name, .int .i64 de.c.seq, .string de.c.key, .string de.c.val, .int .i64 de.c.n, .int .i64 de.c.node, .int .i64 de.c.ask, .string de.s]] wq fun e w' => e = .returned (.string tx) ∧ Below wq.heap.size wq w') (hA : ∀ W, Below wq.heap.size wq W → Calls Tryz.prog 12 #[.pointer (some ⟨mb, 0, none⟩), .string tx] W fun e w' => ∃ x y aq ln cq, e = .returned (.agg #[.int .i64 x, .int .i64 y, .slice aq ln cq]) ∧ R W w')
    (hQ : ∀ a' W w1, Fag a' v → Below wq.heap.size wq W → R W w1 → K a' w1) :
    Code.wp Tryz.prog c (Exit.then K fun _ _ _ => False) a wq := by
  have HQ := hide hQ
  clear hQ
  obtain ⟨v0, v1, v2, v5, v6, v7, v8, v9, v10, v11, v12, v13, v14, v15⟩ := v
  simp only at h5v h8v HQ
  subst h5v h8v
  obtain ⟨u, rfl⟩ := frx_ag hF
  clear hF
  simp only [Tryz.f4, Option.getD_some, regOf] at hc
  injection hc with hc
  subst hc
  have HT := hide hT
  have HA := hide hA
  clear hT hA
  have c0 := box_cell hD 0 rfl
  have c1 := box_cell hD 1 rfl
  have c2 := box_cell hD 2 rfl
  have c3 := box_cell hD 3 rfl
  have c4 := box_cell hD 4 rfl
  have c5 := box_cell hD 5 rfl
  have c6 := box_cell hD 6 rfl
  have c7 := box_cell hD 7 rfl
  have c8 := box_cell hD 8 rfl
  have c9 := box_cell hD 9 rfl
  clear hD
  go_wp2_with (first | (go_at_call 11; refine HT.out.mono ?_; rintro e w1 ⟨rfl, b1⟩; have B1 := hide b1; clear b1) | (go_at_call 12; refine (HA.out _ B1.out).mono ?_; rintro e w2 ⟨x, y, aq, ln, cq, rfl, r1⟩; have R1 := hide r1; clear r1))
  exact HQ.out _ _ _ ⟨rfl, rfl, rfl, rfl, rfl, rfl, rfl, rfl, rfl, rfl, rfl, rfl, rfl, rfl, rfl, rfl⟩ B1.out R1.out
theorem ag_r15 {K : Act → World → Prop} {c : Code} (hc : regOf (Tryz.f4.body.getD .skip) 15 = some c) (a : Act) {v : Vag} {wq : World} {ma mb kc m1 m2 : Nat} (hF : Fag a v) (h7v : v.v7 = .bool true) (h8v : v.v8 = .pointer (some ⟨ma, 0, none⟩)) (h10v : v.v10 = .pointer (some ⟨mb, 0, none⟩)) (hm : m2 ≤ m1) (hkc : kc ≤ 1000000) (hA : ∀ W, Below wq.heap.size wq W → Calls Tryz.prog 17 #[.pointer (some ⟨ma, 0, none⟩)] W fun e w' => e = .returned (.int .i64 ((kc : Int) + 1 : Int)) ∧ w' = W) (hB : ∀ W, Below wq.heap.size wq W → Calls Tryz.prog 17 #[.pointer (some ⟨mb, 0, none⟩)] W fun e w' => e = .returned (.int .i64 ((kc : Nat) : Int)) ∧ w' = W) (tA : ∀ W, Below wq.heap.size wq W → Calls Tryz.prog 18 #[.pointer (some ⟨ma, 0, none⟩)] W fun e w' => ∃ ao cp, e = .returned (.slice ao m1 cp) ∧ Below W.heap.size W w') (tB : ∀ W, Below wq.heap.size wq W → Calls Tryz.prog 18 #[.pointer (some ⟨mb, 0, none⟩)] W fun e w' => ∃ ao cp, e = .returned (.slice ao m2 cp) ∧ Below W.heap.size W w')
    (hQ : ∀ a' w1, Fag a' { v with v6 := .bool true } → Below wq.heap.size wq w1 → K a' w1) :
    Code.wp Tryz.prog c (Exit.then K fun _ _ _ => False) a wq := by
  have HQ := hide hQ
  clear hQ
  obtain ⟨v0, v1, v2, v5, v6, v7, v8, v9, v10, v11, v12, v13, v14, v15⟩ := v
  simp only at h7v h8v h10v HQ
  subst h7v h8v h10v
  obtain ⟨u, rfl⟩ := frx_ag hF
  clear hF
  simp only [Tryz.f4, Option.getD_some, regOf] at hc
  injection hc with hc
  subst hc
  have HA := hide hA
  have HB := hide hB
  have TA := hide tA
  have TB := hide tB
  have hm1 : (m2 : Int) ≤ (m1 : Int) := by omega
  have hw : IntKind.i64.wrap ((kc : Int) + 1) = (kc : Int) + 1 := by rw [IntKind.wrap_i64]; omega
  clear hA hB tA tB hm
  go_wp2_with fail
  refine (HA.out _ (Below.refl _ _)).mono ?_
  rintro e w1 ⟨rfl, r1⟩
  obtain rfl := r1.symm
  go_wp2_with fail
  refine (HB.out _ (Below.refl _ _)).mono ?_
  rintro e w1 ⟨rfl, r1⟩
  obtain rfl := r1.symm
  go_wp2_with fail
  refine (TA.out _ (Below.refl _ _)).mono ?_
  rintro e w1 ⟨ao, cp, rfl, b1⟩
  have B1 := hide b1
  clear b1
  go_wp2_with fail
  refine (TB.out _ B1.out).mono ?_
  rintro e w2 ⟨bo, cq, rfl, b2⟩
  have B2 := hide (B1.out.trans (b2.mono B1.out.size))
  clear b2
  go_wp2_with fail
  exact HQ.out _ _ ⟨rfl, rfl, rfl, rfl, rfl, rfl, rfl, rfl, rfl, rfl, rfl, rfl, rfl, rfl, rfl, rfl⟩ B2.out
theorem ag_ret {W : World} {a : Act} {v : Vag} {x : Value} {R : Ending → World → Prop} (hF : Fag a v) (h2 : v.v6 = x) (h : R (.returned x) W) : bodyPost Tryz.prog Tryz.f4 R .ret a W := by
  have g0 := slot_get (hF.s6.trans h2)
  refine bodyPost_ret (v := x) ?_ hF.defers h
  simp [results, Tryz.results4, go_sem, g0]
end Go.Proofs.YtlfodldlkchmoaaGreat.Y
