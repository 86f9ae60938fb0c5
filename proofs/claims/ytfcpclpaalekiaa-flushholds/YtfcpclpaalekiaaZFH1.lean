/-
  FlushHolds' regions, the first (mkfh.py).
-/
import Derived.Test.YtfcpclpaalekiaaZPhiG
import Derived.Laws.StructEq
namespace Go.Proofs.Ytfcpclpaalekiaa
open Go.RowKit
set_option maxHeartbeats 8000000
set_option maxRecDepth 100000
attribute [local go_sem ↓] Go.wp_at_zero Go.wp_at_succ
set_option linter.unusedSimpArgs false
set_option linter.unusedVariables false
theorem frame_hh (t : Array Value) (h : t.size = 102) : ∃ u : Nat → Value, t = List.toArray (u 0 :: u 1 :: u 2 :: u 3 :: u 4 :: u 5 :: u 6 :: u 7 :: u 8 :: u 9 :: u 10 :: u 11 :: u 12 :: u 13 :: u 14 :: u 15 :: u 16 :: u 17 :: u 18 :: u 19 :: u 20 :: u 21 :: u 22 :: u 23 :: u 24 :: u 25 :: u 26 :: u 27 :: u 28 :: u 29 :: u 30 :: u 31 :: u 32 :: u 33 :: u 34 :: u 35 :: u 36 :: u 37 :: u 38 :: u 39 :: u 40 :: u 41 :: u 42 :: u 43 :: u 44 :: u 45 :: u 46 :: u 47 :: u 48 :: u 49 :: u 50 :: u 51 :: u 52 :: u 53 :: u 54 :: u 55 :: u 56 :: u 57 :: u 58 :: u 59 :: u 60 :: u 61 :: u 62 :: u 63 :: u 64 :: u 65 :: u 66 :: u 67 :: u 68 :: u 69 :: u 70 :: u 71 :: u 72 :: u 73 :: u 74 :: u 75 :: u 76 :: u 77 :: u 78 :: u 79 :: u 80 :: u 81 :: u 82 :: u 83 :: u 84 :: u 85 :: u 86 :: u 87 :: u 88 :: u 89 :: u 90 :: u 91 :: u 92 :: u 93 :: u 94 :: u 95 :: u 96 :: u 97 :: u 98 :: u 99 :: u 100 :: u 101 :: []) := by
  refine ⟨fun i => t.getD i undef, ?_⟩
  refine Eq.trans (b := ((List.range 102).map fun i => t.getD i undef).toArray) ?_ rfl
  apply Array.ext
  · simp [h]
  · intro k h1 h2
    simp [Array.getD, h1]
structure Vhh where
  v0 : Value
  v1 : Value
  v4 : Value
  v5 : Value
  v6 : Value
  v7 : Value
  v8 : Value
  v9 : Value
  v10 : Value
  v11 : Value
  v12 : Value
structure Fhh (a : Act) (v : Vhh) : Prop where
  size : a.tmps.size = 102
  defers : a.defers = []
  s0 : a.tmps.getD 0 undef = v.v0
  s1 : a.tmps.getD 1 undef = v.v1
  s4 : a.tmps.getD 4 undef = v.v4
  s5 : a.tmps.getD 5 undef = v.v5
  s6 : a.tmps.getD 6 undef = v.v6
  s7 : a.tmps.getD 7 undef = v.v7
  s8 : a.tmps.getD 8 undef = v.v8
  s9 : a.tmps.getD 9 undef = v.v9
  s10 : a.tmps.getD 10 undef = v.v10
  s11 : a.tmps.getD 11 undef = v.v11
  s12 : a.tmps.getD 12 undef = v.v12
theorem frx_hh {a : Act} {v0 v1 v4 v5 v6 v7 v8 v9 v10 v11 v12 : Value} (h : Fhh a ⟨v0, v1, v4, v5, v6, v7, v8, v9, v10, v11, v12⟩) : ∃ u : Nat → Value, a = ⟨List.toArray (v0 :: v1 :: u 2 :: u 3 :: v4 :: v5 :: v6 :: v7 :: v8 :: v9 :: v10 :: v11 :: v12 :: u 13 :: u 14 :: u 15 :: u 16 :: u 17 :: u 18 :: u 19 :: u 20 :: u 21 :: u 22 :: u 23 :: u 24 :: u 25 :: u 26 :: u 27 :: u 28 :: u 29 :: u 30 :: u 31 :: u 32 :: u 33 :: u 34 :: u 35 :: u 36 :: u 37 :: u 38 :: u 39 :: u 40 :: u 41 :: u 42 :: u 43 :: u 44 :: u 45 :: u 46 :: u 47 :: u 48 :: u 49 :: u 50 :: u 51 :: u 52 :: u 53 :: u 54 :: u 55 :: u 56 :: u 57 :: u 58 :: u 59 :: u 60 :: u 61 :: u 62 :: u 63 :: u 64 :: u 65 :: u 66 :: u 67 :: u 68 :: u 69 :: u 70 :: u 71 :: u 72 :: u 73 :: u 74 :: u 75 :: u 76 :: u 77 :: u 78 :: u 79 :: u 80 :: u 81 :: u 82 :: u 83 :: u 84 :: u 85 :: u 86 :: u 87 :: u 88 :: u 89 :: u 90 :: u 91 :: u 92 :: u 93 :: u 94 :: u 95 :: u 96 :: u 97 :: u 98 :: u 99 :: u 100 :: u 101 :: []), []⟩ := by
  obtain ⟨t', d'⟩ := a
  obtain ⟨hs, hd, q0, q1, q4, q5, q6, q7, q8, q9, q10, q11, q12⟩ := h
  obtain ⟨u, hu⟩ := frame_hh t' hs
  simp only at hd q0 q1 q4 q5 q6 q7 q8 q9 q10 q11 q12
  subst hu hd
  have e0 : u 0 = v0 := q0
  have e1 : u 1 = v1 := q1
  have e4 : u 4 = v4 := q4
  have e5 : u 5 = v5 := q5
  have e6 : u 6 = v6 := q6
  have e7 : u 7 = v7 := q7
  have e8 : u 8 = v8 := q8
  have e9 : u 9 = v9 := q9
  have e10 : u 10 = v10 := q10
  have e11 : u 11 = v11 := q11
  have e12 : u 12 = v12 := q12
  refine ⟨u, ?_⟩
  rw [e0, e1, e4, e5, e6, e7, e8, e9, e10, e11, e12]
theorem hh_r0 {K : Act → World → Prop} {c : Code} (hc : regOf (Try.f6.body.getD .skip) 0 = some c) (a : Act) {v : Vhh} {wq : World}  (hF : Fhh a v) (hQ : ∀ a', Fhh a' { v with v4 := .bool false } → K a' wq) :
    Code.wp Try.prog c (Exit.then K fun _ _ _ => False) a wq := by
  have HQ := hide hQ
  clear hQ
  obtain ⟨v0, v1, v4, v5, v6, v7, v8, v9, v10, v11, v12⟩ := v
  obtain ⟨u, rfl⟩ := frx_hh hF
  clear hF
  simp only [Try.f6, Option.getD_some, regOf] at hc
  injection hc with hc
  subst hc
  go_wp2
  exact HQ.out _ ⟨rfl, rfl, rfl, rfl, rfl, rfl, rfl, rfl, rfl, rfl, rfl, rfl, rfl⟩
theorem hh_r1 {K : Act → World → Prop} {c : Code} (hc : regOf (Try.f6.body.getD .skip) 1 = some c) (a : Act) {v : Vhh} {wq : World} {R : World → Prop}  (hF : Fhh a v) (hE : Calls Try.prog 9 #[] wq fun e w' => e = .returned (.bool true) ∧ R w')
    (hQ : ∀ a' w1, Fhh a' { v with v5 := .bool true } → R w1 → K a' w1) :
    Code.wp Try.prog c (Exit.then K fun _ _ _ => False) a wq := by
  have HQ := hide hQ
  clear hQ
  obtain ⟨v0, v1, v4, v5, v6, v7, v8, v9, v10, v11, v12⟩ := v
  obtain ⟨u, rfl⟩ := frx_hh hF
  clear hF
  simp only [Try.f6, Option.getD_some, regOf] at hc
  injection hc with hc
  subst hc
  have HE := hide hE
  clear hE
  go_wp2_with (go_at_call 9; refine HE.out.mono ?_; rintro e w1 ⟨rfl, r1⟩; have R1 := hide r1; clear r1)
  exact HQ.out _ _ ⟨rfl, rfl, rfl, rfl, rfl, rfl, rfl, rfl, rfl, rfl, rfl, rfl, rfl⟩ R1.out
theorem hh_r2 {K : Act → World → Prop} {c : Code} (hc : regOf (Try.f6.body.getD .skip) 2 = some c) (a : Act) {v : Vhh} {wq : World}  (hF : Fhh a v) (hQ : ∀ a', Fhh a' { v with v6 := .slice none 0 0 } → K a' wq) :
    Code.wp Try.prog c (Exit.then K fun _ _ _ => False) a wq := by
  have HQ := hide hQ
  clear hQ
  obtain ⟨v0, v1, v4, v5, v6, v7, v8, v9, v10, v11, v12⟩ := v
  obtain ⟨u, rfl⟩ := frx_hh hF
  clear hF
  simp only [Try.f6, Option.getD_some, regOf] at hc
  injection hc with hc
  subst hc
  go_wp2
  exact HQ.out _ ⟨rfl, rfl, rfl, rfl, rfl, rfl, rfl, rfl, rfl, rfl, rfl, rfl, rfl⟩
theorem hh_r3 {K : Act → World → Prop} {c : Code} (hc : regOf (Try.f6.body.getD .skip) 3 = some c) (a : Act) {v : Vhh} {wq : World}  (hF : Fhh a v) (hQ : ∀ a', Fhh a' { v with v7 := .int .i64 ((0 : Nat) : Int) } → K a' wq) :
    Code.wp Try.prog c (Exit.then K fun _ _ _ => False) a wq := by
  have HQ := hide hQ
  clear hQ
  obtain ⟨v0, v1, v4, v5, v6, v7, v8, v9, v10, v11, v12⟩ := v
  obtain ⟨u, rfl⟩ := frx_hh hF
  clear hF
  simp only [Try.f6, Option.getD_some, regOf] at hc
  injection hc with hc
  subst hc
  go_wp2
  exact HQ.out _ ⟨rfl, rfl, rfl, rfl, rfl, rfl, rfl, rfl, rfl, rfl, rfl, rfl, rfl⟩
theorem hh_r4n {K : Act → World → Prop} {c : Code} (hc : regOf (Try.f6.body.getD .skip) 4 = some c) (a : Act) {v : Vhh} {wq : World} {bo : Option Addr} {nc cb k : Nat} (hF : Fhh a v) (h1v : v.v1 = .slice bo nc cb) (h7v : v.v7 = .int .i64 (k : Int)) (hk : ¬ (k : Int) < (nc : Int)) (hQ : ∀ a', Fhh a' v → a'.tmps.getD 21 undef = .bool false → K a' wq) :
    Code.wp Try.prog c (Exit.then K fun _ _ _ => False) a wq := by
  have HQ := hide hQ
  clear hQ
  obtain ⟨v0, v1, v4, v5, v6, v7, v8, v9, v10, v11, v12⟩ := v
  simp only at h1v h7v HQ
  subst h1v h7v
  obtain ⟨u, rfl⟩ := frx_hh hF
  clear hF
  simp only [Try.f6, Option.getD_some, regOf] at hc
  injection hc with hc
  subst hc
  have hd : decide ((k : Int) < (nc : Int)) = false := decide_eq_false hk
  go_wp2
  exact HQ.out _ ⟨rfl, rfl, rfl, rfl, rfl, rfl, rfl, rfl, rfl, rfl, rfl, rfl, rfl⟩ (by first | rfl | (simp; done))
theorem hh_r4y {K : Act → World → Prop} {c : Code} (hc : regOf (Try.f6.body.getD .skip) 4 = some c) (a : Act) {v : Vhh} {wq : World} {bo : Option Addr} {nc cb k : Nat} (hF : Fhh a v) (h1v : v.v1 = .slice bo nc cb) (h7v : v.v7 = .int .i64 (k : Int)) (hk : (k : Int) < (nc : Int)) (hQ : ∀ a', Fhh a' v → a'.tmps.getD 21 undef = .bool (decide ((k : Int) < 20)) → K a' wq) :
    Code.wp Try.prog c (Exit.then K fun _ _ _ => False) a wq := by
  have HQ := hide hQ
  clear hQ
  obtain ⟨v0, v1, v4, v5, v6, v7, v8, v9, v10, v11, v12⟩ := v
  simp only at h1v h7v HQ
  subst h1v h7v
  obtain ⟨u, rfl⟩ := frx_hh hF
  clear hF
  simp only [Try.f6, Option.getD_some, regOf] at hc
  injection hc with hc
  subst hc
  have hd : decide ((k : Int) < (nc : Int)) = true := decide_eq_true hk
  go_wp2
  exact HQ.out _ ⟨rfl, rfl, rfl, rfl, rfl, rfl, rfl, rfl, rfl, rfl, rfl, rfl, rfl⟩ (by first | rfl | (simp; done))
theorem hh_r4 {K : Act → World → Prop} {c : Code} (hc : regOf (Try.f6.body.getD .skip) 4 = some c) (a : Act) {v : Vhh} {wq : World} {bo : Option Addr} {nc cb k : Nat} (hF : Fhh a v) (h1v : v.v1 = .slice bo nc cb) (h7v : v.v7 = .int .i64 (k : Int))
    (hQ : ∀ a', Fhh a' { v with } → a'.tmps.getD 21 undef = .bool (decide ((k : Int) < (nc : Int)) && decide ((k : Int) < 20)) → K a' wq) :
    Code.wp Try.prog c (Exit.then K fun _ _ _ => False) a wq := by
  by_cases h : (k : Int) < (nc : Int)
  · exact hh_r4y hc a hF h1v h7v h fun a' F g => hQ a' F (by rw [g, decide_eq_true h]; rfl)
  · exact hh_r4n hc a hF h1v h7v h fun a' F g => hQ a' F (by rw [g, decide_eq_false h]; rfl)
theorem hh_r6 {K : Act → World → Prop} {c : Code} (hc : regOf (Try.f6.body.getD .skip) 6 = some c) (a : Act) {v : Vhh} {wq : World} {g of nc cb k : Nat} {y : Int} (hF : Fhh a v) (h1v : v.v1 = .slice (some ⟨g, of, none⟩) nc cb) (h7v : v.v7 = .int .i64 (k : Int)) (hk : k < nc) (hcl : wq.cell? ⟨g, of + k, none⟩ = some (.int .i64 y))
    (hQ : ∀ a', Fhh a' { v with v8 := .int .i64 y } → K a' wq) :
    Code.wp Try.prog c (Exit.then K fun _ _ _ => False) a wq := by
  have HQ := hide hQ
  clear hQ
  obtain ⟨v0, v1, v4, v5, v6, v7, v8, v9, v10, v11, v12⟩ := v
  simp only at h1v h7v HQ
  subst h1v h7v
  obtain ⟨u, rfl⟩ := frx_hh hF
  clear hF
  simp only [Try.f6, Option.getD_some, regOf] at hc
  injection hc with hc
  subst hc
  have i0 : (0 : Int) ≤ (k : Int) := by omega
  have i1 : (k : Int) < (nc : Int) := by omega
  clear hk
  go_wp2
  exact HQ.out _ ⟨rfl, rfl, rfl, rfl, rfl, rfl, rfl, rfl, rfl, rfl, rfl, rfl, rfl⟩
theorem hh_r7y {K : Act → World → Prop} {c : Code} (hc : regOf (Try.f6.body.getD .skip) 7 = some c) (a : Act) {v : Vhh} {wq : World} {y : Int} (hF : Fhh a v) (h8v : v.v8 = .int .i64 y) (hy : y < 0) (hQ : ∀ a', Fhh a' v → a'.tmps.getD 29 undef = .bool true → K a' wq) :
    Code.wp Try.prog c (Exit.then K fun _ _ _ => False) a wq := by
  have HQ := hide hQ
  clear hQ
  obtain ⟨v0, v1, v4, v5, v6, v7, v8, v9, v10, v11, v12⟩ := v
  simp only at h8v HQ
  subst h8v
  obtain ⟨u, rfl⟩ := frx_hh hF
  clear hF
  simp only [Try.f6, Option.getD_some, regOf] at hc
  injection hc with hc
  subst hc
  have hd : decide (y < 0) = true := decide_eq_true hy
  go_wp2
  exact HQ.out _ ⟨rfl, rfl, rfl, rfl, rfl, rfl, rfl, rfl, rfl, rfl, rfl, rfl, rfl⟩ (by first | rfl | (simp; done))
theorem hh_r7n {K : Act → World → Prop} {c : Code} (hc : regOf (Try.f6.body.getD .skip) 7 = some c) (a : Act) {v : Vhh} {wq : World} {y : Int} (hF : Fhh a v) (h8v : v.v8 = .int .i64 y) (hy : ¬ y < 0) (hQ : ∀ a', Fhh a' v → a'.tmps.getD 29 undef = .bool false → K a' wq) :
    Code.wp Try.prog c (Exit.then K fun _ _ _ => False) a wq := by
  have HQ := hide hQ
  clear hQ
  obtain ⟨v0, v1, v4, v5, v6, v7, v8, v9, v10, v11, v12⟩ := v
  simp only at h8v HQ
  subst h8v
  obtain ⟨u, rfl⟩ := frx_hh hF
  clear hF
  simp only [Try.f6, Option.getD_some, regOf] at hc
  injection hc with hc
  subst hc
  have hd : decide (y < 0) = false := decide_eq_false hy
  go_wp2
  exact HQ.out _ ⟨rfl, rfl, rfl, rfl, rfl, rfl, rfl, rfl, rfl, rfl, rfl, rfl, rfl⟩ (by first | rfl | (simp; done))
theorem hh_r8 {K : Act → World → Prop} {c : Code} (hc : regOf (Try.f6.body.getD .skip) 8 = some c) (a : Act) {v : Vhh} {wq : World} {y : Int} {z : Nat} (hF : Fhh a v) (h8v : v.v8 = .int .i64 y) (hy : y < 0) (hy2 : -9223372036854775808 ≤ y) (hz : -(y + 1) = (z : Int)) (hQ : ∀ a', Fhh a' { v with v8 := .int .i64 (z : Int) } → K a' wq) :
    Code.wp Try.prog c (Exit.then K fun _ _ _ => False) a wq := by
  have HQ := hide hQ
  clear hQ
  obtain ⟨v0, v1, v4, v5, v6, v7, v8, v9, v10, v11, v12⟩ := v
  simp only at h8v HQ
  subst h8v
  obtain ⟨u, rfl⟩ := frx_hh hF
  clear hF
  simp only [Try.f6, Option.getD_some, regOf] at hc
  injection hc with hc
  subst hc
  have w1 : IntKind.i64.wrap (y + 1) = y + 1 := by rw [IntKind.wrap_i64]; omega
  have w2 : IntKind.i64.wrap (-(y + 1)) = -(y + 1) := by rw [IntKind.wrap_i64]; omega
  rw [← hz] at HQ
  clear hy hy2 hz
  go_wp2
  exact HQ.out _ ⟨rfl, rfl, rfl, rfl, rfl, rfl, rfl, rfl, rfl, rfl, rfl, rfl, rfl⟩
theorem hh_r9 {K : Act → World → Prop} {c : Code} (hc : regOf (Try.f6.body.getD .skip) 9 = some c) (a : Act) {v : Vhh} {wq : World} {oo ao ta : Option Addr} {n oc ca k cn tc z : Nat} {w5 : World} (hF : Fhh a v) (h0v : v.v0 = .slice ao n ca) (h6v : v.v6 = .slice oo k oc) (h8v : v.v8 = .int .i64 (z : Int)) (hn : n ≤ 17592186044415) (hmod : Int.tmod (z : Int) ((n : Int) + 1) = (cn : Int)) (hup : ∀ W, (Instr.slice 23 (.slice ao n ca) .none (some (.int .i64 (cn : Nat))) .none).run Try.prog W = .ok (.slice ao cn ca) W) (hrun : (Builtin.append_ #[22, 22] 22 #[.slice oo k oc, .slice (some ⟨wq.heap.size, 0, none⟩) 1 1]).run Try.prog (wq.alloc (.cells #[.slice ao cn ca] 23)) = .ok (.slice ta (k + 1) tc) w5)
    (hQ : ∀ a', Fhh a' { v with v6 := .slice ta (k + 1) tc } → K a' w5) :
    Code.wp Try.prog c (Exit.then K fun _ _ _ => False) a wq := by
  have HQ := hide hQ
  clear hQ
  obtain ⟨v0, v1, v4, v5, v6, v7, v8, v9, v10, v11, v12⟩ := v
  simp only at h0v h6v h8v HQ
  subst h0v h6v h8v
  obtain ⟨u, rfl⟩ := frx_hh hF
  clear hF
  simp only [Try.f6, Option.getD_some, regOf] at hc
  injection hc with hc
  subst hc
  have HRUN := hide hrun
  have w1 : IntKind.i64.wrap ((n : Int) + 1) = (n : Int) + 1 := by rw [IntKind.wrap_i64]; omega
  have w2 : ¬ (n : Int) + 1 = 0 := by omega
  clear hrun
  go_wp2_with (at_builtin; refine wpList_append_run rfl _ _ 22 rfl _ _ _ rfl rfl HRUN.out ?_)
  exact HQ.out _ ⟨rfl, rfl, rfl, rfl, rfl, rfl, rfl, rfl, rfl, rfl, rfl, rfl, rfl⟩
theorem hh_r5 {K : Act → World → Prop} {c : Code} (hc : regOf (Try.f6.body.getD .skip) 5 = some c) (a : Act) {v : Vhh} {wq : World} {k : Nat} (hF : Fhh a v) (h7v : v.v7 = .int .i64 (k : Int)) (hk : k ≤ 1000000) (hQ : ∀ a', Fhh a' { v with v7 := .int .i64 ((k + 1 : Nat) : Int) } → K a' wq) :
    Code.wp Try.prog c (Exit.then K fun _ _ _ => False) a wq := by
  have HQ := hide hQ
  clear hQ
  obtain ⟨v0, v1, v4, v5, v6, v7, v8, v9, v10, v11, v12⟩ := v
  simp only at h7v HQ
  subst h7v
  obtain ⟨u, rfl⟩ := frx_hh hF
  clear hF
  simp only [Try.f6, Option.getD_some, regOf] at hc
  injection hc with hc
  subst hc
  have hc : ((k + 1 : Nat) : Int) = (k : Int) + 1 := by omega
  rw [hc] at HQ
  go_wp2
  exact HQ.out _ ⟨rfl, rfl, rfl, rfl, rfl, rfl, rfl, rfl, rfl, rfl, rfl, rfl, rfl⟩
theorem hh_r10 {K : Act → World → Prop} {c : Code} (hc : regOf (Try.f6.body.getD .skip) 10 = some c) (a : Act) {v : Vhh} {wq : World} {R : Option Addr → Nat → World → Prop} {oo : Option Addr} {n oc m : Nat} {z : Int} (hF : Fhh a v) (h6v : v.v6 = .slice oo n oc) (hE : Calls Try.prog 11 #[.slice oo n oc] wq fun e w' => ∃ (lo : Option Addr) (lc : Nat), e = .returned (.tuple #[.slice lo m lc, .int .i64 z]) ∧ R lo lc w')
    (hQ : ∀ a' w1 lo lc, Fhh a' { v with v9 := .slice lo m lc, v10 := .int .i64 z } → R lo lc w1 → K a' w1) :
    Code.wp Try.prog c (Exit.then K fun _ _ _ => False) a wq := by
  have HQ := hide hQ
  clear hQ
  obtain ⟨v0, v1, v4, v5, v6, v7, v8, v9, v10, v11, v12⟩ := v
  simp only at h6v HQ
  subst h6v
  obtain ⟨u, rfl⟩ := frx_hh hF
  clear hF
  simp only [Try.f6, Option.getD_some, regOf] at hc
  injection hc with hc
  subst hc
  have HE := hide hE
  clear hE
  go_wp2_with (go_at_call 11; refine HE.out.mono ?_; rintro e w1 ⟨lo, lc, rfl, r1⟩; have R1 := hide r1; clear r1)
  exact HQ.out _ _ _ _ ⟨rfl, rfl, rfl, rfl, rfl, rfl, rfl, rfl, rfl, rfl, rfl, rfl, rfl⟩ R1.out
theorem hh_r11y {K : Act → World → Prop} {c : Code} (hc : regOf (Try.f6.body.getD .skip) 11 = some c) (a : Act) {v : Vhh} {wq : World} {oo : Option Addr} {oc : Nat} (hF : Fhh a v) (h6v : v.v6 = .slice oo 0 oc) (hQ : ∀ a', Fhh a' v → a'.tmps.getD 50 undef = .bool true → K a' wq) :
    Code.wp Try.prog c (Exit.then K fun _ _ _ => False) a wq := by
  have HQ := hide hQ
  clear hQ
  obtain ⟨v0, v1, v4, v5, v6, v7, v8, v9, v10, v11, v12⟩ := v
  simp only at h6v HQ
  subst h6v
  obtain ⟨u, rfl⟩ := frx_hh hF
  clear hF
  simp only [Try.f6, Option.getD_some, regOf] at hc
  injection hc with hc
  subst hc
  go_wp2
  exact HQ.out _ ⟨rfl, rfl, rfl, rfl, rfl, rfl, rfl, rfl, rfl, rfl, rfl, rfl, rfl⟩ (by first | rfl | (simp; done))
theorem hh_r11n {K : Act → World → Prop} {c : Code} (hc : regOf (Try.f6.body.getD .skip) 11 = some c) (a : Act) {v : Vhh} {wq : World} {oo : Option Addr} {n oc : Nat} (hF : Fhh a v) (h6v : v.v6 = .slice oo n oc) (hn : 0 < n) (hQ : ∀ a', Fhh a' v → a'.tmps.getD 50 undef = .bool false → K a' wq) :
    Code.wp Try.prog c (Exit.then K fun _ _ _ => False) a wq := by
  have HQ := hide hQ
  clear hQ
  obtain ⟨v0, v1, v4, v5, v6, v7, v8, v9, v10, v11, v12⟩ := v
  simp only at h6v HQ
  subst h6v
  obtain ⟨u, rfl⟩ := frx_hh hF
  clear hF
  simp only [Try.f6, Option.getD_some, regOf] at hc
  injection hc with hc
  subst hc
  have h0 : ((n : Int) == 0) = false := by rw [beq_eq_false_iff_ne]; omega
  go_wp2
  exact HQ.out _ ⟨rfl, rfl, rfl, rfl, rfl, rfl, rfl, rfl, rfl, rfl, rfl, rfl, rfl⟩ (by first | rfl | (simp; done))
theorem hh_r12 {K : Act → World → Prop} {c : Code} (hc : regOf (Try.f6.body.getD .skip) 12 = some c) (a : Act) {v : Vhh} {wq : World}  (hF : Fhh a v) (h5v : v.v5 = .bool true) (h10v : v.v10 = .int .i64 1) (hQ : ∀ a', Fhh a' { v with v4 := .bool true } → K a' wq) :
    Code.wp Try.prog c (Exit.then K fun _ _ _ => False) a wq := by
  have HQ := hide hQ
  clear hQ
  obtain ⟨v0, v1, v4, v5, v6, v7, v8, v9, v10, v11, v12⟩ := v
  simp only at h5v h10v HQ
  subst h5v h10v
  obtain ⟨u, rfl⟩ := frx_hh hF
  clear hF
  simp only [Try.f6, Option.getD_some, regOf] at hc
  injection hc with hc
  subst hc
  go_wp2
  exact HQ.out _ ⟨rfl, rfl, rfl, rfl, rfl, rfl, rfl, rfl, rfl, rfl, rfl, rfl, rfl⟩
theorem hh_r13 {K : Act → World → Prop} {c : Code} (hc : regOf (Try.f6.body.getD .skip) 13 = some c) (a : Act) {v : Vhh} {wq : World}  (hF : Fhh a v) (hQ : ∀ a', Fhh a' { v with v11 := .bool false } → K a' wq) :
    Code.wp Try.prog c (Exit.then K fun _ _ _ => False) a wq := by
  have HQ := hide hQ
  clear hQ
  obtain ⟨v0, v1, v4, v5, v6, v7, v8, v9, v10, v11, v12⟩ := v
  obtain ⟨u, rfl⟩ := frx_hh hF
  clear hF
  simp only [Try.f6, Option.getD_some, regOf] at hc
  injection hc with hc
  subst hc
  go_wp2
  exact HQ.out _ ⟨rfl, rfl, rfl, rfl, rfl, rfl, rfl, rfl, rfl, rfl, rfl, rfl, rfl⟩
theorem hh_r14 {K : Act → World → Prop} {c : Code} (hc : regOf (Try.f6.body.getD .skip) 14 = some c) (a : Act) {v : Vhh} {wq : World}  (hF : Fhh a v) (hQ : ∀ a', Fhh a' { v with v12 := .int .i64 ((0 : Nat) : Int) } → K a' wq) :
    Code.wp Try.prog c (Exit.then K fun _ _ _ => False) a wq := by
  have HQ := hide hQ
  clear hQ
  obtain ⟨v0, v1, v4, v5, v6, v7, v8, v9, v10, v11, v12⟩ := v
  obtain ⟨u, rfl⟩ := frx_hh hF
  clear hF
  simp only [Try.f6, Option.getD_some, regOf] at hc
  injection hc with hc
  subst hc
  go_wp2
  exact HQ.out _ ⟨rfl, rfl, rfl, rfl, rfl, rfl, rfl, rfl, rfl, rfl, rfl, rfl, rfl⟩
end Go.Proofs.Ytfcpclpaalekiaa
