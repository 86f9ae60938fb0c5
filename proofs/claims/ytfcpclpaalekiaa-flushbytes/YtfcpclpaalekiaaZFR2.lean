/-
  carillonref19's Encode, as it runs (mkfr.py).
-/
import Derived.Test.YtfcpclpaalekiaaZPhiG
import Derived.Test.YtfcpclpaalekiaaZKR3
import Derived.Laws.StructEq
namespace Go.Proofs.Ytfcpclpaalekiaa
open Go.RowKit
set_option maxHeartbeats 8000000
set_option maxRecDepth 100000
attribute [local go_sem ↓] Go.wp_at_zero Go.wp_at_succ
set_option linter.unusedSimpArgs false
set_option linter.unusedVariables false
theorem frame_rn (t : Array Value) (h : t.size = 59) : ∃ u : Nat → Value, t = List.toArray (u 0 :: u 1 :: u 2 :: u 3 :: u 4 :: u 5 :: u 6 :: u 7 :: u 8 :: u 9 :: u 10 :: u 11 :: u 12 :: u 13 :: u 14 :: u 15 :: u 16 :: u 17 :: u 18 :: u 19 :: u 20 :: u 21 :: u 22 :: u 23 :: u 24 :: u 25 :: u 26 :: u 27 :: u 28 :: u 29 :: u 30 :: u 31 :: u 32 :: u 33 :: u 34 :: u 35 :: u 36 :: u 37 :: u 38 :: u 39 :: u 40 :: u 41 :: u 42 :: u 43 :: u 44 :: u 45 :: u 46 :: u 47 :: u 48 :: u 49 :: u 50 :: u 51 :: u 52 :: u 53 :: u 54 :: u 55 :: u 56 :: u 57 :: u 58 :: []) := by
  refine ⟨fun i => t.getD i undef, ?_⟩
  refine Eq.trans (b := ((List.range 59).map fun i => t.getD i undef).toArray) ?_ rfl
  apply Array.ext
  · simp [h]
  · intro k h1 h2
    simp [Array.getD, h1]
structure Vrn where
  v0 : Value
  v1 : Value
  v2 : Value
  v4 : Value
  v5 : Value
  v6 : Value
  v7 : Value
  v8 : Value
  v9 : Value
  v10 : Value
  v11 : Value
  v12 : Value
structure Frn (a : Act) (v : Vrn) : Prop where
  size : a.tmps.size = 59
  defers : a.defers = []
  s0 : a.tmps.getD 0 undef = v.v0
  s1 : a.tmps.getD 1 undef = v.v1
  s2 : a.tmps.getD 2 undef = v.v2
  s4 : a.tmps.getD 4 undef = v.v4
  s5 : a.tmps.getD 5 undef = v.v5
  s6 : a.tmps.getD 6 undef = v.v6
  s7 : a.tmps.getD 7 undef = v.v7
  s8 : a.tmps.getD 8 undef = v.v8
  s9 : a.tmps.getD 9 undef = v.v9
  s10 : a.tmps.getD 10 undef = v.v10
  s11 : a.tmps.getD 11 undef = v.v11
  s12 : a.tmps.getD 12 undef = v.v12
theorem frx_rn {a : Act} {v0 v1 v2 v4 v5 v6 v7 v8 v9 v10 v11 v12 : Value} (h : Frn a ⟨v0, v1, v2, v4, v5, v6, v7, v8, v9, v10, v11, v12⟩) : ∃ u : Nat → Value, a = ⟨List.toArray (v0 :: v1 :: v2 :: u 3 :: v4 :: v5 :: v6 :: v7 :: v8 :: v9 :: v10 :: v11 :: v12 :: u 13 :: u 14 :: u 15 :: u 16 :: u 17 :: u 18 :: u 19 :: u 20 :: u 21 :: u 22 :: u 23 :: u 24 :: u 25 :: u 26 :: u 27 :: u 28 :: u 29 :: u 30 :: u 31 :: u 32 :: u 33 :: u 34 :: u 35 :: u 36 :: u 37 :: u 38 :: u 39 :: u 40 :: u 41 :: u 42 :: u 43 :: u 44 :: u 45 :: u 46 :: u 47 :: u 48 :: u 49 :: u 50 :: u 51 :: u 52 :: u 53 :: u 54 :: u 55 :: u 56 :: u 57 :: u 58 :: []), []⟩ := by
  obtain ⟨t', d'⟩ := a
  obtain ⟨hs, hd, q0, q1, q2, q4, q5, q6, q7, q8, q9, q10, q11, q12⟩ := h
  obtain ⟨u, hu⟩ := frame_rn t' hs
  simp only at hd q0 q1 q2 q4 q5 q6 q7 q8 q9 q10 q11 q12
  subst hu hd
  have e0 : u 0 = v0 := q0
  have e1 : u 1 = v1 := q1
  have e2 : u 2 = v2 := q2
  have e4 : u 4 = v4 := q4
  have e5 : u 5 = v5 := q5
  have e6 : u 6 = v6 := q6
  have e7 : u 7 = v7 := q7
  have e8 : u 8 = v8 := q8
  have e9 : u 9 = v9 := q9
  have e10 : u 10 = v10 := q10
  have e11 : u 11 = v11 := q11
  have e12 : u 12 = v12 := q12
  refine ⟨u, ?_⟩
  rw [e0, e1, e2, e4, e5, e6, e7, e8, e9, e10, e11, e12]
theorem rn_r0 {K : Act → World → Prop} {c : Code} (hc : regOf (Try.f18.body.getD .skip) 0 = some c) (a : Act) {v : Vrn} {wq : World} {n cp : Nat} {num : Int} {ao : Option Addr} (hF : Frn a v) (h0v : v.v0 = .agg #[.int .i64 num, .slice ao n cp]) (hQ : ∀ a', Frn a' { v with v2 := .pointer (some ⟨wq.heap.size, 0, none⟩), v4 := .string ⟨#[]⟩, v5 := .int .i64 0 } → K a' (wq.alloc (.cells #[.int .i64 num, .slice ao n cp] tView))) :
    Code.wp Try.prog c (Exit.then K fun _ _ _ => False) a wq := by
  have HQ := hide hQ
  clear hQ
  obtain ⟨v0, v1, v2, v4, v5, v6, v7, v8, v9, v10, v11, v12⟩ := v
  simp only at h0v HQ
  subst h0v
  obtain ⟨u, rfl⟩ := frx_rn hF
  clear hF
  simp only [Try.f18, Option.getD_some, regOf] at hc
  injection hc with hc
  subst hc
  go_wp2
  exact HQ.out _ ⟨rfl, rfl, rfl, rfl, rfl, rfl, rfl, rfl, rfl, rfl, rfl, rfl, rfl, rfl⟩
theorem rn_r1 {K : Act → World → Prop} {c : Code} (hc : regOf (Try.f18.body.getD .skip) 1 = some c) (a : Act) {v : Vrn} {wq : World} {R : World → Prop} {vb n cp : Nat} {num : Int} {ao : Option Addr} {s : ByteArray} {r : Bool} (hF : Frn a v) (h2v : v.v2 = .pointer (some ⟨vb, 0, none⟩)) (hV : wq.heap[vb]? = some (.cells #[.int .i64 num, .slice ao n cp] tView (0, 0))) (hE : Calls Try.prog 31 #[.agg #[.int .i64 num, .slice ao n cp]] wq fun e w' => e = .returned (.tuple #[.string s, .bool r]) ∧ R w')
    (hQ : ∀ a' w1, Frn a' { v with v6 := .string s, v7 := .bool r } → R w1 → K a' w1) :
    Code.wp Try.prog c (Exit.then K fun _ _ _ => False) a wq := by
  have HQ := hide hQ
  clear hQ
  obtain ⟨v0, v1, v2, v4, v5, v6, v7, v8, v9, v10, v11, v12⟩ := v
  simp only at h2v HQ
  subst h2v
  obtain ⟨u, rfl⟩ := frx_rn hF
  clear hF
  simp only [Try.f18, Option.getD_some, regOf] at hc
  injection hc with hc
  subst hc
  have HE := hide hE
  clear hE
  have z0 := box_cell hV 0 rfl
  have z1 := box_cell hV 1 rfl
  clear hV
  go_wp2_with (go_at_call 31; refine HE.out.mono ?_; rintro e w1 ⟨rfl, r1⟩; have R1 := hide r1; clear r1)
  exact HQ.out _ _ ⟨rfl, rfl, rfl, rfl, rfl, rfl, rfl, rfl, rfl, rfl, rfl, rfl, rfl, rfl⟩ R1.out
theorem rn_r2y {K : Act → World → Prop} {c : Code} (hc : regOf (Try.f18.body.getD .skip) 2 = some c) (a : Act) {v : Vrn} {wq : World}  (hF : Frn a v) (h7v : v.v7 = .bool false) (hQ : ∀ a', Frn a' v → a'.tmps.getD 19 undef = .bool true → K a' wq) :
    Code.wp Try.prog c (Exit.then K fun _ _ _ => False) a wq := by
  have HQ := hide hQ
  clear hQ
  obtain ⟨v0, v1, v2, v4, v5, v6, v7, v8, v9, v10, v11, v12⟩ := v
  simp only at h7v HQ
  subst h7v
  obtain ⟨u, rfl⟩ := frx_rn hF
  clear hF
  simp only [Try.f18, Option.getD_some, regOf] at hc
  injection hc with hc
  subst hc
  go_wp2
  exact HQ.out _ ⟨rfl, rfl, rfl, rfl, rfl, rfl, rfl, rfl, rfl, rfl, rfl, rfl, rfl, rfl⟩ (by first | rfl | (simp; done))
theorem rn_r2n {K : Act → World → Prop} {c : Code} (hc : regOf (Try.f18.body.getD .skip) 2 = some c) (a : Act) {v : Vrn} {wq : World}  (hF : Frn a v) (h7v : v.v7 = .bool true) (hQ : ∀ a', Frn a' v → a'.tmps.getD 19 undef = .bool false → K a' wq) :
    Code.wp Try.prog c (Exit.then K fun _ _ _ => False) a wq := by
  have HQ := hide hQ
  clear hQ
  obtain ⟨v0, v1, v2, v4, v5, v6, v7, v8, v9, v10, v11, v12⟩ := v
  simp only at h7v HQ
  subst h7v
  obtain ⟨u, rfl⟩ := frx_rn hF
  clear hF
  simp only [Try.f18, Option.getD_some, regOf] at hc
  injection hc with hc
  subst hc
  go_wp2
  exact HQ.out _ ⟨rfl, rfl, rfl, rfl, rfl, rfl, rfl, rfl, rfl, rfl, rfl, rfl, rfl, rfl⟩ (by first | rfl | (simp; done))
theorem rn_r3 {K : Act → World → Prop} {c : Code} (hc : regOf (Try.f18.body.getD .skip) 3 = some c) (a : Act) {v : Vrn} {wq : World}  (hF : Frn a v) (hQ : ∀ a', Frn a' { v with v4 := .string ⟨#[]⟩, v5 := .int .i64 1 } → K a' wq) :
    Code.wp Try.prog c (Exit.then K fun _ _ _ => False) a wq := by
  have HQ := hide hQ
  clear hQ
  obtain ⟨v0, v1, v2, v4, v5, v6, v7, v8, v9, v10, v11, v12⟩ := v
  obtain ⟨u, rfl⟩ := frx_rn hF
  clear hF
  simp only [Try.f18, Option.getD_some, regOf] at hc
  injection hc with hc
  subst hc
  go_wp2
  exact HQ.out _ ⟨rfl, rfl, rfl, rfl, rfl, rfl, rfl, rfl, rfl, rfl, rfl, rfl, rfl, rfl⟩
theorem rn_r4y {K : Act → World → Prop} {c : Code} (hc : regOf (Try.f18.body.getD .skip) 4 = some c) (a : Act) {v : Vrn} {wq : World} {lo : Option Addr} {ln lc : Nat} (hF : Frn a v) (h1v : v.v1 = .slice lo ln lc) (h : 990 < ln) (hQ : ∀ a', Frn a' v → a'.tmps.getD 22 undef = .bool true → K a' wq) :
    Code.wp Try.prog c (Exit.then K fun _ _ _ => False) a wq := by
  have HQ := hide hQ
  clear hQ
  obtain ⟨v0, v1, v2, v4, v5, v6, v7, v8, v9, v10, v11, v12⟩ := v
  simp only at h1v HQ
  subst h1v
  obtain ⟨u, rfl⟩ := frx_rn hF
  clear hF
  simp only [Try.f18, Option.getD_some, regOf] at hc
  injection hc with hc
  subst hc
  have hd : decide ((990 : Int) < (ln : Int)) = true := decide_eq_true (by omega)
  go_wp2
  exact HQ.out _ ⟨rfl, rfl, rfl, rfl, rfl, rfl, rfl, rfl, rfl, rfl, rfl, rfl, rfl, rfl⟩ (by first | rfl | (simp; done))
theorem rn_r4n {K : Act → World → Prop} {c : Code} (hc : regOf (Try.f18.body.getD .skip) 4 = some c) (a : Act) {v : Vrn} {wq : World} {lo : Option Addr} {ln lc : Nat} (hF : Frn a v) (h1v : v.v1 = .slice lo ln lc) (h : ln ≤ 990) (hQ : ∀ a', Frn a' v → a'.tmps.getD 22 undef = .bool false → K a' wq) :
    Code.wp Try.prog c (Exit.then K fun _ _ _ => False) a wq := by
  have HQ := hide hQ
  clear hQ
  obtain ⟨v0, v1, v2, v4, v5, v6, v7, v8, v9, v10, v11, v12⟩ := v
  simp only at h1v HQ
  subst h1v
  obtain ⟨u, rfl⟩ := frx_rn hF
  clear hF
  simp only [Try.f18, Option.getD_some, regOf] at hc
  injection hc with hc
  subst hc
  have hd : decide ((990 : Int) < (ln : Int)) = false := decide_eq_false (by omega)
  go_wp2
  exact HQ.out _ ⟨rfl, rfl, rfl, rfl, rfl, rfl, rfl, rfl, rfl, rfl, rfl, rfl, rfl, rfl⟩ (by first | rfl | (simp; done))
theorem rn_r5 {K : Act → World → Prop} {c : Code} (hc : regOf (Try.f18.body.getD .skip) 5 = some c) (a : Act) {v : Vrn} {wq : World}  (hF : Frn a v) (hQ : ∀ a', Frn a' { v with v4 := .string ⟨#[]⟩, v5 := .int .i64 3 } → K a' wq) :
    Code.wp Try.prog c (Exit.then K fun _ _ _ => False) a wq := by
  have HQ := hide hQ
  clear hQ
  obtain ⟨v0, v1, v2, v4, v5, v6, v7, v8, v9, v10, v11, v12⟩ := v
  obtain ⟨u, rfl⟩ := frx_rn hF
  clear hF
  simp only [Try.f18, Option.getD_some, regOf] at hc
  injection hc with hc
  subst hc
  go_wp2
  exact HQ.out _ ⟨rfl, rfl, rfl, rfl, rfl, rfl, rfl, rfl, rfl, rfl, rfl, rfl, rfl, rfl⟩
theorem rn_r6 {K : Act → World → Prop} {c : Code} (hc : regOf (Try.f18.body.getD .skip) 6 = some c) (a : Act) {v : Vrn} {wq : World} {s : ByteArray} (hF : Frn a v) (h6v : v.v6 = .string s) (hQ : ∀ a', Frn a' { v with v8 := .slice (some ⟨wq.heap.size, 0, none⟩) 1 1 } → K a' (wq.alloc (.cells #[.int .i64 4, .int .u64 0, .string s] tItem))) :
    Code.wp Try.prog c (Exit.then K fun _ _ _ => False) a wq := by
  have HQ := hide hQ
  clear hQ
  obtain ⟨v0, v1, v2, v4, v5, v6, v7, v8, v9, v10, v11, v12⟩ := v
  simp only at h6v HQ
  subst h6v
  obtain ⟨u, rfl⟩ := frx_rn hF
  clear hF
  simp only [Try.f18, Option.getD_some, regOf] at hc
  injection hc with hc
  subst hc
  go_wp2
  exact HQ.out _ ⟨rfl, rfl, rfl, rfl, rfl, rfl, rfl, rfl, rfl, rfl, rfl, rfl, rfl, rfl⟩
theorem rn_r7 {K : Act → World → Prop} {c : Code} (hc : regOf (Try.f18.body.getD .skip) 7 = some c) (a : Act) {v : Vrn} {wq : World} {s : ByteArray} {x : Nat} (hF : Frn a v) (h6v : v.v6 = .string s) (hx : 4 + s.size = x) (hs : s.size ≤ 3000000) (hQ : ∀ a', Frn a' { v with v9 := .int .i64 (x : Int) } → K a' wq) :
    Code.wp Try.prog c (Exit.then K fun _ _ _ => False) a wq := by
  have HQ := hide hQ
  clear hQ
  obtain ⟨v0, v1, v2, v4, v5, v6, v7, v8, v9, v10, v11, v12⟩ := v
  simp only at h6v HQ
  subst h6v
  obtain ⟨u, rfl⟩ := frx_rn hF
  clear hF
  simp only [Try.f18, Option.getD_some, regOf] at hc
  injection hc with hc
  subst hc
  have w1 : IntKind.i64.wrap (4 + (s.size : Int)) = 4 + (s.size : Int) := by rw [IntKind.wrap_i64]; omega
  have hx2 : (x : Int) = 4 + (s.size : Int) := by omega
  rw [hx2] at HQ
  clear hx hx2
  go_wp2
  exact HQ.out _ ⟨rfl, rfl, rfl, rfl, rfl, rfl, rfl, rfl, rfl, rfl, rfl, rfl, rfl, rfl⟩
theorem rn_r8 {K : Act → World → Prop} {c : Code} (hc : regOf (Try.f18.body.getD .skip) 8 = some c) (a : Act) {v : Vrn} {wq : World}  (hF : Frn a v) (hQ : ∀ a', Frn a' { v with v10 := .int .i64 ((0 : Nat) : Int) } → K a' wq) :
    Code.wp Try.prog c (Exit.then K fun _ _ _ => False) a wq := by
  have HQ := hide hQ
  clear hQ
  obtain ⟨v0, v1, v2, v4, v5, v6, v7, v8, v9, v10, v11, v12⟩ := v
  obtain ⟨u, rfl⟩ := frx_rn hF
  clear hF
  simp only [Try.f18, Option.getD_some, regOf] at hc
  injection hc with hc
  subst hc
  go_wp2
  exact HQ.out _ ⟨rfl, rfl, rfl, rfl, rfl, rfl, rfl, rfl, rfl, rfl, rfl, rfl, rfl, rfl⟩
theorem rn_r9n {K : Act → World → Prop} {c : Code} (hc : regOf (Try.f18.body.getD .skip) 9 = some c) (a : Act) {v : Vrn} {wq : World} {lo : Option Addr} {ln lc : Nat} {k : Nat} (hF : Frn a v) (h1v : v.v1 = .slice lo ln lc) (h10v : v.v10 = .int .i64 (k : Int)) (hk : ¬ (k : Int) < (ln : Int)) (hQ : ∀ a', Frn a' v → a'.tmps.getD 32 undef = .bool false → K a' wq) :
    Code.wp Try.prog c (Exit.then K fun _ _ _ => False) a wq := by
  have HQ := hide hQ
  clear hQ
  obtain ⟨v0, v1, v2, v4, v5, v6, v7, v8, v9, v10, v11, v12⟩ := v
  simp only at h1v h10v HQ
  subst h1v h10v
  obtain ⟨u, rfl⟩ := frx_rn hF
  clear hF
  simp only [Try.f18, Option.getD_some, regOf] at hc
  injection hc with hc
  subst hc
  have hd : decide ((k : Int) < (ln : Int)) = false := decide_eq_false hk
  go_wp2
  exact HQ.out _ ⟨rfl, rfl, rfl, rfl, rfl, rfl, rfl, rfl, rfl, rfl, rfl, rfl, rfl, rfl⟩ (by first | rfl | (simp; done))
theorem rn_r9y {K : Act → World → Prop} {c : Code} (hc : regOf (Try.f18.body.getD .skip) 9 = some c) (a : Act) {v : Vrn} {wq : World} {lo : Option Addr} {ln lc : Nat} {k : Nat} (hF : Frn a v) (h1v : v.v1 = .slice lo ln lc) (h10v : v.v10 = .int .i64 (k : Int)) (hk : (k : Int) < (ln : Int)) (hQ : ∀ a', Frn a' v → a'.tmps.getD 32 undef = .bool true → K a' wq) :
    Code.wp Try.prog c (Exit.then K fun _ _ _ => False) a wq := by
  have HQ := hide hQ
  clear hQ
  obtain ⟨v0, v1, v2, v4, v5, v6, v7, v8, v9, v10, v11, v12⟩ := v
  simp only at h1v h10v HQ
  subst h1v h10v
  obtain ⟨u, rfl⟩ := frx_rn hF
  clear hF
  simp only [Try.f18, Option.getD_some, regOf] at hc
  injection hc with hc
  subst hc
  have hd : decide ((k : Int) < (ln : Int)) = true := decide_eq_true hk
  go_wp2
  exact HQ.out _ ⟨rfl, rfl, rfl, rfl, rfl, rfl, rfl, rfl, rfl, rfl, rfl, rfl, rfl, rfl⟩ (by first | rfl | (simp; done))
theorem rn_r11 {K : Act → World → Prop} {c : Code} (hc : regOf (Try.f18.body.getD .skip) 11 = some c) (a : Act) {v : Vrn} {wq : World} {g of ln lc k m oc tc : Nat} {oo ta : Option Addr} {x : ByteArray} {w5 : World} (hF : Frn a v) (h1v : v.v1 = .slice (some ⟨g, of, none⟩) ln lc) (h10v : v.v10 = .int .i64 (k : Int)) (h8v : v.v8 = .slice oo m oc) (hk : k < ln) (hcl : wq.cell? ⟨g, of + k, none⟩ = some (.string x)) (hrun : (Builtin.append_ #[60, 60] 60 #[.slice oo m oc, .slice (some ⟨wq.heap.size, 0, none⟩) 1 1]).run Try.prog (wq.alloc (.cells #[.int .i64 4, .int .u64 0, .string x] tItem)) = .ok (.slice ta (m + 1) tc) w5)
    (hQ : ∀ a', Frn a' { v with v8 := .slice ta (m + 1) tc } → K a' w5) :
    Code.wp Try.prog c (Exit.then K fun _ _ _ => False) a wq := by
  have HQ := hide hQ
  clear hQ
  obtain ⟨v0, v1, v2, v4, v5, v6, v7, v8, v9, v10, v11, v12⟩ := v
  simp only at h1v h10v h8v HQ
  subst h1v h10v h8v
  obtain ⟨u, rfl⟩ := frx_rn hF
  clear hF
  simp only [Try.f18, Option.getD_some, regOf] at hc
  injection hc with hc
  subst hc
  have i0 : (0 : Int) ≤ (k : Int) := by omega
  have i1 : (k : Int) < (ln : Int) := by omega
  clear hk
  have HRUN := hide hrun
  clear hrun
  go_wp2_with (at_builtin; refine wpList_append_run rfl _ _ 60 rfl _ _ _ rfl rfl HRUN.out ?_)
  exact HQ.out _ ⟨rfl, rfl, rfl, rfl, rfl, rfl, rfl, rfl, rfl, rfl, rfl, rfl, rfl, rfl⟩
theorem rn_r12 {K : Act → World → Prop} {c : Code} (hc : regOf (Try.f18.body.getD .skip) 12 = some c) (a : Act) {v : Vrn} {wq : World} {g of ln lc k x y : Nat} {s : ByteArray} (hF : Frn a v) (h1v : v.v1 = .slice (some ⟨g, of, none⟩) ln lc) (h10v : v.v10 = .int .i64 (k : Int)) (h9v : v.v9 = .int .i64 (x : Int)) (hk : k < ln) (hcl : wq.cell? ⟨g, of + k, none⟩ = some (.string s)) (hy : x + (4 + s.size) = y) (hb : y ≤ 139611588448485376)
    (hQ : ∀ a', Frn a' { v with v9 := .int .i64 (y : Int) } → K a' wq) :
    Code.wp Try.prog c (Exit.then K fun _ _ _ => False) a wq := by
  have HQ := hide hQ
  clear hQ
  obtain ⟨v0, v1, v2, v4, v5, v6, v7, v8, v9, v10, v11, v12⟩ := v
  simp only at h1v h10v h9v HQ
  subst h1v h10v h9v
  obtain ⟨u, rfl⟩ := frx_rn hF
  clear hF
  simp only [Try.f18, Option.getD_some, regOf] at hc
  injection hc with hc
  subst hc
  have i0 : (0 : Int) ≤ (k : Int) := by omega
  have i1 : (k : Int) < (ln : Int) := by omega
  clear hk
  have w1 : IntKind.i64.wrap ((x : Int) + 4) = (x : Int) + 4 := by rw [IntKind.wrap_i64]; omega
  have w2 : IntKind.i64.wrap ((x : Int) + 4 + (s.size : Int)) = (x : Int) + 4 + (s.size : Int) := by rw [IntKind.wrap_i64]; omega
  have hy2 : (y : Int) = (x : Int) + 4 + (s.size : Int) := by omega
  rw [hy2] at HQ
  clear hy hy2 hb
  go_wp2
  exact HQ.out _ ⟨rfl, rfl, rfl, rfl, rfl, rfl, rfl, rfl, rfl, rfl, rfl, rfl, rfl, rfl⟩
theorem rn_r10 {K : Act → World → Prop} {c : Code} (hc : regOf (Try.f18.body.getD .skip) 10 = some c) (a : Act) {v : Vrn} {wq : World} {k : Nat} (hF : Frn a v) (h10v : v.v10 = .int .i64 (k : Int)) (hk : k ≤ 1000000) (hQ : ∀ a', Frn a' { v with v10 := .int .i64 ((k + 1 : Nat) : Int) } → K a' wq) :
    Code.wp Try.prog c (Exit.then K fun _ _ _ => False) a wq := by
  have HQ := hide hQ
  clear hQ
  obtain ⟨v0, v1, v2, v4, v5, v6, v7, v8, v9, v10, v11, v12⟩ := v
  simp only at h10v HQ
  subst h10v
  obtain ⟨u, rfl⟩ := frx_rn hF
  clear hF
  simp only [Try.f18, Option.getD_some, regOf] at hc
  injection hc with hc
  subst hc
  have hc : ((k + 1 : Nat) : Int) = (k : Int) + 1 := by omega
  rw [hc] at HQ
  go_wp2
  exact HQ.out _ ⟨rfl, rfl, rfl, rfl, rfl, rfl, rfl, rfl, rfl, rfl, rfl, rfl, rfl, rfl⟩
theorem rn_r13y {K : Act → World → Prop} {c : Code} (hc : regOf (Try.f18.body.getD .skip) 13 = some c) (a : Act) {v : Vrn} {wq : World} {x : Nat} (hF : Frn a v) (h9v : v.v9 = .int .i64 (x : Int)) (hx : 100000 < x) (hQ : ∀ a', Frn a' v → a'.tmps.getD 52 undef = .bool true → K a' wq) :
    Code.wp Try.prog c (Exit.then K fun _ _ _ => False) a wq := by
  have HQ := hide hQ
  clear hQ
  obtain ⟨v0, v1, v2, v4, v5, v6, v7, v8, v9, v10, v11, v12⟩ := v
  simp only at h9v HQ
  subst h9v
  obtain ⟨u, rfl⟩ := frx_rn hF
  clear hF
  simp only [Try.f18, Option.getD_some, regOf] at hc
  injection hc with hc
  subst hc
  have hd : decide ((100000 : Int) < (x : Int)) = true := decide_eq_true (by omega)
  go_wp2
  exact HQ.out _ ⟨rfl, rfl, rfl, rfl, rfl, rfl, rfl, rfl, rfl, rfl, rfl, rfl, rfl, rfl⟩ (by first | rfl | (simp; done))
theorem rn_r13n {K : Act → World → Prop} {c : Code} (hc : regOf (Try.f18.body.getD .skip) 13 = some c) (a : Act) {v : Vrn} {wq : World} {x : Nat} (hF : Frn a v) (h9v : v.v9 = .int .i64 (x : Int)) (hx : x ≤ 100000) (hQ : ∀ a', Frn a' v → a'.tmps.getD 52 undef = .bool false → K a' wq) :
    Code.wp Try.prog c (Exit.then K fun _ _ _ => False) a wq := by
  have HQ := hide hQ
  clear hQ
  obtain ⟨v0, v1, v2, v4, v5, v6, v7, v8, v9, v10, v11, v12⟩ := v
  simp only at h9v HQ
  subst h9v
  obtain ⟨u, rfl⟩ := frx_rn hF
  clear hF
  simp only [Try.f18, Option.getD_some, regOf] at hc
  injection hc with hc
  subst hc
  have hd : decide ((100000 : Int) < (x : Int)) = false := decide_eq_false (by omega)
  go_wp2
  exact HQ.out _ ⟨rfl, rfl, rfl, rfl, rfl, rfl, rfl, rfl, rfl, rfl, rfl, rfl, rfl, rfl⟩ (by first | rfl | (simp; done))
theorem rn_r14 {K : Act → World → Prop} {c : Code} (hc : regOf (Try.f18.body.getD .skip) 14 = some c) (a : Act) {v : Vrn} {wq : World}  (hF : Frn a v) (hQ : ∀ a', Frn a' { v with v4 := .string ⟨#[]⟩, v5 := .int .i64 3 } → K a' wq) :
    Code.wp Try.prog c (Exit.then K fun _ _ _ => False) a wq := by
  have HQ := hide hQ
  clear hQ
  obtain ⟨v0, v1, v2, v4, v5, v6, v7, v8, v9, v10, v11, v12⟩ := v
  obtain ⟨u, rfl⟩ := frx_rn hF
  clear hF
  simp only [Try.f18, Option.getD_some, regOf] at hc
  injection hc with hc
  subst hc
  go_wp2
  exact HQ.out _ ⟨rfl, rfl, rfl, rfl, rfl, rfl, rfl, rfl, rfl, rfl, rfl, rfl, rfl, rfl⟩
theorem rn_r15 {K : Act → World → Prop} {c : Code} (hc : regOf (Try.f18.body.getD .skip) 15 = some c) (a : Act) {v : Vrn} {wq : World} {R : World → Prop} {oo : Option Addr} {m oc : Nat} {t : ByteArray} {z : Int} (hF : Frn a v) (h8v : v.v8 = .slice oo m oc) (hE : Calls Try.prog 32 #[.slice oo m oc] wq fun e w' => e = .returned (.tuple #[.string t, .int .i64 z]) ∧ R w')
    (hQ : ∀ a' w1, Frn a' { v with v11 := .string t, v12 := .int .i64 z } → R w1 → K a' w1) :
    Code.wp Try.prog c (Exit.then K fun _ _ _ => False) a wq := by
  have HQ := hide hQ
  clear hQ
  obtain ⟨v0, v1, v2, v4, v5, v6, v7, v8, v9, v10, v11, v12⟩ := v
  simp only at h8v HQ
  subst h8v
  obtain ⟨u, rfl⟩ := frx_rn hF
  clear hF
  simp only [Try.f18, Option.getD_some, regOf] at hc
  injection hc with hc
  subst hc
  have HE := hide hE
  clear hE
  go_wp2_with (go_at_call 32; refine HE.out.mono ?_; rintro e w1 ⟨rfl, r1⟩; have R1 := hide r1; clear r1)
  exact HQ.out _ _ ⟨rfl, rfl, rfl, rfl, rfl, rfl, rfl, rfl, rfl, rfl, rfl, rfl, rfl, rfl⟩ R1.out
theorem rn_r16 {K : Act → World → Prop} {c : Code} (hc : regOf (Try.f18.body.getD .skip) 16 = some c) (a : Act) {v : Vrn} {wq : World} {t : ByteArray} (hF : Frn a v) (h11v : v.v11 = .string t) (hQ : ∀ a', Frn a' { v with v4 := .string t, v5 := .int .i64 0 } → K a' wq) :
    Code.wp Try.prog c (Exit.then K fun _ _ _ => False) a wq := by
  have HQ := hide hQ
  clear hQ
  obtain ⟨v0, v1, v2, v4, v5, v6, v7, v8, v9, v10, v11, v12⟩ := v
  simp only at h11v HQ
  subst h11v
  obtain ⟨u, rfl⟩ := frx_rn hF
  clear hF
  simp only [Try.f18, Option.getD_some, regOf] at hc
  injection hc with hc
  subst hc
  go_wp2
  exact HQ.out _ ⟨rfl, rfl, rfl, rfl, rfl, rfl, rfl, rfl, rfl, rfl, rfl, rfl, rfl, rfl⟩
theorem rn_ret {W : World} {a : Act} {v : Vrn} {s : ByteArray} {z : Int} {R : Ending → World → Prop} (hF : Frn a v) (h4 : v.v4 = .string s) (h5 : v.v5 = .int .i64 z) (h : R (.returned (.tuple #[.string s, .int .i64 z])) W) : bodyPost Try.prog Try.f18 R .ret a W := by
  have g4 := slot_get (hF.s4.trans h4)
  have g5 := slot_get (hF.s5.trans h5)
  refine bodyPost_ret (v := .tuple #[.string s, .int .i64 z]) ?_ hF.defers h
  simp [results, Try.results18, go_sem, g4, g5]
end Go.Proofs.Ytfcpclpaalekiaa
namespace Go.Proofs.Ytfcpclpaalekiaa
open Go.RowKit
set_option maxHeartbeats 8000000
set_option maxRecDepth 100000
attribute [local go_sem ↓] Go.wp_at_zero Go.wp_at_succ
set_option linter.unusedSimpArgs false
set_option linter.unusedVariables false
theorem rfencode (v : VW) (ao lo : Option Addr) (cp lc : Nat) (log : List ByteArray) (w : World) (hM : MemsAt w ao v.mem) (hL : TextsAt w lo log) (hl : log.length ≤ 17592186044416) (hs : ∀ s ∈ log, s.size ≤ 140737488351232) :
    Calls Try.prog 18 #[v.v ao cp, .slice lo log.length lc] w fun e w' => e = .returned (.tuple #[.string ⟨(encL v log).1.toArray⟩, .int .i64 (encL v log).2]) ∧ Below w.heap.size w w' := by
  have X0 := heap_alloc_new w (.cells #[.int .i64 v.num, .slice ao v.mem.length cp] tView)
  have B0 := (Below.refl w.heap.size w).alloc (Nat.le_refl _) (.cells #[.int .i64 v.num, .slice ao v.mem.length cp] tView)
  simp only [VW.v]
  go_enter Try.func18, Try.ntmps18
  refine wp_seq (reg_mono (rn_r0 (by kernel_rfl) _ (v := ⟨_, _, _, _, _, _, _, _, _, _, _, _⟩) ⟨rfl, rfl, rfl, rfl, rfl, rfl, rfl, rfl, rfl, rfl, rfl, rfl, rfl, rfl⟩ rfl ?_))
  intro a0 F0
  try dsimp only at F0
  generalize w.alloc _ = w0 at *
  have hv12 := rencV K.rencode_any v ao cp w0 (hM.below B0)
  simp only [VW.v] at hv12
  refine wp_seq (reg_mono (rn_r1 (R := fun W => Below w0.heap.size w0 W) (by kernel_rfl) _ F0 rfl X0 hv12 ?_))
  intro a1 w1 F1 b1
  try dsimp only at F1
  have B1 := B0.trans (b1.mono B0.size)
  by_cases hr : v.right
  case neg =>
    have hQ : encL v log = ([], 1) := by unfold encL; rw [if_neg hr]
    rw [hQ]
    rw [decide_eq_false hr] at F1
    refine wp_seq (wp_seq (reg_mono (rn_r2y (by kernel_rfl) _ F1 rfl ?_)))
    intro a2 F2 g2
    refine wp_cond_true g2 ?_
    refine wp_seq (reg_mono (rn_r3 (by kernel_rfl) _ F2 ?_))
    intro a3 F3
    refine wp_ret ?_
    try dsimp only [Exit.then, Exit.inBlock]
    exact rn_ret (s := ⟨#[]⟩) (z := 1) F3 rfl rfl ⟨rfl, B1⟩
  rw [if_pos hr, decide_eq_true hr] at F1
  have hcd : (⟨(codeV v).toArray⟩ : ByteArray) = headV v := rfl
  rw [hcd] at F1
  refine wp_seq (wp_seq (reg_mono (rn_r2n (by kernel_rfl) _ F1 rfl ?_)))
  intro a2 F2 g2
  refine wp_cond_false g2 (wp_skip ?_)
  show Code.wp _ _ _ _ _
  by_cases h9 : 990 < log.length
  · have hQ : encL v log = ([], 3) := by
      unfold encL
      rw [if_pos hr, if_neg (fun h => by have := h.1; omega)]
    rw [hQ]
    refine wp_seq (wp_seq (reg_mono (rn_r4y (by kernel_rfl) _ F2 rfl h9 ?_)))
    intro a4 F4 g4
    refine wp_cond_true g4 ?_
    refine wp_seq (reg_mono (rn_r5 (by kernel_rfl) _ F4 ?_))
    intro a5 F5
    refine wp_ret ?_
    try dsimp only [Exit.then, Exit.inBlock]
    exact rn_ret (s := ⟨#[]⟩) (z := 3) F5 rfl rfl ⟨rfl, B1⟩
  have h90 : log.length ≤ 990 := by omega
  refine wp_seq (wp_seq (reg_mono (rn_r4n (by kernel_rfl) _ F2 rfl h90 ?_)))
  intro a4 F4 g4
  refine wp_cond_false g4 (wp_skip ?_)
  show Code.wp _ _ _ _ _
  refine wp_seq (reg_mono (rn_r6 (by kernel_rfl) _ F4 rfl ?_))
  intro a6 F6
  try dsimp only at F6
  have bu := (Below.refl w1.heap.size w1).alloc (Nat.le_refl _) (.cells #[.int .i64 4, .int .u64 0, .string (headV v)] tItem)
  have Y := heap_alloc_new w1 (.cells #[.int .i64 4, .int .u64 0, .string (headV v)] tItem)
  have B6 := B1.trans (bu.mono B1.size)
  have hsz1 := B1.size
  have O0 : (w1.alloc (.cells #[.int .i64 4, .int .u64 0, .string (headV v)] tItem)).ownsRow w.heap.size tItem 3 (.slice (some ⟨w1.heap.size, 0, none⟩) (0 + 1) 1) (0 + 1) (itCells ([txI (headV v)] ++ (log.take 0).map txI)) := ⟨rfl, .inr ⟨w1.heap.size, 1, _, rfl, by omega, Y, by simp, by unfold maxLen; omega, rfl, rfl⟩⟩
  have hh := headV_size hr
  generalize w1.heap.size = gb at *
  generalize w1.alloc _ = w6 at *
  have hz0 : sizeF (headV v :: log.take 0) = 4 + (headV v).size := rfl
  refine wp_seq (reg_mono (rn_r7 (by kernel_rfl) _ F6 rfl hz0.symm (by omega) ?_))
  intro a7 F7
  try dsimp only at F7
  refine wp_seq (wp_seq (reg_mono (rn_r8 (by kernel_rfl) _ F7 ?_)))
  intro a8 F8
  try dsimp only at F8
  have hzk : ∀ k, sizeF (headV v :: log.take k) ≤ 139611588448485376 := fun k => sizeF_up (by rw [List.length_cons, List.length_take]; omega) (fun s h => by
    rcases List.mem_cons.1 h with e | e
    · rw [e]; omega
    · exact hs s (List.mem_of_mem_take e))
  refine wp_block (wp_loop (fun a' W => ∃ (k : Nat) (oo : Option Addr) (oc : Nat) (x11 x12 : Value), k ≤ log.length ∧ W.ownsRow w.heap.size tItem 3 (.slice oo (k + 1) oc) (k + 1) (itCells ([txI (headV v)] ++ (log.take k).map txI)) ∧ Below w.heap.size w W ∧ Frn a' { v0 := .agg #[.int .i64 v.num, .slice ao v.mem.length cp], v1 := .slice lo log.length lc, v2 := .pointer (some ⟨w.heap.size, 0, none⟩), v4 := .string ⟨#[]⟩, v5 := .int .i64 0, v6 := .string (headV v), v7 := .bool true, v8 := .slice oo (k + 1) oc, v9 := .int .i64 (sizeF (headV v :: log.take k) : Nat), v10 := .int .i64 (k : Int), v11 := x11, v12 := x12 }) (fun a' _ => log.length - (intOf (a'.tmps.getD 10 undef)).toNat) ⟨0, _, _, _, _, Nat.zero_le _, O0, B6, F8⟩ ?_)
  clear F0 F1 F2 F4 F6 F7 F8 O0 g2 g4 hv12 X0 b1 bu Y
  rintro a' W ⟨k, oo, oc, x11, x12, hk, O, B, F⟩
  have hmk : (intOf (a'.tmps.getD 10 undef)).toNat = k := by rw [F.s10]; simp [intOf]
  by_cases hlt : (k : Int) < (log.length : Int)
  · have hkl : k < log.length := by omega
    refine wp_seq (wp_seq (reg_mono (rn_r9y (by kernel_rfl) _ F rfl rfl hlt ?_)))
    intro a9 F9 g9
    refine wp_cond_true g9 (wp_skip ?_)
    show Code.wp _ _ _ _ _
    obtain ⟨g, of, hlo, hg, hc⟩ := (hL.below B) k hkl
    have HT : (log.take (k + 1)).map txI = (log.take k).map txI ++ [txI log[k]] := by rw [List.take_succ_eq_append_getElem hkl, List.map_append]; rfl
    have HZ : sizeF (headV v :: log.take (k + 1)) = sizeF (headV v :: log.take k) + (4 + log[k].size) := by
      show 4 + (headV v).size + sizeF (log.take (k + 1)) = 4 + (headV v).size + sizeF (log.take k) + (4 + log[k].size)
      rw [sizeF_take log k hkl]; omega
    obtain ⟨ta, tc, w5, hrun, hrow, hbel⟩ := app_item O log[k] (by omega) B.size
    have hrow2 : w5.ownsRow w.heap.size tItem 3 (.slice ta (k + 1 + 1) tc) (k + 1 + 1) (itCells ([txI (headV v)] ++ (log.take (k + 1)).map txI)) := by rw [HT, ← List.append_assoc]; exact hrow
    have hc5 : ∀ {o : Option Addr}, True → True := fun _ => trivial
    refine wp_seq (wp_block ?_)
    refine wp_seq (reg_mono (rn_r11 (by kernel_rfl) _ F9 (by rw [hlo]) rfl rfl hkl hc hrun ?_))
    intro a11 F11
    try dsimp only at F11
    have B5 := B.trans hbel
    obtain ⟨g2, of2, hlo2, _, hc2⟩ := (hL.below B5) k hkl
    refine reg_all (rn_r12 (by kernel_rfl) _ F11 (by rw [hlo2]) rfl rfl hkl hc2 HZ.symm (hzk _) ?_)
    intro a12 F12
    try dsimp only at F12
    show Code.wp _ _ _ _ _
    refine reg_all (rn_r10 (by kernel_rfl) _ F12 rfl (by omega) ?_)
    intro a10 F10
    try dsimp only at F10
    refine ⟨⟨k + 1, ta, tc, _, _, by omega, hrow2, B5, by rw [hlo2] at *; exact F10⟩, ?_⟩
    rw [hmk, F10.s10]
    simp [intOf]
    omega
  have hkl : k = log.length := by omega
  subst hkl
  rw [List.take_length] at O
  refine wp_seq (wp_seq (reg_mono (rn_r9n (by kernel_rfl) _ F rfl rfl hlt ?_)))
  intro a9 F9 g9
  refine wp_cond_false g9 (wp_exit ?_)
  show Code.wp _ _ _ _ _
  have hzl : sizeF (headV v :: log.take log.length) = sizeF (headV v :: log) := by rw [List.take_length]
  rw [hzl] at F9
  by_cases hf : 100000 < sizeF (headV v :: log)
  · have hQ : encL v log = ([], 3) := by
      unfold encL
      rw [if_pos hr, if_neg (fun h => by have := h.2; omega)]
    rw [hQ]
    refine wp_seq (wp_seq (reg_mono (rn_r13y (by kernel_rfl) _ F9 rfl hf ?_)))
    intro a13 F13 g13
    refine wp_cond_true g13 ?_
    refine wp_seq (reg_mono (rn_r14 (by kernel_rfl) _ F13 ?_))
    intro a14 F14
    refine wp_ret ?_
    try dsimp only [Exit.then, Exit.inBlock]
    exact rn_ret (s := ⟨#[]⟩) (z := 3) F14 rfl rfl ⟨rfl, B⟩
  have hfit : fitsL v log := ⟨h90, by omega⟩
  have hQ : encL v log = (((itemsL v log).flatMap K.itemB), 0) := by
    unfold encL
    rw [if_pos hr, if_pos hfit]
  have hE := encF_L hfit
  have hil : (itemsL v log).length = log.length + 1 := by unfold itemsL; simp
  have hren := K.rencode_any oo oc (itemsL v log) W (its_of_row (L := itemsL v log) O hil) (itemsL_ok hfit) (by rw [hil]; unfold maxLen; omega)
  rw [hil, hE] at hren
  rw [hQ]
  refine wp_seq (wp_seq (reg_mono (rn_r13n (by kernel_rfl) _ F9 rfl (by omega) ?_)))
  intro a13 F13 g13
  refine wp_cond_false g13 (wp_skip ?_)
  show Code.wp _ _ _ _ _
  refine wp_seq (reg_mono (rn_r15 (R := fun W' => Below W.heap.size W W') (by kernel_rfl) _ F13 rfl hren ?_))
  intro a15 w15 F15 b15
  try dsimp only at F15
  refine wp_seq (reg_mono (rn_r16 (by kernel_rfl) _ F15 rfl ?_))
  intro a16 F16
  refine wp_ret ?_
  try dsimp only [Exit.then, Exit.inBlock]
  exact rn_ret F16 rfl rfl ⟨rfl, B.trans (b15.mono B.size)⟩
end Go.Proofs.Ytfcpclpaalekiaa
