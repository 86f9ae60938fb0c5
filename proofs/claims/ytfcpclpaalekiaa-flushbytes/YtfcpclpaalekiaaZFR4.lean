/-
  carillonref19's Decode, as it runs (mkfr.py).
-/
import Derived.Test.YtfcpclpaalekiaaZPhiG
import Derived.Test.YtfcpclpaalekiaaZKR10
import Derived.Laws.StructEq
namespace Go.Proofs.Ytfcpclpaalekiaa
open Go.RowKit
set_option maxHeartbeats 8000000
set_option maxRecDepth 100000
attribute [local go_sem ↓] Go.wp_at_zero Go.wp_at_succ
set_option linter.unusedSimpArgs false
set_option linter.unusedVariables false
theorem frame_rd (t : Array Value) (h : t.size = 52) : ∃ u : Nat → Value, t = List.toArray (u 0 :: u 1 :: u 2 :: u 3 :: u 4 :: u 5 :: u 6 :: u 7 :: u 8 :: u 9 :: u 10 :: u 11 :: u 12 :: u 13 :: u 14 :: u 15 :: u 16 :: u 17 :: u 18 :: u 19 :: u 20 :: u 21 :: u 22 :: u 23 :: u 24 :: u 25 :: u 26 :: u 27 :: u 28 :: u 29 :: u 30 :: u 31 :: u 32 :: u 33 :: u 34 :: u 35 :: u 36 :: u 37 :: u 38 :: u 39 :: u 40 :: u 41 :: u 42 :: u 43 :: u 44 :: u 45 :: u 46 :: u 47 :: u 48 :: u 49 :: u 50 :: u 51 :: []) := by
  refine ⟨fun i => t.getD i undef, ?_⟩
  refine Eq.trans (b := ((List.range 52).map fun i => t.getD i undef).toArray) ?_ rfl
  apply Array.ext
  · simp [h]
  · intro k h1 h2
    simp [Array.getD, h1]
structure Vrd where
  v0 : Value
  v2 : Value
  v3 : Value
  v4 : Value
  v5 : Value
  v6 : Value
  v7 : Value
  v8 : Value
  v9 : Value
  v10 : Value
structure Frd (a : Act) (v : Vrd) : Prop where
  size : a.tmps.size = 52
  defers : a.defers = []
  s0 : a.tmps.getD 0 undef = v.v0
  s2 : a.tmps.getD 2 undef = v.v2
  s3 : a.tmps.getD 3 undef = v.v3
  s4 : a.tmps.getD 4 undef = v.v4
  s5 : a.tmps.getD 5 undef = v.v5
  s6 : a.tmps.getD 6 undef = v.v6
  s7 : a.tmps.getD 7 undef = v.v7
  s8 : a.tmps.getD 8 undef = v.v8
  s9 : a.tmps.getD 9 undef = v.v9
  s10 : a.tmps.getD 10 undef = v.v10
theorem frx_rd {a : Act} {v0 v2 v3 v4 v5 v6 v7 v8 v9 v10 : Value} (h : Frd a ⟨v0, v2, v3, v4, v5, v6, v7, v8, v9, v10⟩) : ∃ u : Nat → Value, a = ⟨List.toArray (v0 :: u 1 :: v2 :: v3 :: v4 :: v5 :: v6 :: v7 :: v8 :: v9 :: v10 :: u 11 :: u 12 :: u 13 :: u 14 :: u 15 :: u 16 :: u 17 :: u 18 :: u 19 :: u 20 :: u 21 :: u 22 :: u 23 :: u 24 :: u 25 :: u 26 :: u 27 :: u 28 :: u 29 :: u 30 :: u 31 :: u 32 :: u 33 :: u 34 :: u 35 :: u 36 :: u 37 :: u 38 :: u 39 :: u 40 :: u 41 :: u 42 :: u 43 :: u 44 :: u 45 :: u 46 :: u 47 :: u 48 :: u 49 :: u 50 :: u 51 :: []), []⟩ := by
  obtain ⟨t', d'⟩ := a
  obtain ⟨hs, hd, q0, q2, q3, q4, q5, q6, q7, q8, q9, q10⟩ := h
  obtain ⟨u, hu⟩ := frame_rd t' hs
  simp only at hd q0 q2 q3 q4 q5 q6 q7 q8 q9 q10
  subst hu hd
  have e0 : u 0 = v0 := q0
  have e2 : u 2 = v2 := q2
  have e3 : u 3 = v3 := q3
  have e4 : u 4 = v4 := q4
  have e5 : u 5 = v5 := q5
  have e6 : u 6 = v6 := q6
  have e7 : u 7 = v7 := q7
  have e8 : u 8 = v8 := q8
  have e9 : u 9 = v9 := q9
  have e10 : u 10 = v10 := q10
  refine ⟨u, ?_⟩
  rw [e0, e2, e3, e4, e5, e6, e7, e8, e9, e10]
theorem rd_r0 {K : Act → World → Prop} {c : Code} (hc : regOf (Try.f20.body.getD .skip) 0 = some c) (a : Act) {v : Vrd} {wq : World}  (hF : Frd a v) (hQ : ∀ a', Frd a' { v with v2 := .pointer (some ⟨wq.heap.size, 0, none⟩), v3 := .slice none 0 0, v4 := .int .i64 0 } → K a' (wq.alloc (.cells #[.int .i64 0, .slice none 0 0] tView))) :
    Code.wp Try.prog c (Exit.then K fun _ _ _ => False) a wq := by
  have HQ := hide hQ
  clear hQ
  obtain ⟨v0, v2, v3, v4, v5, v6, v7, v8, v9, v10⟩ := v
  obtain ⟨u, rfl⟩ := frx_rd hF
  clear hF
  simp only [Try.f20, Option.getD_some, regOf] at hc
  injection hc with hc
  subst hc
  go_wp2
  exact HQ.out _ ⟨rfl, rfl, rfl, rfl, rfl, rfl, rfl, rfl, rfl, rfl, rfl, rfl⟩
theorem rd_r1 {K : Act → World → Prop} {c : Code} (hc : regOf (Try.f20.body.getD .skip) 1 = some c) (a : Act) {v : Vrd} {wq : World} {R : Option Addr → Nat → World → Prop} {t : ByteArray} {z : Int} {n : Nat} (hF : Frd a v) (h0v : v.v0 = .string t) (hE : Calls Try.prog 36 #[.string ⟨#[116, 42, 116]⟩, .string t] wq fun e w' => ∃ (oo : Option Addr) (oc : Nat), e = .returned (.tuple #[.slice oo n oc, .int .i64 z]) ∧ R oo oc w')
    (hQ : ∀ a' w1 oo oc, Frd a' { v with v5 := .slice oo n oc, v6 := .int .i64 z } → R oo oc w1 → K a' w1) :
    Code.wp Try.prog c (Exit.then K fun _ _ _ => False) a wq := by
  have HQ := hide hQ
  clear hQ
  obtain ⟨v0, v2, v3, v4, v5, v6, v7, v8, v9, v10⟩ := v
  simp only at h0v HQ
  subst h0v
  obtain ⟨u, rfl⟩ := frx_rd hF
  clear hF
  simp only [Try.f20, Option.getD_some, regOf] at hc
  injection hc with hc
  subst hc
  have HE := hide hE
  clear hE
  go_wp2_with (go_at_call 36; refine HE.out.mono ?_; rintro e w1 ⟨oo, oc, rfl, r1⟩; have R1 := hide r1; clear r1)
  exact HQ.out _ _ _ _ ⟨rfl, rfl, rfl, rfl, rfl, rfl, rfl, rfl, rfl, rfl, rfl, rfl⟩ R1.out
theorem rd_r2y {K : Act → World → Prop} {c : Code} (hc : regOf (Try.f20.body.getD .skip) 2 = some c) (a : Act) {v : Vrd} {wq : World} {z : Int} (hF : Frd a v) (h6v : v.v6 = .int .i64 z) (hz : z ≠ 0) (hQ : ∀ a', Frd a' v → a'.tmps.getD 17 undef = .bool true → K a' wq) :
    Code.wp Try.prog c (Exit.then K fun _ _ _ => False) a wq := by
  have HQ := hide hQ
  clear hQ
  obtain ⟨v0, v2, v3, v4, v5, v6, v7, v8, v9, v10⟩ := v
  simp only at h6v HQ
  subst h6v
  obtain ⟨u, rfl⟩ := frx_rd hF
  clear hF
  simp only [Try.f20, Option.getD_some, regOf] at hc
  injection hc with hc
  subst hc
  have hd : (z != 0) = true := by simp [hz]
  go_wp2
  exact HQ.out _ ⟨rfl, rfl, rfl, rfl, rfl, rfl, rfl, rfl, rfl, rfl, rfl, rfl⟩ (by first | rfl | (simp; done))
theorem rd_r2n {K : Act → World → Prop} {c : Code} (hc : regOf (Try.f20.body.getD .skip) 2 = some c) (a : Act) {v : Vrd} {wq : World}  (hF : Frd a v) (h6v : v.v6 = .int .i64 0) (hQ : ∀ a', Frd a' v → a'.tmps.getD 17 undef = .bool false → K a' wq) :
    Code.wp Try.prog c (Exit.then K fun _ _ _ => False) a wq := by
  have HQ := hide hQ
  clear hQ
  obtain ⟨v0, v2, v3, v4, v5, v6, v7, v8, v9, v10⟩ := v
  simp only at h6v HQ
  subst h6v
  obtain ⟨u, rfl⟩ := frx_rd hF
  clear hF
  simp only [Try.f20, Option.getD_some, regOf] at hc
  injection hc with hc
  subst hc
  go_wp2
  exact HQ.out _ ⟨rfl, rfl, rfl, rfl, rfl, rfl, rfl, rfl, rfl, rfl, rfl, rfl⟩ (by first | rfl | (simp; done))
theorem rd_r3 {K : Act → World → Prop} {c : Code} (hc : regOf (Try.f20.body.getD .skip) 3 = some c) (a : Act) {v : Vrd} {wq : World} {rb : Nat} {z0 z1 : Value} {z : Int} (hF : Frd a v) (h2v : v.v2 = .pointer (some ⟨rb, 0, none⟩)) (h6v : v.v6 = .int .i64 z) (hR : wq.heap[rb]? = some (.cells #[z0, z1] tView (0, 0))) 
    (hQ : ∀ a', Frd a' { v with v3 := .slice none 0 0, v4 := .int .i64 z } → K a' ((wq.setCell ⟨rb, 0, none⟩ (.int .i64 0)).setCell ⟨rb, 1, none⟩ (.slice none 0 0))) :
    Code.wp Try.prog c (Exit.then K fun _ _ _ => False) a wq := by
  have HQ := hide hQ
  clear hQ
  obtain ⟨v0, v2, v3, v4, v5, v6, v7, v8, v9, v10⟩ := v
  simp only at h2v h6v HQ
  subst h2v h6v
  obtain ⟨u, rfl⟩ := frx_rd hF
  clear hF
  simp only [Try.f20, Option.getD_some, regOf] at hc
  injection hc with hc
  subst hc
  have f0 := box_free hR 0
  have f1 := box_free hR 1
  have x0 := box_cell hR 0 rfl
  have x1 := box_cell hR 1 rfl
  clear hR
  go_wp2
  exact HQ.out _ ⟨rfl, rfl, rfl, rfl, rfl, rfl, rfl, rfl, rfl, rfl, rfl, rfl⟩
theorem rd_r6 {K : Act → World → Prop} {c : Code} (hc : regOf (Try.f20.body.getD .skip) 6 = some c) (a : Act) {v : Vrd} {wq : World} {rb : Nat} {z0 z1 : Value} (hF : Frd a v) (h2v : v.v2 = .pointer (some ⟨rb, 0, none⟩)) (hR : wq.heap[rb]? = some (.cells #[z0, z1] tView (0, 0))) 
    (hQ : ∀ a', Frd a' { v with v3 := .slice none 0 0, v4 := .int .i64 10 } → K a' ((wq.setCell ⟨rb, 0, none⟩ (.int .i64 0)).setCell ⟨rb, 1, none⟩ (.slice none 0 0))) :
    Code.wp Try.prog c (Exit.then K fun _ _ _ => False) a wq := by
  have HQ := hide hQ
  clear hQ
  obtain ⟨v0, v2, v3, v4, v5, v6, v7, v8, v9, v10⟩ := v
  simp only at h2v HQ
  subst h2v
  obtain ⟨u, rfl⟩ := frx_rd hF
  clear hF
  simp only [Try.f20, Option.getD_some, regOf] at hc
  injection hc with hc
  subst hc
  have f0 := box_free hR 0
  have f1 := box_free hR 1
  have x0 := box_cell hR 0 rfl
  have x1 := box_cell hR 1 rfl
  clear hR
  go_wp2
  exact HQ.out _ ⟨rfl, rfl, rfl, rfl, rfl, rfl, rfl, rfl, rfl, rfl, rfl, rfl⟩
theorem rd_r4 {K : Act → World → Prop} {c : Code} (hc : regOf (Try.f20.body.getD .skip) 4 = some c) (a : Act) {v : Vrd} {wq : World} {R : Option Addr → Nat → World → Prop} {g n oc m : Nat} {num z : Int} {xs : ByteArray} (hF : Frd a v) (h5v : v.v5 = .slice (some ⟨g, 0, none⟩) n oc) (hn : 1 ≤ n) (y2 : wq.cell? ⟨g, 2, none⟩ = some (.string xs)) (hE : Calls Try.prog 37 #[.string xs] wq fun e w' => ∃ (ro : Option Addr) (rc : Nat), e = .returned (.tuple #[.agg #[.int .i64 num, .slice ro m rc], .int .i64 z]) ∧ R ro rc w')
    (hQ : ∀ a' w1 ro rc, Frd a' { v with v7 := .pointer (some ⟨w1.heap.size, 0, none⟩), v8 := .int .i64 z } → R ro rc w1 → K a' (w1.alloc (.cells #[.int .i64 num, .slice ro m rc] tView))) :
    Code.wp Try.prog c (Exit.then K fun _ _ _ => False) a wq := by
  have HQ := hide hQ
  clear hQ
  obtain ⟨v0, v2, v3, v4, v5, v6, v7, v8, v9, v10⟩ := v
  simp only at h5v HQ
  subst h5v
  obtain ⟨u, rfl⟩ := frx_rd hF
  clear hF
  simp only [Try.f20, Option.getD_some, regOf] at hc
  injection hc with hc
  subst hc
  have hi : (0 : Int) < (n : Int) := by omega
  have HE := hide hE
  clear hE
  go_wp2_with (go_at_call 37; refine HE.out.mono ?_; rintro e w1 ⟨ro, rc, rfl, r1⟩; have R1 := hide r1; clear r1)
  exact HQ.out _ _ _ _ ⟨rfl, rfl, rfl, rfl, rfl, rfl, rfl, rfl, rfl, rfl, rfl, rfl⟩ R1.out
theorem rd_r5a {K : Act → World → Prop} {c : Code} (hc : regOf (Try.f20.body.getD .skip) 5 = some c) (a : Act) {v : Vrd} {wq : World} {z : Int} (hF : Frd a v) (h8v : v.v8 = .int .i64 z) (hz : z ≠ 0) (hQ : ∀ a', Frd a' v → a'.tmps.getD 34 undef = .bool true → K a' wq) :
    Code.wp Try.prog c (Exit.then K fun _ _ _ => False) a wq := by
  have HQ := hide hQ
  clear hQ
  obtain ⟨v0, v2, v3, v4, v5, v6, v7, v8, v9, v10⟩ := v
  simp only at h8v HQ
  subst h8v
  obtain ⟨u, rfl⟩ := frx_rd hF
  clear hF
  simp only [Try.f20, Option.getD_some, regOf] at hc
  injection hc with hc
  subst hc
  have hd : (z != 0) = true := by simp [hz]
  go_wp2
  exact HQ.out _ ⟨rfl, rfl, rfl, rfl, rfl, rfl, rfl, rfl, rfl, rfl, rfl, rfl⟩ (by first | rfl | (simp; done))
theorem rd_r5b {K : Act → World → Prop} {c : Code} (hc : regOf (Try.f20.body.getD .skip) 5 = some c) (a : Act) {v : Vrd} {wq : World} {oo : Option Addr} {n oc : Nat} (hF : Frd a v) (h8v : v.v8 = .int .i64 0) (h5v : v.v5 = .slice oo n oc) (hn : 991 < n) (hQ : ∀ a', Frd a' v → a'.tmps.getD 34 undef = .bool true → K a' wq) :
    Code.wp Try.prog c (Exit.then K fun _ _ _ => False) a wq := by
  have HQ := hide hQ
  clear hQ
  obtain ⟨v0, v2, v3, v4, v5, v6, v7, v8, v9, v10⟩ := v
  simp only at h8v h5v HQ
  subst h8v h5v
  obtain ⟨u, rfl⟩ := frx_rd hF
  clear hF
  simp only [Try.f20, Option.getD_some, regOf] at hc
  injection hc with hc
  subst hc
  have hd : decide ((991 : Int) < (n : Int)) = true := decide_eq_true (by omega)
  go_wp2
  exact HQ.out _ ⟨rfl, rfl, rfl, rfl, rfl, rfl, rfl, rfl, rfl, rfl, rfl, rfl⟩ (by first | rfl | (simp; done))
theorem rd_r5n {K : Act → World → Prop} {c : Code} (hc : regOf (Try.f20.body.getD .skip) 5 = some c) (a : Act) {v : Vrd} {wq : World} {oo : Option Addr} {n oc : Nat} (hF : Frd a v) (h8v : v.v8 = .int .i64 0) (h5v : v.v5 = .slice oo n oc) (hn : n ≤ 991) (hQ : ∀ a', Frd a' v → a'.tmps.getD 34 undef = .bool false → K a' wq) :
    Code.wp Try.prog c (Exit.then K fun _ _ _ => False) a wq := by
  have HQ := hide hQ
  clear hQ
  obtain ⟨v0, v2, v3, v4, v5, v6, v7, v8, v9, v10⟩ := v
  simp only at h8v h5v HQ
  subst h8v h5v
  obtain ⟨u, rfl⟩ := frx_rd hF
  clear hF
  simp only [Try.f20, Option.getD_some, regOf] at hc
  injection hc with hc
  subst hc
  have hd : decide ((991 : Int) < (n : Int)) = false := decide_eq_false (by omega)
  go_wp2
  exact HQ.out _ ⟨rfl, rfl, rfl, rfl, rfl, rfl, rfl, rfl, rfl, rfl, rfl, rfl⟩ (by first | rfl | (simp; done))
theorem rd_r7 {K : Act → World → Prop} {c : Code} (hc : regOf (Try.f20.body.getD .skip) 7 = some c) (a : Act) {v : Vrd} {wq : World}  (hF : Frd a v) (hQ : ∀ a', Frd a' { v with v9 := .slice none 0 0 } → K a' wq) :
    Code.wp Try.prog c (Exit.then K fun _ _ _ => False) a wq := by
  have HQ := hide hQ
  clear hQ
  obtain ⟨v0, v2, v3, v4, v5, v6, v7, v8, v9, v10⟩ := v
  obtain ⟨u, rfl⟩ := frx_rd hF
  clear hF
  simp only [Try.f20, Option.getD_some, regOf] at hc
  injection hc with hc
  subst hc
  go_wp2
  exact HQ.out _ ⟨rfl, rfl, rfl, rfl, rfl, rfl, rfl, rfl, rfl, rfl, rfl, rfl⟩
theorem rd_r8 {K : Act → World → Prop} {c : Code} (hc : regOf (Try.f20.body.getD .skip) 8 = some c) (a : Act) {v : Vrd} {wq : World}  (hF : Frd a v) (hQ : ∀ a', Frd a' { v with v10 := .int .i64 ((1 : Nat) : Int) } → K a' wq) :
    Code.wp Try.prog c (Exit.then K fun _ _ _ => False) a wq := by
  have HQ := hide hQ
  clear hQ
  obtain ⟨v0, v2, v3, v4, v5, v6, v7, v8, v9, v10⟩ := v
  obtain ⟨u, rfl⟩ := frx_rd hF
  clear hF
  simp only [Try.f20, Option.getD_some, regOf] at hc
  injection hc with hc
  subst hc
  go_wp2
  exact HQ.out _ ⟨rfl, rfl, rfl, rfl, rfl, rfl, rfl, rfl, rfl, rfl, rfl, rfl⟩
theorem rd_r9n {K : Act → World → Prop} {c : Code} (hc : regOf (Try.f20.body.getD .skip) 9 = some c) (a : Act) {v : Vrd} {wq : World} {oo : Option Addr} {n oc k : Nat} (hF : Frd a v) (h5v : v.v5 = .slice oo n oc) (h10v : v.v10 = .int .i64 (k : Int)) (hk : ¬ (k : Int) < (n : Int)) (hQ : ∀ a', Frd a' v → a'.tmps.getD 39 undef = .bool false → K a' wq) :
    Code.wp Try.prog c (Exit.then K fun _ _ _ => False) a wq := by
  have HQ := hide hQ
  clear hQ
  obtain ⟨v0, v2, v3, v4, v5, v6, v7, v8, v9, v10⟩ := v
  simp only at h5v h10v HQ
  subst h5v h10v
  obtain ⟨u, rfl⟩ := frx_rd hF
  clear hF
  simp only [Try.f20, Option.getD_some, regOf] at hc
  injection hc with hc
  subst hc
  have hd : decide ((k : Int) < (n : Int)) = false := decide_eq_false hk
  go_wp2
  exact HQ.out _ ⟨rfl, rfl, rfl, rfl, rfl, rfl, rfl, rfl, rfl, rfl, rfl, rfl⟩ (by first | rfl | (simp; done))
theorem rd_r9y {K : Act → World → Prop} {c : Code} (hc : regOf (Try.f20.body.getD .skip) 9 = some c) (a : Act) {v : Vrd} {wq : World} {oo : Option Addr} {n oc k : Nat} (hF : Frd a v) (h5v : v.v5 = .slice oo n oc) (h10v : v.v10 = .int .i64 (k : Int)) (hk : (k : Int) < (n : Int)) (hQ : ∀ a', Frd a' v → a'.tmps.getD 39 undef = .bool true → K a' wq) :
    Code.wp Try.prog c (Exit.then K fun _ _ _ => False) a wq := by
  have HQ := hide hQ
  clear hQ
  obtain ⟨v0, v2, v3, v4, v5, v6, v7, v8, v9, v10⟩ := v
  simp only at h5v h10v HQ
  subst h5v h10v
  obtain ⟨u, rfl⟩ := frx_rd hF
  clear hF
  simp only [Try.f20, Option.getD_some, regOf] at hc
  injection hc with hc
  subst hc
  have hd : decide ((k : Int) < (n : Int)) = true := decide_eq_true hk
  go_wp2
  exact HQ.out _ ⟨rfl, rfl, rfl, rfl, rfl, rfl, rfl, rfl, rfl, rfl, rfl, rfl⟩ (by first | rfl | (simp; done))
theorem rd_r11 {K : Act → World → Prop} {c : Code} (hc : regOf (Try.f20.body.getD .skip) 11 = some c) (a : Act) {v : Vrd} {wq : World} {g n oc k m rc tc : Nat} {ro ta : Option Addr} {x : ByteArray} {w5 : World} (hF : Frd a v) (h5v : v.v5 = .slice (some ⟨g, 0, none⟩) n oc) (h10v : v.v10 = .int .i64 (k : Int)) (h9v : v.v9 = .slice ro m rc) (hk : k < n) (hcl : wq.cell? ⟨g, k * 3 + 2, none⟩ = some (.string x)) (hrun : (Builtin.append_ #[23, 23] 23 #[.slice ro m rc, .slice (some ⟨wq.heap.size, 0, none⟩) 1 1]).run Try.prog (wq.alloc (.cells #[.string x] 9)) = .ok (.slice ta (m + 1) tc) w5)
    (hQ : ∀ a', Frd a' { v with v9 := .slice ta (m + 1) tc } → K a' w5) :
    Code.wp Try.prog c (Exit.then K fun _ _ _ => False) a wq := by
  have HQ := hide hQ
  clear hQ
  obtain ⟨v0, v2, v3, v4, v5, v6, v7, v8, v9, v10⟩ := v
  simp only at h5v h10v h9v HQ
  subst h5v h10v h9v
  obtain ⟨u, rfl⟩ := frx_rd hF
  clear hF
  simp only [Try.f20, Option.getD_some, regOf] at hc
  injection hc with hc
  subst hc
  have i0 : (0 : Int) ≤ (k : Int) := by omega
  have i1 : (k : Int) < (n : Int) := by omega
  clear hk
  have HRUN := hide hrun
  clear hrun
  go_wp2_with (at_builtin; refine wpList_append_run rfl _ _ 23 rfl _ _ _ rfl rfl HRUN.out ?_)
  exact HQ.out _ ⟨rfl, rfl, rfl, rfl, rfl, rfl, rfl, rfl, rfl, rfl, rfl, rfl⟩
theorem rd_r10 {K : Act → World → Prop} {c : Code} (hc : regOf (Try.f20.body.getD .skip) 10 = some c) (a : Act) {v : Vrd} {wq : World} {k : Nat} (hF : Frd a v) (h10v : v.v10 = .int .i64 (k : Int)) (hk : k ≤ 1000000) (hQ : ∀ a', Frd a' { v with v10 := .int .i64 ((k + 1 : Nat) : Int) } → K a' wq) :
    Code.wp Try.prog c (Exit.then K fun _ _ _ => False) a wq := by
  have HQ := hide hQ
  clear hQ
  obtain ⟨v0, v2, v3, v4, v5, v6, v7, v8, v9, v10⟩ := v
  simp only at h10v HQ
  subst h10v
  obtain ⟨u, rfl⟩ := frx_rd hF
  clear hF
  simp only [Try.f20, Option.getD_some, regOf] at hc
  injection hc with hc
  subst hc
  have hc : ((k + 1 : Nat) : Int) = (k : Int) + 1 := by omega
  rw [hc] at HQ
  go_wp2
  exact HQ.out _ ⟨rfl, rfl, rfl, rfl, rfl, rfl, rfl, rfl, rfl, rfl, rfl, rfl⟩
theorem rd_r12 {K : Act → World → Prop} {c : Code} (hc : regOf (Try.f20.body.getD .skip) 12 = some c) (a : Act) {v : Vrd} {wq : World} {rb vb m rc k tc : Nat} {z0 z1 : Value} {num : Int} {ro ta : Option Addr} (hF : Frd a v) (h2v : v.v2 = .pointer (some ⟨rb, 0, none⟩)) (h7v : v.v7 = .pointer (some ⟨vb, 0, none⟩)) (h9v : v.v9 = .slice ta k tc) (hR : wq.heap[rb]? = some (.cells #[z0, z1] tView (0, 0))) (hV : wq.heap[vb]? = some (.cells #[.int .i64 num, .slice ro m rc] tView (0, 0)))
    (hQ : ∀ a', Frd a' { v with v3 := .slice ta k tc, v4 := .int .i64 0 } → K a' ((wq.setCell ⟨rb, 0, none⟩ (.int .i64 num)).setCell ⟨rb, 1, none⟩ (.slice ro m rc))) :
    Code.wp Try.prog c (Exit.then K fun _ _ _ => False) a wq := by
  have HQ := hide hQ
  clear hQ
  obtain ⟨v0, v2, v3, v4, v5, v6, v7, v8, v9, v10⟩ := v
  simp only at h2v h7v h9v HQ
  subst h2v h7v h9v
  obtain ⟨u, rfl⟩ := frx_rd hF
  clear hF
  simp only [Try.f20, Option.getD_some, regOf] at hc
  injection hc with hc
  subst hc
  have f0 := box_free hR 0
  have f1 := box_free hR 1
  have x0 := box_cell hR 0 rfl
  have x1 := box_cell hR 1 rfl
  clear hR
  have t0 := box_cell hV 0 rfl
  have t1 := box_cell hV 1 rfl
  clear hV
  go_wp2
  exact HQ.out _ ⟨rfl, rfl, rfl, rfl, rfl, rfl, rfl, rfl, rfl, rfl, rfl, rfl⟩
end Go.Proofs.Ytfcpclpaalekiaa
namespace Go.Proofs.Ytfcpclpaalekiaa
open Go.RowKit
set_option maxHeartbeats 8000000
set_option maxRecDepth 100000
attribute [local go_sem ↓] Go.wp_at_zero Go.wp_at_succ
set_option linter.unusedSimpArgs false
set_option linter.unusedVariables false
theorem rd_ret {w W : World} {a : Act} {v : Vrd} {rb : Nat} {r : VW × List ByteArray × Int} {ro to' : Option Addr} {rc tc : Nat} (hF : Frd a v) (h2 : v.v2 = .pointer (some ⟨rb, 0, none⟩)) (h3 : v.v3 = .slice to' r.2.1.length tc) (h4 : v.v4 = .int .i64 r.2.2) (hR : W.heap[rb]? = some (.cells #[.int .i64 r.1.num, .slice ro r.1.mem.length rc] tView (0, 0))) (hrow : W.ownsRow w.heap.size tMember 2 (.slice ro r.1.mem.length rc) r.1.mem.length (mbCells r.1.mem)) (hrow2 : W.ownsRow w.heap.size 9 1 (.slice to' r.2.1.length tc) r.2.1.length (textC r.2.1)) (hB : Below w.heap.size w W) :
    bodyPost Try.prog Try.f20 (fun e w' => FGave w w' e r) .ret a W := by
  have g2 := slot_get (hF.s2.trans h2)
  have g3 := slot_get (hF.s3.trans h3)
  have g4 := slot_get (hF.s4.trans h4)
  have e0 := box_cell hR 0 rfl
  have e1 := box_cell hR 1 rfl
  refine bodyPost_ret (v := .tuple #[.agg #[.int .i64 r.1.num, .slice ro r.1.mem.length rc], .slice to' r.2.1.length tc, .int .i64 r.2.2]) ?_ hF.defers ⟨⟨ro, rc, to', tc, rfl, hrow, hrow2⟩, hB⟩
  simp [results, Try.results20, go_sem, g2, g3, g4, e0, e1]
theorem rfdecode (t : ByteArray) (w : World) (hs : t.size ≤ 9223372036854775807) :
    Calls Try.prog 20 #[.string t] w fun e w' => FGave w w' e (decL t.data.toList) := by
  obtain ⟨R, hR⟩ : ∃ R, K.decF shapeL t.data.toList = R := ⟨_, rfl⟩
  have HD := fun W => K.rdecode_any ⟨#[116, 42, 116]⟩ t W (by decide) hs R hR
  obtain ⟨T, hT⟩ : ∃ T, decL t.data.toList = T := ⟨_, rfl⟩
  rw [hT]
  have X0 := heap_alloc_new w (.cells #[.int .i64 0, .slice none 0 0] tView)
  have B0 := (Below.refl w.heap.size w).alloc (Nat.le_refl _) (.cells #[.int .i64 0, .slice none 0 0] tView)
  go_enter Try.func20, Try.ntmps20
  refine wp_seq (reg_mono (rd_r0 (by kernel_rfl) _ (v := ⟨_, _, _, _, _, _, _, _, _, _⟩) ⟨rfl, rfl, rfl, rfl, rfl, rfl, rfl, rfl, rfl, rfl, rfl, rfl⟩ ?_))
  intro a0 F0
  try dsimp only at F0
  generalize w.alloc _ = w0 at *
  have hd : Calls Try.prog 36 #[.string ⟨#[116, 42, 116]⟩, .string t] w0 fun e w' => ∃ (oo : Option Addr) (oc : Nat), e = .returned (.tuple #[.slice oo R.1.length oc, .int .i64 R.2]) ∧ (w'.ownsRow w0.heap.size tItem 3 (.slice oo R.1.length oc) R.1.length (itCells R.1) ∧ Below w0.heap.size w0 w') := by
    refine (HD w0).mono ?_
    rintro e w' ⟨vv, rfl, h2, h3⟩
    obtain ⟨oo, oc, rfl⟩ := row_slice h2
    exact ⟨oo, oc, rfl, h2, h3⟩
  refine wp_seq (reg_mono (rd_r1 (R := fun oo oc W => W.ownsRow w0.heap.size tItem 3 (.slice oo R.1.length oc) R.1.length (itCells R.1) ∧ Below w0.heap.size w0 W) (by kernel_rfl) _ F0 rfl hd ?_))
  rintro a1 w1 oo oc F1 ⟨row1, b1⟩
  try dsimp only at F1
  have X1 := (b1.block _ (heap_lt X0)).trans X0
  have B1 := B0.trans (b1.mono B0.size)
  by_cases h0 : R.2 = 0
  case neg =>
    have hTT : T = (⟨0, []⟩, [], R.2) := by
      rw [← hT]
      unfold decL
      rw [hR, if_pos h0]
    refine wp_seq (wp_seq (reg_mono (rd_r2y (by kernel_rfl) _ F1 rfl h0 ?_)))
    intro a2 F2 g2
    refine wp_cond_true g2 ?_
    refine wp_seq (reg_mono (rd_r3 (by kernel_rfl) _ F2 rfl rfl X1 ?_))
    intro a3 F3
    refine wp_ret ?_
    try dsimp only [Exit.then, Exit.inBlock]
    subst hTT
    exact rd_ret (r := (⟨0, []⟩, [], R.2)) F3 rfl rfl rfl (box_set (box_set X1 0 (.int .i64 0)) 1 (.slice none 0 0)) (World.ownsRow_nil _ _ _ _) (World.ownsRow_nil _ _ _ _) ((B1.setCell (p := ⟨w.heap.size, 0, none⟩) (Nat.le_refl _) _).setCell (p := ⟨w.heap.size, 1, none⟩) (Nat.le_refl _) _)
  obtain ⟨x, log, e1, e2, e3, e4, e5⟩ := decF_L (s := t.data.toList) (by rw [hR]; exact h0)
  rw [hR] at e1
  have hTT : T = if (decV x.data.toList).2 = 0 ∧ log.length + 1 ≤ 991 then ((decV x.data.toList).1, log, 0) else (⟨0, []⟩, [], 10) := by
    rw [← hT]
    unfold decL
    rw [hR, if_neg (fun e => e h0), e1]
    simp only [List.headD_cons, List.tail_cons, tail_log, List.length_cons, List.length_map]
    rfl
  rw [h0] at F1
  rw [e1] at row1 F1
  have hlen : (txI x :: log.map txI).length = log.length + 1 := by simp
  rw [hlen] at row1 F1
  clear hT hR HD hd e1 e2 h0 hlen
  refine wp_seq (wp_seq (reg_mono (rd_r2n (by kernel_rfl) _ F1 rfl ?_)))
  intro a2 F2 g2
  refine wp_cond_false g2 (wp_skip ?_)
  show Code.wp _ _ _ _ _
  obtain ⟨g, rfl, hnc⟩ : ∃ g, oo = some ⟨g, 0, none⟩ ∧ log.length + 1 ≤ oc := by
    rcases row1.2 with ⟨_, h2⟩ | ⟨g, cap, cur, hv, hg, hh, h3, _⟩
    · omega
    · exact ⟨g, (Value.slice.inj hv).1, by have := (Value.slice.inj hv).2.2; omega⟩
  have IA := its_of_row (L := txI x :: log.map txI) row1 (by simp)
  have IC : ∀ i (hi : i < (txI x :: log.map txI).length), w1.cell? ⟨g, i * 3 + 2, none⟩ = some (.string (txI x :: log.map txI)[i].s) ∧ g < w1.heap.size := fun i hi => by
    obtain ⟨b, off, h1, h2, h3, h4, h5⟩ := IA i hi
    obtain ⟨rfl, rfl⟩ : g = b ∧ 0 = off := by injection h1 with h1; injection h1 with h1 h2 _; exact ⟨h1, h2⟩
    rw [Nat.zero_add] at h5
    exact ⟨h5, h2⟩
  obtain ⟨c2, hgl⟩ := IC 0 (by simp)
  have hvd : Calls Try.prog 37 #[.string x] w1 fun e w' => ∃ (ro : Option Addr) (rc : Nat), e = .returned (.tuple #[.agg #[.int .i64 (decV x.data.toList).1.num, .slice ro (decV x.data.toList).1.mem.length rc], .int .i64 (decV x.data.toList).2]) ∧ (w'.ownsRow w1.heap.size tMember 2 (.slice ro (decV x.data.toList).1.mem.length rc) (decV x.data.toList).1.mem.length (mbCells (decV x.data.toList).1.mem) ∧ Below w1.heap.size w1 w') := by
    refine (rdecV (fun t w hs => K.rdecode_any ⟨#[108, 42, 98, 108]⟩ t w (by decide) hs _ rfl) x w1 (by omega)).mono ?_
    rintro e w' ⟨⟨ro, rc, h1, h2⟩, h3⟩
    exact ⟨ro, rc, h1, h2, h3⟩
  have hfor : ∀ {V : VW × Int}, decV x.data.toList = V → (T = if V.2 = 0 ∧ log.length + 1 ≤ 991 then (V.1, log, 0) else (⟨0, []⟩, [], 10)) := fun h => by rw [← h]; exact hTT
  obtain ⟨V, hV⟩ : ∃ V, decV x.data.toList = V := ⟨_, rfl⟩
  have hTV := hfor hV
  rw [hV] at hvd
  clear hTT hfor hV IA
  refine wp_seq (reg_mono (rd_r4 (R := fun ro rc W => W.ownsRow w1.heap.size tMember 2 (.slice ro V.1.mem.length rc) V.1.mem.length (mbCells V.1.mem) ∧ Below w1.heap.size w1 W) (by kernel_rfl) _ F2 rfl (by omega) c2 hvd ?_))
  rintro a5 w5 ro rc F5 ⟨row5, b5⟩
  try dsimp only at F5
  have X1c := (b5.block _ (heap_lt X1)).trans X1
  have B5 := B1.trans (b5.mono B1.size)
  have bu := (Below.refl w5.heap.size w5).alloc (Nat.le_refl _) (.cells #[.int .i64 V.1.num, .slice ro V.1.mem.length rc] tView)
  have X6 := heap_alloc_new w5 (.cells #[.int .i64 V.1.num, .slice ro V.1.mem.length rc] tView)
  have row6 := below_row bu row5
  have X1d := (bu.block _ (heap_lt X1c)).trans X1c
  have B6 := B5.trans (bu.mono B5.size)
  have b16 := b5.trans (bu.mono b5.size)
  generalize w5.heap.size = vb at *
  generalize w5.alloc _ = w6 at *
  have fin : ∀ {a7 : Act} {F : Vrd} (F7 : Frd a7 F), F.v2 = .pointer (some ⟨w.heap.size, 0, none⟩) → F.v3 = .slice none 0 0 → F.v4 = .int .i64 10 → T = (⟨0, []⟩, [], 10) → bodyPost Try.prog Try.f20 (fun e w' => FGave w w' e T) .ret a7 ((w6.setCell ⟨w.heap.size, 0, none⟩ (.int .i64 0)).setCell ⟨w.heap.size, 1, none⟩ (.slice none 0 0)) := fun F7 h2 h3 h4 e => by
    subst e
    exact rd_ret (r := (⟨0, []⟩, [], 10)) F7 h2 h3 h4 (box_set (box_set X1d 0 (.int .i64 0)) 1 (.slice none 0 0)) (World.ownsRow_nil _ _ _ _) (World.ownsRow_nil _ _ _ _) ((B6.setCell (p := ⟨w.heap.size, 0, none⟩) (Nat.le_refl _) _).setCell (p := ⟨w.heap.size, 1, none⟩) (Nat.le_refl _) _)
  by_cases hz : V.2 = 0
  case neg =>
    refine wp_seq (wp_seq (reg_mono (rd_r5a (by kernel_rfl) _ F5 rfl hz ?_)))
    intro a6 F6 g6
    refine wp_cond_true g6 ?_
    refine wp_seq (reg_mono (rd_r6 (by kernel_rfl) _ F6 rfl X1d ?_))
    intro a7 F7
    refine wp_ret ?_
    try dsimp only [Exit.then, Exit.inBlock]
    exact fin F7 rfl rfl rfl (by rw [hTV, if_neg (fun h => hz h.1)])
  rw [hz] at F5
  by_cases h9 : 991 < log.length + 1
  · refine wp_seq (wp_seq (reg_mono (rd_r5b (by kernel_rfl) _ F5 rfl rfl h9 ?_)))
    intro a6 F6 g6
    refine wp_cond_true g6 ?_
    refine wp_seq (reg_mono (rd_r6 (by kernel_rfl) _ F6 rfl X1d ?_))
    intro a7 F7
    refine wp_ret ?_
    try dsimp only [Exit.then, Exit.inBlock]
    exact fin F7 rfl rfl rfl (by rw [hTV, if_neg (fun h => by have := h.2; omega)])
  refine wp_seq (wp_seq (reg_mono (rd_r5n (by kernel_rfl) _ F5 rfl rfl (by omega) ?_)))
  intro a6 F6 g6
  refine wp_cond_false g6 (wp_skip ?_)
  show Code.wp _ _ _ _ _
  have hT8 : T = (V.1, log, 0) := by rw [hTV, if_pos ⟨hz, by omega⟩]
  refine wp_seq (reg_mono (rd_r7 (by kernel_rfl) _ F6 ?_))
  intro a7 F7
  try dsimp only at F7
  refine wp_seq (wp_seq (reg_mono (rd_r8 (by kernel_rfl) _ F7 ?_)))
  intro a8 F8
  try dsimp only at F8
  have O0 : w6.ownsRow w6.heap.size 9 1 (.slice none 0 0) 0 (textC (log.take 0)) := World.ownsRow_nil _ _ _ _
  refine wp_block (wp_loop (fun a' W => ∃ (k : Nat) (to' : Option Addr) (tc : Nat), k ≤ log.length ∧ W.ownsRow w6.heap.size 9 1 (.slice to' k tc) k (textC (log.take k)) ∧ Below w6.heap.size w6 W ∧ Frd a' { v0 := .string t, v2 := .pointer (some ⟨w.heap.size, 0, none⟩), v3 := .slice none 0 0, v4 := .int .i64 0, v5 := .slice (some ⟨g, 0, none⟩) (log.length + 1) oc, v6 := .int .i64 0, v7 := .pointer (some ⟨vb, 0, none⟩), v8 := .int .i64 0, v9 := .slice to' k tc, v10 := .int .i64 ((k + 1 : Nat) : Int) }) (fun a' _ => log.length + 1 - (intOf (a'.tmps.getD 10 undef)).toNat) ⟨0, none, 0, Nat.zero_le _, O0, Below.refl _ _, F8⟩ ?_)
  clear F0 F1 F2 F5 F6 F7 F8 O0 g2 g6
  rintro a' W ⟨k, to', tc, hk, O, B, F⟩
  have hmk : (intOf (a'.tmps.getD 10 undef)).toNat = k + 1 := by rw [F.s10]; simp [intOf]
  by_cases hlt : ((k + 1 : Nat) : Int) < ((log.length + 1 : Nat) : Int)
  · have hkl : k < log.length := by omega
    refine wp_seq (wp_seq (reg_mono (rd_r9y (by kernel_rfl) _ F rfl rfl hlt ?_)))
    intro a9 F9 g9
    refine wp_cond_true g9 (wp_skip ?_)
    show Code.wp _ _ _ _ _
    obtain ⟨d2, _⟩ := IC (k + 1) (by simp; omega)
    have d3 : W.cell? ⟨g, (k + 1) * 3 + 2, none⟩ = some (.string log[k]) := by
      have b1W := b16.trans (B.mono b16.size)
      rw [b1W.cell (p := ⟨g, _, none⟩) hgl, d2]
      simp [txI]
    obtain ⟨ta, tc2, w7, hrun, hrow, hbel⟩ := app_text O log[k] (by omega) B.size
    have hrow2 : w7.ownsRow w6.heap.size 9 1 (.slice ta (k + 1) tc2) (k + 1) (textC (log.take (k + 1))) := by rw [List.take_succ_eq_append_getElem hkl]; exact hrow
    refine wp_seq (wp_block ?_)
    refine reg_all (rd_r11 (by kernel_rfl) _ F9 rfl rfl rfl (by omega) d3 hrun ?_)
    intro a11 F11
    try dsimp only at F11
    show Code.wp _ _ _ _ _
    refine reg_all (rd_r10 (by kernel_rfl) _ F11 rfl (by omega) ?_)
    intro a10 F10
    try dsimp only at F10
    refine ⟨⟨k + 1, ta, tc2, by omega, hrow2, B.trans hbel, F10⟩, ?_⟩
    rw [hmk, F10.s10]
    simp [intOf]
    omega
  have hkl : k = log.length := by omega
  subst hkl
  rw [List.take_length] at O
  refine wp_seq (wp_seq (reg_mono (rd_r9n (by kernel_rfl) _ F rfl rfl hlt ?_)))
  intro a9 F9 g9
  refine wp_cond_false g9 (wp_exit ?_)
  show Code.wp _ _ _ _ _
  have X8 := (B.block _ (heap_lt X1d)).trans X1d
  have X9 := (B.block _ (heap_lt X6)).trans X6
  refine wp_seq (reg_mono (rd_r12 (by kernel_rfl) _ F9 rfl rfl rfl X8 X9 ?_))
  intro a12 F12
  try dsimp only at F12
  refine wp_ret ?_
  try dsimp only [Exit.then, Exit.inBlock]
  subst hT8
  have row9 := below_row B row6
  have B8 := B6.trans (B.mono B6.size)
  exact rd_ret (r := (V.1, log, 0)) F12 rfl rfl rfl (box_set (box_set X8 0 (.int .i64 V.1.num)) 1 (.slice ro V.1.mem.length rc)) ((ownsRow_base row9 B1.size).kept (grownBy_set2 _ _ _ _) (row_not_view row9 X8)) ((ownsRow_base O B6.size).kept (grownBy_set2 _ _ _ _) (text_not_view O X8)) ((B8.setCell (p := ⟨w.heap.size, 0, none⟩) (Nat.le_refl _) _).setCell (p := ⟨w.heap.size, 1, none⟩) (Nat.le_refl _) _)
end Go.Proofs.Ytfcpclpaalekiaa
