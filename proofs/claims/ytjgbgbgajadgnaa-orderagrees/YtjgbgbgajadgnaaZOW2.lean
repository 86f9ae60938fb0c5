/-
  agree's regions (mkow2.py).
-/
import Derived.Test.YtjgbgbgajadgnaaZOW1
import Derived.Laws.StructEq
namespace Go.Proofs.Ytjgbgbgajadgnaa
open Go.RowKit

attribute [local go_sem ↓] Go.wp_at_zero Go.wp_at_succ
set_option linter.unusedSimpArgs false
set_option linter.unusedVariables false
set_option maxRecDepth 100000 in
theorem frame_ag (t : Array Value) (h : t.size = 92) : ∃ u : Nat → Value, t = List.toArray (u 0 :: u 1 :: u 2 :: u 3 :: u 4 :: u 5 :: u 6 :: u 7 :: u 8 :: u 9 :: u 10 :: u 11 :: u 12 :: u 13 :: u 14 :: u 15 :: u 16 :: u 17 :: u 18 :: u 19 :: u 20 :: u 21 :: u 22 :: u 23 :: u 24 :: u 25 :: u 26 :: u 27 :: u 28 :: u 29 :: u 30 :: u 31 :: u 32 :: u 33 :: u 34 :: u 35 :: u 36 :: u 37 :: u 38 :: u 39 :: u 40 :: u 41 :: u 42 :: u 43 :: u 44 :: u 45 :: u 46 :: u 47 :: u 48 :: u 49 :: u 50 :: u 51 :: u 52 :: u 53 :: u 54 :: u 55 :: u 56 :: u 57 :: u 58 :: u 59 :: u 60 :: u 61 :: u 62 :: u 63 :: u 64 :: u 65 :: u 66 :: u 67 :: u 68 :: u 69 :: u 70 :: u 71 :: u 72 :: u 73 :: u 74 :: u 75 :: u 76 :: u 77 :: u 78 :: u 79 :: u 80 :: u 81 :: u 82 :: u 83 :: u 84 :: u 85 :: u 86 :: u 87 :: u 88 :: u 89 :: u 90 :: u 91 :: []) := by
  refine ⟨fun i => t.getD i undef, ?_⟩
  have e : (List.toArray ((fun i => t.getD i undef) 0 :: (fun i => t.getD i undef) 1 :: (fun i => t.getD i undef) 2 :: (fun i => t.getD i undef) 3 :: (fun i => t.getD i undef) 4 :: (fun i => t.getD i undef) 5 :: (fun i => t.getD i undef) 6 :: (fun i => t.getD i undef) 7 :: (fun i => t.getD i undef) 8 :: (fun i => t.getD i undef) 9 :: (fun i => t.getD i undef) 10 :: (fun i => t.getD i undef) 11 :: (fun i => t.getD i undef) 12 :: (fun i => t.getD i undef) 13 :: (fun i => t.getD i undef) 14 :: (fun i => t.getD i undef) 15 :: (fun i => t.getD i undef) 16 :: (fun i => t.getD i undef) 17 :: (fun i => t.getD i undef) 18 :: (fun i => t.getD i undef) 19 :: (fun i => t.getD i undef) 20 :: (fun i => t.getD i undef) 21 :: (fun i => t.getD i undef) 22 :: (fun i => t.getD i undef) 23 :: (fun i => t.getD i undef) 24 :: (fun i => t.getD i undef) 25 :: (fun i => t.getD i undef) 26 :: (fun i => t.getD i undef) 27 :: (fun i => t.getD i undef) 28 :: (fun i => t.getD i undef) 29 :: (fun i => t.getD i undef) 30 :: (fun i => t.getD i undef) 31 :: (fun i => t.getD i undef) 32 :: (fun i => t.getD i undef) 33 :: (fun i => t.getD i undef) 34 :: (fun i => t.getD i undef) 35 :: (fun i => t.getD i undef) 36 :: (fun i => t.getD i undef) 37 :: (fun i => t.getD i undef) 38 :: (fun i => t.getD i undef) 39 :: (fun i => t.getD i undef) 40 :: (fun i => t.getD i undef) 41 :: (fun i => t.getD i undef) 42 :: (fun i => t.getD i undef) 43 :: (fun i => t.getD i undef) 44 :: (fun i => t.getD i undef) 45 :: (fun i => t.getD i undef) 46 :: (fun i => t.getD i undef) 47 :: (fun i => t.getD i undef) 48 :: (fun i => t.getD i undef) 49 :: (fun i => t.getD i undef) 50 :: (fun i => t.getD i undef) 51 :: (fun i => t.getD i undef) 52 :: (fun i => t.getD i undef) 53 :: (fun i => t.getD i undef) 54 :: (fun i => t.getD i undef) 55 :: (fun i => t.getD i undef) 56 :: (fun i => t.getD i undef) 57 :: (fun i => t.getD i undef) 58 :: (fun i => t.getD i undef) 59 :: (fun i => t.getD i undef) 60 :: (fun i => t.getD i undef) 61 :: (fun i => t.getD i undef) 62 :: (fun i => t.getD i undef) 63 :: (fun i => t.getD i undef) 64 :: (fun i => t.getD i undef) 65 :: (fun i => t.getD i undef) 66 :: (fun i => t.getD i undef) 67 :: (fun i => t.getD i undef) 68 :: (fun i => t.getD i undef) 69 :: (fun i => t.getD i undef) 70 :: (fun i => t.getD i undef) 71 :: (fun i => t.getD i undef) 72 :: (fun i => t.getD i undef) 73 :: (fun i => t.getD i undef) 74 :: (fun i => t.getD i undef) 75 :: (fun i => t.getD i undef) 76 :: (fun i => t.getD i undef) 77 :: (fun i => t.getD i undef) 78 :: (fun i => t.getD i undef) 79 :: (fun i => t.getD i undef) 80 :: (fun i => t.getD i undef) 81 :: (fun i => t.getD i undef) 82 :: (fun i => t.getD i undef) 83 :: (fun i => t.getD i undef) 84 :: (fun i => t.getD i undef) 85 :: (fun i => t.getD i undef) 86 :: (fun i => t.getD i undef) 87 :: (fun i => t.getD i undef) 88 :: (fun i => t.getD i undef) 89 :: (fun i => t.getD i undef) 90 :: (fun i => t.getD i undef) 91 :: []) : Array Value) = ((List.range 92).map fun i => t.getD i undef).toArray := rfl
  refine Eq.trans ?_ e.symm
  apply Array.ext
  · simp [h]
  · intro k h1 h2
    simp [Array.getD, h1]
/-- The slots that matter. -/
structure Vag where
  v0 : Value
  v1 : Value
  v4 : Value
  v5 : Value
  v6 : Value
  v7 : Value
  v8 : Value
  v9 : Value
structure Fag (a : Act) (v : Vag) : Prop where
  size : a.tmps.size = 92
  defers : a.defers = []
  s0 : a.tmps.getD 0 undef = v.v0
  s1 : a.tmps.getD 1 undef = v.v1
  s4 : a.tmps.getD 4 undef = v.v4
  s5 : a.tmps.getD 5 undef = v.v5
  s6 : a.tmps.getD 6 undef = v.v6
  s7 : a.tmps.getD 7 undef = v.v7
  s8 : a.tmps.getD 8 undef = v.v8
  s9 : a.tmps.getD 9 undef = v.v9
set_option maxHeartbeats 8000000 in
set_option maxRecDepth 100000 in
theorem ag_r0 {K : Act → World → Prop} {c : Code} (hc : regOf (Try.f29.body.getD .skip) 0 = some c) (a : Act) {v : Vag} {wq : World}  (hF : Fag a v) (hQ : ∀ a', Fag a' { v with v4 := .bool false } → K a' wq) :
    Code.wp Try.prog c (Exit.then K fun _ _ _ => False) a wq := by
  have HQ := hide hQ
  clear hQ
  obtain ⟨t', d'⟩ := a
  obtain ⟨v0, v1, v4, v5, v6, v7, v8, v9⟩ := v
  obtain ⟨hs1, hd1, q0, q1, q4, q5, q6, q7, q8, q9⟩ := hF
  obtain ⟨u, hu⟩ := frame_ag t' hs1
  simp only at hd1 q0 q1 q4 q5 q6 q7 q8 q9
  subst hu hd1
  have e0 : u 0 = v0 := q0
  have e1 : u 1 = v1 := q1
  have e4 : u 4 = v4 := q4
  have e5 : u 5 = v5 := q5
  have e6 : u 6 = v6 := q6
  have e7 : u 7 = v7 := q7
  have e8 : u 8 = v8 := q8
  have e9 : u 9 = v9 := q9
  rw [e0, e1, e4, e5, e6, e7, e8, e9]
  clear q0 e0 q1 e1 q4 e4 q5 e5 q6 e6 q7 e7 q8 e8 q9 e9 hs1
  simp only [Try.f29, Option.getD_some, regOf] at hc
  injection hc with hc
  subst hc
  go_wp2
  exact HQ.out _ ⟨rfl, rfl, rfl, rfl, rfl, rfl, rfl, rfl, rfl, rfl⟩
set_option maxHeartbeats 8000000 in
set_option maxRecDepth 100000 in
theorem ag_r1 {K : Act → World → Prop} {c : Code} (hc : regOf (Try.f29.body.getD .skip) 1 = some c) (a : Act) {v : Vag} {wq : World} {R : Nat → World → Prop} {g n oc m : Nat} {a0 : Addr} (hF : Fag a v) (h0v : v.v0 = .slice (some ⟨g, 0, none⟩) n oc) (hn : 0 < n) (c0 : wq.cell? ⟨g, 0, none⟩ = some (.pointer (some a0))) (hE : Calls Try.prog 24 #[.pointer (some a0)] wq fun e w' => ∃ (h : Nat), e = .returned (.slice (some ⟨h, 0, none⟩) m m) ∧ R h w')
    (hQ : ∀ a' w1 h, Fag a' { v with v5 := .slice (some ⟨h, 0, none⟩) m m } → R h w1 → K a' w1) :
    Code.wp Try.prog c (Exit.then K fun _ _ _ => False) a wq := by
  have HQ := hide hQ
  clear hQ
  obtain ⟨t', d'⟩ := a
  obtain ⟨v0, v1, v4, v5, v6, v7, v8, v9⟩ := v
  simp only at h0v HQ
  subst h0v
  obtain ⟨hs1, hd1, q0, q1, q4, q5, q6, q7, q8, q9⟩ := hF
  obtain ⟨u, hu⟩ := frame_ag t' hs1
  simp only at hd1 q0 q1 q4 q5 q6 q7 q8 q9
  subst hu hd1
  have e0 : u 0 = .slice (some ⟨g, 0, none⟩) n oc := q0
  have e1 : u 1 = v1 := q1
  have e4 : u 4 = v4 := q4
  have e5 : u 5 = v5 := q5
  have e6 : u 6 = v6 := q6
  have e7 : u 7 = v7 := q7
  have e8 : u 8 = v8 := q8
  have e9 : u 9 = v9 := q9
  rw [e0, e1, e4, e5, e6, e7, e8, e9]
  clear q0 e0 q1 e1 q4 e4 q5 e5 q6 e6 q7 e7 q8 e8 q9 e9 hs1
  simp only [Try.f29, Option.getD_some, regOf] at hc
  injection hc with hc
  subst hc
  have HE := hide hE
  clear hE
  have i0 : (0 : Int) ≤ 0 := Int.le_refl _
  have i1 : (0 : Int) < (n : Int) := by omega
  go_wp2_with (go_at_call 24; refine HE.out.mono ?_; rintro e w1 ⟨h, rfl, r1⟩; have R1 := hide r1; clear r1)
  exact HQ.out _ _ _ ⟨rfl, rfl, rfl, rfl, rfl, rfl, rfl, rfl, rfl, rfl⟩ R1.out
set_option maxHeartbeats 8000000 in
set_option maxRecDepth 100000 in
theorem ag_r2 {K : Act → World → Prop} {c : Code} (hc : regOf (Try.f29.body.getD .skip) 2 = some c) (a : Act) {v : Vag} {wq : World}  (hF : Fag a v) (hQ : ∀ a', Fag a' { v with v6 := .int .i64 ((0 : Nat) : Int) } → K a' wq) :
    Code.wp Try.prog c (Exit.then K fun _ _ _ => False) a wq := by
  have HQ := hide hQ
  clear hQ
  obtain ⟨t', d'⟩ := a
  obtain ⟨v0, v1, v4, v5, v6, v7, v8, v9⟩ := v
  obtain ⟨hs1, hd1, q0, q1, q4, q5, q6, q7, q8, q9⟩ := hF
  obtain ⟨u, hu⟩ := frame_ag t' hs1
  simp only at hd1 q0 q1 q4 q5 q6 q7 q8 q9
  subst hu hd1
  have e0 : u 0 = v0 := q0
  have e1 : u 1 = v1 := q1
  have e4 : u 4 = v4 := q4
  have e5 : u 5 = v5 := q5
  have e6 : u 6 = v6 := q6
  have e7 : u 7 = v7 := q7
  have e8 : u 8 = v8 := q8
  have e9 : u 9 = v9 := q9
  rw [e0, e1, e4, e5, e6, e7, e8, e9]
  clear q0 e0 q1 e1 q4 e4 q5 e5 q6 e6 q7 e7 q8 e8 q9 e9 hs1
  simp only [Try.f29, Option.getD_some, regOf] at hc
  injection hc with hc
  subst hc
  go_wp2
  exact HQ.out _ ⟨rfl, rfl, rfl, rfl, rfl, rfl, rfl, rfl, rfl, rfl⟩
set_option maxHeartbeats 8000000 in
set_option maxRecDepth 100000 in
theorem ag_r3 {K : Act → World → Prop} {c : Code} (hc : regOf (Try.f29.body.getD .skip) 3 = some c) (a : Act) {v : Vag} {wq : World} {g n oc k : Nat} (hF : Fag a v) (h0v : v.v0 = .slice (some ⟨g, 0, none⟩) n oc) (h6v : v.v6 = .int .i64 (k : Int)) (hQ : ∀ a', Fag a' v → a'.tmps.getD 17 undef = .bool (decide ((k : Int) < (n : Int))) → K a' wq) :
    Code.wp Try.prog c (Exit.then K fun _ _ _ => False) a wq := by
  have HQ := hide hQ
  clear hQ
  obtain ⟨t', d'⟩ := a
  obtain ⟨v0, v1, v4, v5, v6, v7, v8, v9⟩ := v
  simp only at h0v h6v HQ
  subst h0v h6v
  obtain ⟨hs1, hd1, q0, q1, q4, q5, q6, q7, q8, q9⟩ := hF
  obtain ⟨u, hu⟩ := frame_ag t' hs1
  simp only at hd1 q0 q1 q4 q5 q6 q7 q8 q9
  subst hu hd1
  have e0 : u 0 = .slice (some ⟨g, 0, none⟩) n oc := q0
  have e1 : u 1 = v1 := q1
  have e4 : u 4 = v4 := q4
  have e5 : u 5 = v5 := q5
  have e6 : u 6 = .int .i64 (k : Int) := q6
  have e7 : u 7 = v7 := q7
  have e8 : u 8 = v8 := q8
  have e9 : u 9 = v9 := q9
  rw [e0, e1, e4, e5, e6, e7, e8, e9]
  clear q0 e0 q1 e1 q4 e4 q5 e5 q6 e6 q7 e7 q8 e8 q9 e9 hs1
  simp only [Try.f29, Option.getD_some, regOf] at hc
  injection hc with hc
  subst hc
  go_wp2
  exact HQ.out _ ⟨rfl, rfl, rfl, rfl, rfl, rfl, rfl, rfl, rfl, rfl⟩ (by first | rfl | (simp; done))
set_option maxHeartbeats 8000000 in
set_option maxRecDepth 100000 in
theorem ag_r5 {K : Act → World → Prop} {c : Code} (hc : regOf (Try.f29.body.getD .skip) 5 = some c) (a : Act) {v : Vag} {wq : World} {R : Nat → World → Prop} {g n oc k m : Nat} {a1 : Addr} (hF : Fag a v) (h0v : v.v0 = .slice (some ⟨g, 0, none⟩) n oc) (h6v : v.v6 = .int .i64 (k : Int)) (hk : k < n) (c0 : wq.cell? ⟨g, k, none⟩ = some (.pointer (some a1))) (hE : Calls Try.prog 24 #[.pointer (some a1)] wq fun e w' => ∃ (h : Nat), e = .returned (.slice (some ⟨h, 0, none⟩) m m) ∧ R h w')
    (hQ : ∀ a' w1 h, Fag a' { v with v7 := .slice (some ⟨h, 0, none⟩) m m } → R h w1 → K a' w1) :
    Code.wp Try.prog c (Exit.then K fun _ _ _ => False) a wq := by
  have HQ := hide hQ
  clear hQ
  obtain ⟨t', d'⟩ := a
  obtain ⟨v0, v1, v4, v5, v6, v7, v8, v9⟩ := v
  simp only at h0v h6v HQ
  subst h0v h6v
  obtain ⟨hs1, hd1, q0, q1, q4, q5, q6, q7, q8, q9⟩ := hF
  obtain ⟨u, hu⟩ := frame_ag t' hs1
  simp only at hd1 q0 q1 q4 q5 q6 q7 q8 q9
  subst hu hd1
  have e0 : u 0 = .slice (some ⟨g, 0, none⟩) n oc := q0
  have e1 : u 1 = v1 := q1
  have e4 : u 4 = v4 := q4
  have e5 : u 5 = v5 := q5
  have e6 : u 6 = .int .i64 (k : Int) := q6
  have e7 : u 7 = v7 := q7
  have e8 : u 8 = v8 := q8
  have e9 : u 9 = v9 := q9
  rw [e0, e1, e4, e5, e6, e7, e8, e9]
  clear q0 e0 q1 e1 q4 e4 q5 e5 q6 e6 q7 e7 q8 e8 q9 e9 hs1
  simp only [Try.f29, Option.getD_some, regOf] at hc
  injection hc with hc
  subst hc
  have HE := hide hE
  clear hE
  have i0 : (0 : Int) ≤ (k : Int) := by omega
  have i1 : (k : Int) < (n : Int) := by omega
  go_wp2_with (go_at_call 24; refine HE.out.mono ?_; rintro e w1 ⟨h, rfl, r1⟩; have R1 := hide r1; clear r1)
  exact HQ.out _ _ _ ⟨rfl, rfl, rfl, rfl, rfl, rfl, rfl, rfl, rfl, rfl⟩ R1.out
set_option maxHeartbeats 8000000 in
set_option maxRecDepth 100000 in
theorem ag_r6 {K : Act → World → Prop} {c : Code} (hc : regOf (Try.f29.body.getD .skip) 6 = some c) (a : Act) {v : Vag} {wq : World} {g n oc ug uc h0 n0 h m k x uu : Nat} {a1 : Addr} (hF : Fag a v) (h0v : v.v0 = .slice (some ⟨g, 0, none⟩) n oc) (h1v : v.v1 = .slice (some ⟨ug, 0, none⟩) n uc) (h5v : v.v5 = .slice (some ⟨h0, 0, none⟩) n0 n0) (h6v : v.v6 = .int .i64 (k : Int)) (h7v : v.v7 = .slice (some ⟨h, 0, none⟩) m m) (hk : k < n) (c0 : wq.cell? ⟨g, k, none⟩ = some (.pointer (some a1))) (hgl : g < wq.heap.size) (hul : ug < wq.heap.size) (c1 : wq.cell? ⟨ug, k, none⟩ = some (.int .i64 (uu : Int))) (hm : m ≤ n0) (hu : uu ≤ x) (hx : x ≤ m) (hT : ∀ W, Below wq.heap.size wq W → Calls Try.prog 23 #[.slice (some ⟨h, 0, none⟩) m m, .slice (some ⟨h0, 0, none⟩) m n0] W fun e w' => e = .returned (.bool true) ∧ Below W.heap.size W w') (hS : ∀ W, Below wq.heap.size wq W → Calls Try.prog 28 #[.pointer (some a1)] W fun e w' => e = .returned (.int .i64 (x : Int)) ∧ Below W.heap.size W w')
    (hQ : ∀ a' w', Fag a' v → a'.tmps.getD 60 undef = .bool false → Below wq.heap.size wq w' → K a' w') :
    Code.wp Try.prog c (Exit.then K fun _ _ _ => False) a wq := by
  have HQ := hide hQ
  clear hQ
  obtain ⟨t', d'⟩ := a
  obtain ⟨v0, v1, v4, v5, v6, v7, v8, v9⟩ := v
  simp only at h0v h1v h5v h6v h7v HQ
  subst h0v h1v h5v h6v h7v
  obtain ⟨hs1, hd1, q0, q1, q4, q5, q6, q7, q8, q9⟩ := hF
  obtain ⟨u, hu⟩ := frame_ag t' hs1
  simp only at hd1 q0 q1 q4 q5 q6 q7 q8 q9
  subst hu hd1
  have e0 : u 0 = .slice (some ⟨g, 0, none⟩) n oc := q0
  have e1 : u 1 = .slice (some ⟨ug, 0, none⟩) n uc := q1
  have e4 : u 4 = v4 := q4
  have e5 : u 5 = .slice (some ⟨h0, 0, none⟩) n0 n0 := q5
  have e6 : u 6 = .int .i64 (k : Int) := q6
  have e7 : u 7 = .slice (some ⟨h, 0, none⟩) m m := q7
  have e8 : u 8 = v8 := q8
  have e9 : u 9 = v9 := q9
  rw [e0, e1, e4, e5, e6, e7, e8, e9]
  clear q0 e0 q1 e1 q4 e4 q5 e5 q6 e6 q7 e7 q8 e8 q9 e9 hs1
  simp only [Try.f29, Option.getD_some, regOf] at hc
  injection hc with hc
  subst hc
  have HT := hide hT
  have HS := hide hS
  clear hT hS
  have i0 : (0 : Int) ≤ (k : Int) := by omega
  have i1 : (k : Int) < (n : Int) := by omega
  have hs1 := texts_upto (ao := some ⟨h0, 0, none⟩) (m := n0) (n := m) (cap := n0) hm
  have e1 : decide ((n0 : Int) < (m : Int)) = false := decide_eq_false (by omega)
  have e2 : decide ((x : Int) < (uu : Int)) = false := decide_eq_false (by omega)
  have e3 : decide ((m : Int) < (x : Int)) = false := decide_eq_false (by omega)
  refine wp_region_phi (by kernel_rfl) (ns := 92) (uses := (fun i => match i with | 0 => [25] | 1 => [26] | 2 => [27] | 3 => [28] | 4 => [29] | 5 => [30] | 6 => [31] | 7 => [32] | 8 => [33] | 9 => [34] | 10 => [35] | 11 => [36] | 12 => [37] | 13 => [38] | 14 => [39] | 15 => [40] | 16 => [41] | 17 => [42] | 18 => [43] | 19 => [44] | 20 => [45] | 21 => [46] | 22 => [47] | 23 => [48] | 24 => [49] | 25 => [50] | 26 => [51] | 27 => [52] | 28 => [53] | 29 => [54] | 30 => [55] | 31 => [56] | 32 => [57] | 33 => [58] | 34 => [59] | 35 => [60] | _ => [])) (by kernel_rfl) (by kernel_rfl) (fun _ w w' => Below w.heap.size w w') (fun w => Below wq.heap.size wq w) (fun _ _ _ h r => h.trans (r.mono h.size)) ((Below.refl _ _).drew) (fun i => match i with | 0 => fun s w => s 25 = .slice (some ⟨h, 0, none⟩) m m | 1 => fun s w => s 26 = .int .i64 (m : Int) | 2 => fun s w => s 27 = .slice (some ⟨h0, 0, none⟩) n0 n0 | 3 => fun s w => s 28 = .int .i64 (n0 : Int) | 4 => fun s w => s 29 = .bool false | 5 => fun s w => s 30 = .bool false | 6 => fun s w => s 31 = .slice (some ⟨h, 0, none⟩) m m | 7 => fun s w => s 32 = .slice (some ⟨h0, 0, none⟩) n0 n0 | 8 => fun s w => s 33 = .slice (some ⟨h, 0, none⟩) m m | 9 => fun s w => s 34 = .int .i64 (m : Int) | 10 => fun s w => s 35 = .slice (some ⟨h0, 0, none⟩) m n0 | 11 => fun s w => s 36 = .bool true | 12 => fun s w => s 37 = .bool false | 13 => fun s w => s 38 = .bool false | 14 => fun s w => s 39 = .bool false | 15 => fun s w => s 40 = .slice (some ⟨g, 0, none⟩) n oc | 16 => fun s w => s 41 = .int .i64 (k : Int) | 17 => fun s w => s 42 = .pointer (some ⟨g, k, none⟩) | 18 => fun s w => s 43 = .pointer (some a1) | 19 => fun s w => s 44 = .int .i64 (x : Int) | 20 => fun s w => s 45 = .slice (some ⟨ug, 0, none⟩) n uc | 21 => fun s w => s 46 = .int .i64 (k : Int) | 22 => fun s w => s 47 = .pointer (some ⟨ug, k, none⟩) | 23 => fun s w => s 48 = .int .i64 (uu : Int) | 24 => fun s w => s 49 = .bool false | 25 => fun s w => s 50 = .bool false | 26 => fun s w => s 51 = .bool false | 27 => fun s w => s 52 = .slice (some ⟨g, 0, none⟩) n oc | 28 => fun s w => s 53 = .int .i64 (k : Int) | 29 => fun s w => s 54 = .pointer (some ⟨g, k, none⟩) | 30 => fun s w => s 55 = .pointer (some a1) | 31 => fun s w => s 56 = .int .i64 (x : Int) | 32 => fun s w => s 57 = .slice (some ⟨h, 0, none⟩) m m | 33 => fun s w => s 58 = .int .i64 (m : Int) | 34 => fun s w => s 59 = .bool false | 35 => fun s w => s 60 = .bool false | _ => fun _ _ => True) ?phc ?phh ?pstep ?pdone
  case phc =>
    intro i s s' w hx h
    match i, hx, h with
    | 0, hx, h => exact (hx 25 (by simp)).symm.trans h
    | 1, hx, h => exact (hx 26 (by simp)).symm.trans h
    | 2, hx, h => exact (hx 27 (by simp)).symm.trans h
    | 3, hx, h => exact (hx 28 (by simp)).symm.trans h
    | 4, hx, h => exact (hx 29 (by simp)).symm.trans h
    | 5, hx, h => exact (hx 30 (by simp)).symm.trans h
    | 6, hx, h => exact (hx 31 (by simp)).symm.trans h
    | 7, hx, h => exact (hx 32 (by simp)).symm.trans h
    | 8, hx, h => exact (hx 33 (by simp)).symm.trans h
    | 9, hx, h => exact (hx 34 (by simp)).symm.trans h
    | 10, hx, h => exact (hx 35 (by simp)).symm.trans h
    | 11, hx, h => exact (hx 36 (by simp)).symm.trans h
    | 12, hx, h => exact (hx 37 (by simp)).symm.trans h
    | 13, hx, h => exact (hx 38 (by simp)).symm.trans h
    | 14, hx, h => exact (hx 39 (by simp)).symm.trans h
    | 15, hx, h => exact (hx 40 (by simp)).symm.trans h
    | 16, hx, h => exact (hx 41 (by simp)).symm.trans h
    | 17, hx, h => exact (hx 42 (by simp)).symm.trans h
    | 18, hx, h => exact (hx 43 (by simp)).symm.trans h
    | 19, hx, h => exact (hx 44 (by simp)).symm.trans h
    | 20, hx, h => exact (hx 45 (by simp)).symm.trans h
    | 21, hx, h => exact (hx 46 (by simp)).symm.trans h
    | 22, hx, h => exact (hx 47 (by simp)).symm.trans h
    | 23, hx, h => exact (hx 48 (by simp)).symm.trans h
    | 24, hx, h => exact (hx 49 (by simp)).symm.trans h
    | 25, hx, h => exact (hx 50 (by simp)).symm.trans h
    | 26, hx, h => exact (hx 51 (by simp)).symm.trans h
    | 27, hx, h => exact (hx 52 (by simp)).symm.trans h
    | 28, hx, h => exact (hx 53 (by simp)).symm.trans h
    | 29, hx, h => exact (hx 54 (by simp)).symm.trans h
    | 30, hx, h => exact (hx 55 (by simp)).symm.trans h
    | 31, hx, h => exact (hx 56 (by simp)).symm.trans h
    | 32, hx, h => exact (hx 57 (by simp)).symm.trans h
    | 33, hx, h => exact (hx 58 (by simp)).symm.trans h
    | 34, hx, h => exact (hx 59 (by simp)).symm.trans h
    | 35, hx, h => exact (hx 60 (by simp)).symm.trans h
    | (n + 36), _, h => exact h
  case phh =>
    intro i j s w w' hij h hb r
    match i, hij, h with
    | 0, hij, h =>
      exact h
    | 1, hij, h =>
      exact h
    | 2, hij, h =>
      exact h
    | 3, hij, h =>
      exact h
    | 4, hij, h =>
      exact h
    | 5, hij, h =>
      exact h
    | 6, hij, h =>
      exact h
    | 7, hij, h =>
      exact h
    | 8, hij, h =>
      exact h
    | 9, hij, h =>
      exact h
    | 10, hij, h =>
      exact h
    | 11, hij, h =>
      exact h
    | 12, hij, h =>
      exact h
    | 13, hij, h =>
      exact h
    | 14, hij, h =>
      exact h
    | 15, hij, h =>
      exact h
    | 16, hij, h =>
      exact h
    | 17, hij, h =>
      exact h
    | 18, hij, h =>
      exact h
    | 19, hij, h =>
      exact h
    | 20, hij, h =>
      exact h
    | 21, hij, h =>
      exact h
    | 22, hij, h =>
      exact h
    | 23, hij, h =>
      exact h
    | 24, hij, h =>
      exact h
    | 25, hij, h =>
      exact h
    | 26, hij, h =>
      exact h
    | 27, hij, h =>
      exact h
    | 28, hij, h =>
      exact h
    | 29, hij, h =>
      exact h
    | 30, hij, h =>
      exact h
    | 31, hij, h =>
      exact h
    | 32, hij, h =>
      exact h
    | 33, hij, h =>
      exact h
    | 34, hij, h =>
      exact h
    | 35, hij, h =>
      exact h
    | (n + 36), _, h => exact h
  case pstep =>
    intro i o ho a' w' hsa hb hd
    match i, ho with
    | 0, ho =>
      obtain rfl := Option.some.inj ho
      try dsimp only at hd
      have g7 : a'.tmps.getD 7 undef = .slice (some ⟨h, 0, none⟩) m m := hsa.rest 7 (by rfl)
      refine wpOp_of rfl rfl ?_
      refine op_run (v := .slice (some ⟨h, 0, none⟩) m m) (w' := w') ?_ ⟨_, rfl, ?_, ?_⟩
      · simp only [execOp, Act.eval, g7]; first | (go_simp; done) | rfl
      · try dsimp only
        exact (slots_put (ns := 92) (hsa.size.trans rfl) (by decide))
      · exact Below.refl _ _
    | 1, ho =>
      obtain rfl := Option.some.inj ho
      try dsimp only at hd
      have d0 : a'.tmps.getD 25 undef = .slice (some ⟨h, 0, none⟩) m m := hd 0 (by rfl)
      refine wpOp_of rfl rfl ?_
      refine op_run (v := .int .i64 (m : Int)) (w' := w') ?_ ⟨_, rfl, ?_, ?_⟩
      · simp only [execOp, Act.eval, List.map_toArray, List.map_cons, List.map_nil, d0]; first | (go_simp; done) | rfl
      · try dsimp only
        exact (slots_put (ns := 92) (hsa.size.trans rfl) (by decide))
      · exact Below.refl _ _
    | 2, ho =>
      obtain rfl := Option.some.inj ho
      try dsimp only at hd
      have g5 : a'.tmps.getD 5 undef = .slice (some ⟨h0, 0, none⟩) n0 n0 := hsa.rest 5 (by rfl)
      refine wpOp_of rfl rfl ?_
      refine op_run (v := .slice (some ⟨h0, 0, none⟩) n0 n0) (w' := w') ?_ ⟨_, rfl, ?_, ?_⟩
      · simp only [execOp, Act.eval, g5]; first | (go_simp; done) | rfl
      · try dsimp only
        exact (slots_put (ns := 92) (hsa.size.trans rfl) (by decide))
      · exact Below.refl _ _
    | 3, ho =>
      obtain rfl := Option.some.inj ho
      try dsimp only at hd
      have d2 : a'.tmps.getD 27 undef = .slice (some ⟨h0, 0, none⟩) n0 n0 := hd 2 (by rfl)
      refine wpOp_of rfl rfl ?_
      refine op_run (v := .int .i64 (n0 : Int)) (w' := w') ?_ ⟨_, rfl, ?_, ?_⟩
      · simp only [execOp, Act.eval, List.map_toArray, List.map_cons, List.map_nil, d2]; first | (go_simp; done) | rfl
      · try dsimp only
        exact (slots_put (ns := 92) (hsa.size.trans rfl) (by decide))
      · exact Below.refl _ _
    | 4, ho =>
      obtain rfl := Option.some.inj ho
      try dsimp only at hd
      have d1 : a'.tmps.getD 26 undef = .int .i64 (m : Int) := hd 1 (by rfl)
      have d3 : a'.tmps.getD 28 undef = .int .i64 (n0 : Int) := hd 3 (by rfl)
      refine wpOp_of rfl rfl ?_
      refine op_run (v := .bool false) (w' := w') ?_ ⟨_, rfl, ?_, ?_⟩
      · simp only [execOp, Act.eval, d1, d3]; first | (go_simp; done) | rfl
      · try dsimp only
        exact (slots_put (ns := 92) (hsa.size.trans rfl) (by decide))
      · exact Below.refl _ _
    | 5, ho =>
      obtain rfl := Option.some.inj ho
      try dsimp only at hd
      have d4 : a'.tmps.getD 29 undef = .bool false := hd 4 (by rfl)
      refine wpOp_of rfl rfl ?_
      refine op_run (v := .bool false) (w' := w') ?_ ⟨_, rfl, ?_, ?_⟩
      · simp only [execOp, Act.eval, d4]; first | (go_simp; done) | rfl
      · try dsimp only
        exact (slots_put (ns := 92) (hsa.size.trans rfl) (by decide))
      · exact Below.refl _ _
    | 6, ho =>
      obtain rfl := Option.some.inj ho
      try dsimp only at hd
      have d5 : a'.tmps.getD 30 undef = .bool false := hd 5 (by rfl)
      have g7 : a'.tmps.getD 7 undef = .slice (some ⟨h, 0, none⟩) m m := hsa.rest 7 (by rfl)
      refine wpOp_on (j := 5) (dj := 30) rfl rfl rfl d5 ?_
      refine op_run (v := .slice (some ⟨h, 0, none⟩) m m) (w' := w') ?_ ⟨_, rfl, ?_, ?_⟩
      · simp only [execOp, Act.eval, d5, g7]; first | (go_simp; done) | rfl
      · try dsimp only
        exact (slots_put (ns := 92) (hsa.size.trans rfl) (by decide))
      · exact Below.refl _ _
    | 7, ho =>
      obtain rfl := Option.some.inj ho
      try dsimp only at hd
      have d5 : a'.tmps.getD 30 undef = .bool false := hd 5 (by rfl)
      have g5 : a'.tmps.getD 5 undef = .slice (some ⟨h0, 0, none⟩) n0 n0 := hsa.rest 5 (by rfl)
      refine wpOp_on (j := 5) (dj := 30) rfl rfl rfl d5 ?_
      refine op_run (v := .slice (some ⟨h0, 0, none⟩) n0 n0) (w' := w') ?_ ⟨_, rfl, ?_, ?_⟩
      · simp only [execOp, Act.eval, d5, g5]; first | (go_simp; done) | rfl
      · try dsimp only
        exact (slots_put (ns := 92) (hsa.size.trans rfl) (by decide))
      · exact Below.refl _ _
    | 8, ho =>
      obtain rfl := Option.some.inj ho
      try dsimp only at hd
      have d5 : a'.tmps.getD 30 undef = .bool false := hd 5 (by rfl)
      have g7 : a'.tmps.getD 7 undef = .slice (some ⟨h, 0, none⟩) m m := hsa.rest 7 (by rfl)
      refine wpOp_on (j := 5) (dj := 30) rfl rfl rfl d5 ?_
      refine op_run (v := .slice (some ⟨h, 0, none⟩) m m) (w' := w') ?_ ⟨_, rfl, ?_, ?_⟩
      · simp only [execOp, Act.eval, d5, g7]; first | (go_simp; done) | rfl
      · try dsimp only
        exact (slots_put (ns := 92) (hsa.size.trans rfl) (by decide))
      · exact Below.refl _ _
    | 9, ho =>
      obtain rfl := Option.some.inj ho
      try dsimp only at hd
      have d5 : a'.tmps.getD 30 undef = .bool false := hd 5 (by rfl)
      have d8 : a'.tmps.getD 33 undef = .slice (some ⟨h, 0, none⟩) m m := hd 8 (by rfl)
      refine wpOp_on (j := 5) (dj := 30) rfl rfl rfl d5 ?_
      refine op_run (v := .int .i64 (m : Int)) (w' := w') ?_ ⟨_, rfl, ?_, ?_⟩
      · simp only [execOp, Act.eval, List.map_toArray, List.map_cons, List.map_nil, d5, d8]; first | (go_simp; done) | rfl
      · try dsimp only
        exact (slots_put (ns := 92) (hsa.size.trans rfl) (by decide))
      · exact Below.refl _ _
    | 10, ho =>
      obtain rfl := Option.some.inj ho
      try dsimp only at hd
      have d5 : a'.tmps.getD 30 undef = .bool false := hd 5 (by rfl)
      have d7 : a'.tmps.getD 32 undef = .slice (some ⟨h0, 0, none⟩) n0 n0 := hd 7 (by rfl)
      have d9 : a'.tmps.getD 34 undef = .int .i64 (m : Int) := hd 9 (by rfl)
      refine wpOp_on (j := 5) (dj := 30) rfl rfl rfl d5 ?_
      refine op_run (v := .slice (some ⟨h0, 0, none⟩) m n0) (w' := w') ?_ ⟨_, rfl, ?_, ?_⟩
      · simp only [execOp, Act.eval, d5, d7, d9, hs1]; first | (go_simp; done) | rfl
      · try dsimp only
        exact (slots_put (ns := 92) (hsa.size.trans rfl) (by decide))
      · exact Below.refl _ _
    | 11, ho =>
      obtain rfl := Option.some.inj ho
      try dsimp only at hd
      have d5 : a'.tmps.getD 30 undef = .bool false := hd 5 (by rfl)
      have d6 : a'.tmps.getD 31 undef = .slice (some ⟨h, 0, none⟩) m m := hd 6 (by rfl)
      have d10 : a'.tmps.getD 35 undef = .slice (some ⟨h0, 0, none⟩) m n0 := hd 10 (by rfl)
      refine wpOp_on (j := 5) (dj := 30) rfl rfl rfl d5 ?_
      refine op_call 23 _ _ rfl (enters_of Try.func23 (by kernel_rfl) rfl) [.slice (some ⟨h, 0, none⟩) m m, .slice (some ⟨h0, 0, none⟩) m n0] (by simp only [List.map, Act.eval, d5, d6, d10]) (HT.out w' hb) ?_
      rintro e w'' ⟨rfl, b2⟩
      refine ⟨_, rfl, _, rfl, ?_, ?_⟩
      · try dsimp only
        exact (slots_put (ns := 92) (hsa.size.trans rfl) (by decide))
      · exact b2
    | 12, ho =>
      obtain rfl := Option.some.inj ho
      try dsimp only at hd
      have d5 : a'.tmps.getD 30 undef = .bool false := hd 5 (by rfl)
      have d11 : a'.tmps.getD 36 undef = .bool true := hd 11 (by rfl)
      refine wpOp_on (j := 5) (dj := 30) rfl rfl rfl d5 ?_
      refine op_run (v := .bool false) (w' := w') ?_ ⟨_, rfl, ?_, ?_⟩
      · simp only [execOp, Act.eval, d5, d11]; first | (go_simp; done) | rfl
      · try dsimp only
        exact (slots_put (ns := 92) (hsa.size.trans rfl) (by decide))
      · exact Below.refl _ _
    | 13, ho =>
      obtain rfl := Option.some.inj ho
      try dsimp only at hd
      have d5 : a'.tmps.getD 30 undef = .bool false := hd 5 (by rfl)
      have d12 : a'.tmps.getD 37 undef = .bool false := hd 12 (by rfl)
      refine wpOp_of rfl rfl ?_
      refine op_run (v := .bool false) (w' := w') ?_ ⟨_, rfl, ?_, ?_⟩
      · simp only [execOp, Act.eval, d5, d12]; first | (go_simp; done) | rfl
      · try dsimp only
        exact (slots_put (ns := 92) (hsa.size.trans rfl) (by decide))
      · exact Below.refl _ _
    | 14, ho =>
      obtain rfl := Option.some.inj ho
      try dsimp only at hd
      have d13 : a'.tmps.getD 38 undef = .bool false := hd 13 (by rfl)
      refine wpOp_of rfl rfl ?_
      refine op_run (v := .bool false) (w' := w') ?_ ⟨_, rfl, ?_, ?_⟩
      · simp only [execOp, Act.eval, d13]; first | (go_simp; done) | rfl
      · try dsimp only
        exact (slots_put (ns := 92) (hsa.size.trans rfl) (by decide))
      · exact Below.refl _ _
    | 15, ho =>
      obtain rfl := Option.some.inj ho
      try dsimp only at hd
      have d14 : a'.tmps.getD 39 undef = .bool false := hd 14 (by rfl)
      have g0 : a'.tmps.getD 0 undef = .slice (some ⟨g, 0, none⟩) n oc := hsa.rest 0 (by rfl)
      refine wpOp_on (j := 14) (dj := 39) rfl rfl rfl d14 ?_
      refine op_run (v := .slice (some ⟨g, 0, none⟩) n oc) (w' := w') ?_ ⟨_, rfl, ?_, ?_⟩
      · simp only [execOp, Act.eval, d14, g0]; first | (go_simp; done) | rfl
      · try dsimp only
        exact (slots_put (ns := 92) (hsa.size.trans rfl) (by decide))
      · exact Below.refl _ _
    | 16, ho =>
      obtain rfl := Option.some.inj ho
      try dsimp only at hd
      have d14 : a'.tmps.getD 39 undef = .bool false := hd 14 (by rfl)
      have g6 : a'.tmps.getD 6 undef = .int .i64 (k : Int) := hsa.rest 6 (by rfl)
      refine wpOp_on (j := 14) (dj := 39) rfl rfl rfl d14 ?_
      refine op_run (v := .int .i64 (k : Int)) (w' := w') ?_ ⟨_, rfl, ?_, ?_⟩
      · simp only [execOp, Act.eval, d14, g6]; first | (go_simp; done) | rfl
      · try dsimp only
        exact (slots_put (ns := 92) (hsa.size.trans rfl) (by decide))
      · exact Below.refl _ _
    | 17, ho =>
      obtain rfl := Option.some.inj ho
      try dsimp only at hd
      have d14 : a'.tmps.getD 39 undef = .bool false := hd 14 (by rfl)
      have d15 : a'.tmps.getD 40 undef = .slice (some ⟨g, 0, none⟩) n oc := hd 15 (by rfl)
      have d16 : a'.tmps.getD 41 undef = .int .i64 (k : Int) := hd 16 (by rfl)
      refine wpOp_on (j := 14) (dj := 39) rfl rfl rfl d14 ?_
      refine op_run (v := .pointer (some ⟨g, k, none⟩)) (w' := w') ?_ ⟨_, rfl, ?_, ?_⟩
      · simp only [execOp, Act.eval, d14, d15, d16]; first | (go_simp; done) | rfl
      · try dsimp only
        exact (slots_put (ns := 92) (hsa.size.trans rfl) (by decide))
      · exact Below.refl _ _
    | 18, ho =>
      obtain rfl := Option.some.inj ho
      try dsimp only at hd
      have d14 : a'.tmps.getD 39 undef = .bool false := hd 14 (by rfl)
      have d17 : a'.tmps.getD 42 undef = .pointer (some ⟨g, k, none⟩) := hd 17 (by rfl)
      have y : w'.cell? ⟨g, k, none⟩ = some (.pointer (some a1)) := (hb.cell (p := ⟨g, k, none⟩) hgl).trans c0
      refine wpOp_on (j := 14) (dj := 39) rfl rfl rfl d14 ?_
      refine op_run (v := .pointer (some a1)) (w' := w') ?_ ⟨_, rfl, ?_, ?_⟩
      · simp only [execOp, Act.eval, d14, d17, y]; first | (go_simp; done) | rfl
      · try dsimp only
        exact (slots_put (ns := 92) (hsa.size.trans rfl) (by decide))
      · exact Below.refl _ _
    | 19, ho =>
      obtain rfl := Option.some.inj ho
      try dsimp only at hd
      have d14 : a'.tmps.getD 39 undef = .bool false := hd 14 (by rfl)
      have d18 : a'.tmps.getD 43 undef = .pointer (some a1) := hd 18 (by rfl)
      refine wpOp_on (j := 14) (dj := 39) rfl rfl rfl d14 ?_
      refine op_call 28 _ _ rfl (enters_of Try.func28 (by kernel_rfl) rfl) [.pointer (some a1)] (by simp only [List.map, Act.eval, d14, d18]) (HS.out w' hb) ?_
      rintro e w'' ⟨rfl, b2⟩
      refine ⟨_, rfl, _, rfl, ?_, ?_⟩
      · try dsimp only
        exact (slots_put (ns := 92) (hsa.size.trans rfl) (by decide))
      · exact b2
    | 20, ho =>
      obtain rfl := Option.some.inj ho
      try dsimp only at hd
      have d14 : a'.tmps.getD 39 undef = .bool false := hd 14 (by rfl)
      have g1 : a'.tmps.getD 1 undef = .slice (some ⟨ug, 0, none⟩) n uc := hsa.rest 1 (by rfl)
      refine wpOp_on (j := 14) (dj := 39) rfl rfl rfl d14 ?_
      refine op_run (v := .slice (some ⟨ug, 0, none⟩) n uc) (w' := w') ?_ ⟨_, rfl, ?_, ?_⟩
      · simp only [execOp, Act.eval, d14, g1]; first | (go_simp; done) | rfl
      · try dsimp only
        exact (slots_put (ns := 92) (hsa.size.trans rfl) (by decide))
      · exact Below.refl _ _
    | 21, ho =>
      obtain rfl := Option.some.inj ho
      try dsimp only at hd
      have d14 : a'.tmps.getD 39 undef = .bool false := hd 14 (by rfl)
      have g6 : a'.tmps.getD 6 undef = .int .i64 (k : Int) := hsa.rest 6 (by rfl)
      refine wpOp_on (j := 14) (dj := 39) rfl rfl rfl d14 ?_
      refine op_run (v := .int .i64 (k : Int)) (w' := w') ?_ ⟨_, rfl, ?_, ?_⟩
      · simp only [execOp, Act.eval, d14, g6]; first | (go_simp; done) | rfl
      · try dsimp only
        exact (slots_put (ns := 92) (hsa.size.trans rfl) (by decide))
      · exact Below.refl _ _
    | 22, ho =>
      obtain rfl := Option.some.inj ho
      try dsimp only at hd
      have d14 : a'.tmps.getD 39 undef = .bool false := hd 14 (by rfl)
      have d20 : a'.tmps.getD 45 undef = .slice (some ⟨ug, 0, none⟩) n uc := hd 20 (by rfl)
      have d21 : a'.tmps.getD 46 undef = .int .i64 (k : Int) := hd 21 (by rfl)
      refine wpOp_on (j := 14) (dj := 39) rfl rfl rfl d14 ?_
      refine op_run (v := .pointer (some ⟨ug, k, none⟩)) (w' := w') ?_ ⟨_, rfl, ?_, ?_⟩
      · simp only [execOp, Act.eval, d14, d20, d21]; first | (go_simp; done) | rfl
      · try dsimp only
        exact (slots_put (ns := 92) (hsa.size.trans rfl) (by decide))
      · exact Below.refl _ _
    | 23, ho =>
      obtain rfl := Option.some.inj ho
      try dsimp only at hd
      have d14 : a'.tmps.getD 39 undef = .bool false := hd 14 (by rfl)
      have d22 : a'.tmps.getD 47 undef = .pointer (some ⟨ug, k, none⟩) := hd 22 (by rfl)
      have y : w'.cell? ⟨ug, k, none⟩ = some (.int .i64 (uu : Int)) := (hb.cell (p := ⟨ug, k, none⟩) hul).trans c1
      refine wpOp_on (j := 14) (dj := 39) rfl rfl rfl d14 ?_
      refine op_run (v := .int .i64 (uu : Int)) (w' := w') ?_ ⟨_, rfl, ?_, ?_⟩
      · simp only [execOp, Act.eval, d14, d22, y]; first | (go_simp; done) | rfl
      · try dsimp only
        exact (slots_put (ns := 92) (hsa.size.trans rfl) (by decide))
      · exact Below.refl _ _
    | 24, ho =>
      obtain rfl := Option.some.inj ho
      try dsimp only at hd
      have d14 : a'.tmps.getD 39 undef = .bool false := hd 14 (by rfl)
      have d19 : a'.tmps.getD 44 undef = .int .i64 (x : Int) := hd 19 (by rfl)
      have d23 : a'.tmps.getD 48 undef = .int .i64 (uu : Int) := hd 23 (by rfl)
      refine wpOp_on (j := 14) (dj := 39) rfl rfl rfl d14 ?_
      refine op_run (v := .bool false) (w' := w') ?_ ⟨_, rfl, ?_, ?_⟩
      · simp only [execOp, Act.eval, d14, d19, d23]; first | (go_simp; done) | rfl
      · try dsimp only
        exact (slots_put (ns := 92) (hsa.size.trans rfl) (by decide))
      · exact Below.refl _ _
    | 25, ho =>
      obtain rfl := Option.some.inj ho
      try dsimp only at hd
      have d14 : a'.tmps.getD 39 undef = .bool false := hd 14 (by rfl)
      have d24 : a'.tmps.getD 49 undef = .bool false := hd 24 (by rfl)
      refine wpOp_of rfl rfl ?_
      refine op_run (v := .bool false) (w' := w') ?_ ⟨_, rfl, ?_, ?_⟩
      · simp only [execOp, Act.eval, d14, d24]; first | (go_simp; done) | rfl
      · try dsimp only
        exact (slots_put (ns := 92) (hsa.size.trans rfl) (by decide))
      · exact Below.refl _ _
    | 26, ho =>
      obtain rfl := Option.some.inj ho
      try dsimp only at hd
      have d25 : a'.tmps.getD 50 undef = .bool false := hd 25 (by rfl)
      refine wpOp_of rfl rfl ?_
      refine op_run (v := .bool false) (w' := w') ?_ ⟨_, rfl, ?_, ?_⟩
      · simp only [execOp, Act.eval, d25]; first | (go_simp; done) | rfl
      · try dsimp only
        exact (slots_put (ns := 92) (hsa.size.trans rfl) (by decide))
      · exact Below.refl _ _
    | 27, ho =>
      obtain rfl := Option.some.inj ho
      try dsimp only at hd
      have d26 : a'.tmps.getD 51 undef = .bool false := hd 26 (by rfl)
      have g0 : a'.tmps.getD 0 undef = .slice (some ⟨g, 0, none⟩) n oc := hsa.rest 0 (by rfl)
      refine wpOp_on (j := 26) (dj := 51) rfl rfl rfl d26 ?_
      refine op_run (v := .slice (some ⟨g, 0, none⟩) n oc) (w' := w') ?_ ⟨_, rfl, ?_, ?_⟩
      · simp only [execOp, Act.eval, d26, g0]; first | (go_simp; done) | rfl
      · try dsimp only
        exact (slots_put (ns := 92) (hsa.size.trans rfl) (by decide))
      · exact Below.refl _ _
    | 28, ho =>
      obtain rfl := Option.some.inj ho
      try dsimp only at hd
      have d26 : a'.tmps.getD 51 undef = .bool false := hd 26 (by rfl)
      have g6 : a'.tmps.getD 6 undef = .int .i64 (k : Int) := hsa.rest 6 (by rfl)
      refine wpOp_on (j := 26) (dj := 51) rfl rfl rfl d26 ?_
      refine op_run (v := .int .i64 (k : Int)) (w' := w') ?_ ⟨_, rfl, ?_, ?_⟩
      · simp only [execOp, Act.eval, d26, g6]; first | (go_simp; done) | rfl
      · try dsimp only
        exact (slots_put (ns := 92) (hsa.size.trans rfl) (by decide))
      · exact Below.refl _ _
    | 29, ho =>
      obtain rfl := Option.some.inj ho
      try dsimp only at hd
      have d26 : a'.tmps.getD 51 undef = .bool false := hd 26 (by rfl)
      have d27 : a'.tmps.getD 52 undef = .slice (some ⟨g, 0, none⟩) n oc := hd 27 (by rfl)
      have d28 : a'.tmps.getD 53 undef = .int .i64 (k : Int) := hd 28 (by rfl)
      refine wpOp_on (j := 26) (dj := 51) rfl rfl rfl d26 ?_
      refine op_run (v := .pointer (some ⟨g, k, none⟩)) (w' := w') ?_ ⟨_, rfl, ?_, ?_⟩
      · simp only [execOp, Act.eval, d26, d27, d28]; first | (go_simp; done) | rfl
      · try dsimp only
        exact (slots_put (ns := 92) (hsa.size.trans rfl) (by decide))
      · exact Below.refl _ _
    | 30, ho =>
      obtain rfl := Option.some.inj ho
      try dsimp only at hd
      have d26 : a'.tmps.getD 51 undef = .bool false := hd 26 (by rfl)
      have d29 : a'.tmps.getD 54 undef = .pointer (some ⟨g, k, none⟩) := hd 29 (by rfl)
      have y : w'.cell? ⟨g, k, none⟩ = some (.pointer (some a1)) := (hb.cell (p := ⟨g, k, none⟩) hgl).trans c0
      refine wpOp_on (j := 26) (dj := 51) rfl rfl rfl d26 ?_
      refine op_run (v := .pointer (some a1)) (w' := w') ?_ ⟨_, rfl, ?_, ?_⟩
      · simp only [execOp, Act.eval, d26, d29, y]; first | (go_simp; done) | rfl
      · try dsimp only
        exact (slots_put (ns := 92) (hsa.size.trans rfl) (by decide))
      · exact Below.refl _ _
    | 31, ho =>
      obtain rfl := Option.some.inj ho
      try dsimp only at hd
      have d26 : a'.tmps.getD 51 undef = .bool false := hd 26 (by rfl)
      have d30 : a'.tmps.getD 55 undef = .pointer (some a1) := hd 30 (by rfl)
      refine wpOp_on (j := 26) (dj := 51) rfl rfl rfl d26 ?_
      refine op_call 28 _ _ rfl (enters_of Try.func28 (by kernel_rfl) rfl) [.pointer (some a1)] (by simp only [List.map, Act.eval, d26, d30]) (HS.out w' hb) ?_
      rintro e w'' ⟨rfl, b2⟩
      refine ⟨_, rfl, _, rfl, ?_, ?_⟩
      · try dsimp only
        exact (slots_put (ns := 92) (hsa.size.trans rfl) (by decide))
      · exact b2
    | 32, ho =>
      obtain rfl := Option.some.inj ho
      try dsimp only at hd
      have d26 : a'.tmps.getD 51 undef = .bool false := hd 26 (by rfl)
      have g7 : a'.tmps.getD 7 undef = .slice (some ⟨h, 0, none⟩) m m := hsa.rest 7 (by rfl)
      refine wpOp_on (j := 26) (dj := 51) rfl rfl rfl d26 ?_
      refine op_run (v := .slice (some ⟨h, 0, none⟩) m m) (w' := w') ?_ ⟨_, rfl, ?_, ?_⟩
      · simp only [execOp, Act.eval, d26, g7]; first | (go_simp; done) | rfl
      · try dsimp only
        exact (slots_put (ns := 92) (hsa.size.trans rfl) (by decide))
      · exact Below.refl _ _
    | 33, ho =>
      obtain rfl := Option.some.inj ho
      try dsimp only at hd
      have d26 : a'.tmps.getD 51 undef = .bool false := hd 26 (by rfl)
      have d32 : a'.tmps.getD 57 undef = .slice (some ⟨h, 0, none⟩) m m := hd 32 (by rfl)
      refine wpOp_on (j := 26) (dj := 51) rfl rfl rfl d26 ?_
      refine op_run (v := .int .i64 (m : Int)) (w' := w') ?_ ⟨_, rfl, ?_, ?_⟩
      · simp only [execOp, Act.eval, List.map_toArray, List.map_cons, List.map_nil, d26, d32]; first | (go_simp; done) | rfl
      · try dsimp only
        exact (slots_put (ns := 92) (hsa.size.trans rfl) (by decide))
      · exact Below.refl _ _
    | 34, ho =>
      obtain rfl := Option.some.inj ho
      try dsimp only at hd
      have d26 : a'.tmps.getD 51 undef = .bool false := hd 26 (by rfl)
      have d31 : a'.tmps.getD 56 undef = .int .i64 (x : Int) := hd 31 (by rfl)
      have d33 : a'.tmps.getD 58 undef = .int .i64 (m : Int) := hd 33 (by rfl)
      refine wpOp_on (j := 26) (dj := 51) rfl rfl rfl d26 ?_
      refine op_run (v := .bool false) (w' := w') ?_ ⟨_, rfl, ?_, ?_⟩
      · simp only [execOp, Act.eval, d26, d31, d33]; first | (go_simp; done) | rfl
      · try dsimp only
        exact (slots_put (ns := 92) (hsa.size.trans rfl) (by decide))
      · exact Below.refl _ _
    | 35, ho =>
      obtain rfl := Option.some.inj ho
      try dsimp only at hd
      have d26 : a'.tmps.getD 51 undef = .bool false := hd 26 (by rfl)
      have d34 : a'.tmps.getD 59 undef = .bool false := hd 34 (by rfl)
      refine wpOp_of rfl rfl ?_
      refine op_run (v := .bool false) (w' := w') ?_ ⟨_, rfl, ?_, ?_⟩
      · simp only [execOp, Act.eval, d26, d34]; first | (go_simp; done) | rfl
      · try dsimp only
        exact (slots_put (ns := 92) (hsa.size.trans rfl) (by decide))
      · exact Below.refl _ _
    | (n + 36), ho => exact absurd ho (by simp)
  case pdone =>
    intro a' w' hsa hb hd
    have d0 : a'.tmps.getD 25 undef = .slice (some ⟨h, 0, none⟩) m m := hd 0 (by decide)
    have d1 : a'.tmps.getD 26 undef = .int .i64 (m : Int) := hd 1 (by decide)
    have d2 : a'.tmps.getD 27 undef = .slice (some ⟨h0, 0, none⟩) n0 n0 := hd 2 (by decide)
    have d3 : a'.tmps.getD 28 undef = .int .i64 (n0 : Int) := hd 3 (by decide)
    have d4 : a'.tmps.getD 29 undef = .bool false := hd 4 (by decide)
    have d5 : a'.tmps.getD 30 undef = .bool false := hd 5 (by decide)
    have d6 : a'.tmps.getD 31 undef = .slice (some ⟨h, 0, none⟩) m m := hd 6 (by decide)
    have d7 : a'.tmps.getD 32 undef = .slice (some ⟨h0, 0, none⟩) n0 n0 := hd 7 (by decide)
    have d8 : a'.tmps.getD 33 undef = .slice (some ⟨h, 0, none⟩) m m := hd 8 (by decide)
    have d9 : a'.tmps.getD 34 undef = .int .i64 (m : Int) := hd 9 (by decide)
    have d10 : a'.tmps.getD 35 undef = .slice (some ⟨h0, 0, none⟩) m n0 := hd 10 (by decide)
    have d11 : a'.tmps.getD 36 undef = .bool true := hd 11 (by decide)
    have d12 : a'.tmps.getD 37 undef = .bool false := hd 12 (by decide)
    have d13 : a'.tmps.getD 38 undef = .bool false := hd 13 (by decide)
    have d14 : a'.tmps.getD 39 undef = .bool false := hd 14 (by decide)
    have d15 : a'.tmps.getD 40 undef = .slice (some ⟨g, 0, none⟩) n oc := hd 15 (by decide)
    have d16 : a'.tmps.getD 41 undef = .int .i64 (k : Int) := hd 16 (by decide)
    have d17 : a'.tmps.getD 42 undef = .pointer (some ⟨g, k, none⟩) := hd 17 (by decide)
    have d18 : a'.tmps.getD 43 undef = .pointer (some a1) := hd 18 (by decide)
    have d19 : a'.tmps.getD 44 undef = .int .i64 (x : Int) := hd 19 (by decide)
    have d20 : a'.tmps.getD 45 undef = .slice (some ⟨ug, 0, none⟩) n uc := hd 20 (by decide)
    have d21 : a'.tmps.getD 46 undef = .int .i64 (k : Int) := hd 21 (by decide)
    have d22 : a'.tmps.getD 47 undef = .pointer (some ⟨ug, k, none⟩) := hd 22 (by decide)
    have d23 : a'.tmps.getD 48 undef = .int .i64 (uu : Int) := hd 23 (by decide)
    have d24 : a'.tmps.getD 49 undef = .bool false := hd 24 (by decide)
    have d25 : a'.tmps.getD 50 undef = .bool false := hd 25 (by decide)
    have d26 : a'.tmps.getD 51 undef = .bool false := hd 26 (by decide)
    have d27 : a'.tmps.getD 52 undef = .slice (some ⟨g, 0, none⟩) n oc := hd 27 (by decide)
    have d28 : a'.tmps.getD 53 undef = .int .i64 (k : Int) := hd 28 (by decide)
    have d29 : a'.tmps.getD 54 undef = .pointer (some ⟨g, k, none⟩) := hd 29 (by decide)
    have d30 : a'.tmps.getD 55 undef = .pointer (some a1) := hd 30 (by decide)
    have d31 : a'.tmps.getD 56 undef = .int .i64 (x : Int) := hd 31 (by decide)
    have d32 : a'.tmps.getD 57 undef = .slice (some ⟨h, 0, none⟩) m m := hd 32 (by decide)
    have d33 : a'.tmps.getD 58 undef = .int .i64 (m : Int) := hd 33 (by decide)
    have d34 : a'.tmps.getD 59 undef = .bool false := hd 34 (by decide)
    have d35 : a'.tmps.getD 60 undef = .bool false := hd 35 (by decide)
    exact HQ.out _ _ ⟨hsa.size.trans rfl, hsa.defers.trans rfl, hsa.rest 0 (by rfl), hsa.rest 1 (by rfl), hsa.rest 4 (by rfl), hsa.rest 5 (by rfl), hsa.rest 6 (by rfl), hsa.rest 7 (by rfl), hsa.rest 8 (by rfl), hsa.rest 9 (by rfl)⟩ d35 hb
set_option maxHeartbeats 8000000 in
set_option maxRecDepth 100000 in
theorem ag_r8 {K : Act → World → Prop} {c : Code} (hc : regOf (Try.f29.body.getD .skip) 8 = some c) (a : Act) {v : Vag} {wq : World} {g n oc ug uc k x : Nat} {a1 : Addr} {v0 : Value} (hF : Fag a v) (h0v : v.v0 = .slice (some ⟨g, 0, none⟩) n oc) (h1v : v.v1 = .slice (some ⟨ug, 0, none⟩) n uc) (h6v : v.v6 = .int .i64 (k : Int)) (hk : k < n) (c0 : wq.cell? ⟨g, k, none⟩ = some (.pointer (some a1))) (c1 : wq.cell? ⟨ug, k, none⟩ = some v0) (f1 : wq.frozen? ⟨ug, k, none⟩ = false) (hE : Calls Try.prog 28 #[.pointer (some a1)] wq fun e w' => e = .returned (.int .i64 (x : Int)) ∧ w' = wq)
    (hQ : ∀ a', Fag a' v → K a' (wq.setCell ⟨ug, k, none⟩ (.int .i64 (x : Int)))) :
    Code.wp Try.prog c (Exit.then K fun _ _ _ => False) a wq := by
  have HQ := hide hQ
  clear hQ
  obtain ⟨t', d'⟩ := a
  obtain ⟨v0, v1, v4, v5, v6, v7, v8, v9⟩ := v
  simp only at h0v h1v h6v HQ
  subst h0v h1v h6v
  obtain ⟨hs1, hd1, q0, q1, q4, q5, q6, q7, q8, q9⟩ := hF
  obtain ⟨u, hu⟩ := frame_ag t' hs1
  simp only at hd1 q0 q1 q4 q5 q6 q7 q8 q9
  subst hu hd1
  have e0 : u 0 = .slice (some ⟨g, 0, none⟩) n oc := q0
  have e1 : u 1 = .slice (some ⟨ug, 0, none⟩) n uc := q1
  have e4 : u 4 = v4 := q4
  have e5 : u 5 = v5 := q5
  have e6 : u 6 = .int .i64 (k : Int) := q6
  have e7 : u 7 = v7 := q7
  have e8 : u 8 = v8 := q8
  have e9 : u 9 = v9 := q9
  rw [e0, e1, e4, e5, e6, e7, e8, e9]
  clear q0 e0 q1 e1 q4 e4 q5 e5 q6 e6 q7 e7 q8 e8 q9 e9 hs1
  simp only [Try.f29, Option.getD_some, regOf] at hc
  injection hc with hc
  subst hc
  have HE := hide hE
  clear hE
  have i0 : (0 : Int) ≤ (k : Int) := by omega
  have i1 : (k : Int) < (n : Int) := by omega
  go_wp2_with (go_at_call 28; refine HE.out.mono ?_; rintro e w9 ⟨rfl, h9⟩; subst w9)
  exact HQ.out _ ⟨rfl, rfl, rfl, rfl, rfl, rfl, rfl, rfl, rfl, rfl⟩
set_option maxHeartbeats 8000000 in
set_option maxRecDepth 100000 in
theorem ag_r9 {K : Act → World → Prop} {c : Code} (hc : regOf (Try.f29.body.getD .skip) 9 = some c) (a : Act) {v : Vag} {wq : World}  (hF : Fag a v) (hQ : ∀ a', Fag a' { v with v8 := .int .i64 ((0 : Nat) : Int) } → K a' wq) :
    Code.wp Try.prog c (Exit.then K fun _ _ _ => False) a wq := by
  have HQ := hide hQ
  clear hQ
  obtain ⟨t', d'⟩ := a
  obtain ⟨v0, v1, v4, v5, v6, v7, v8, v9⟩ := v
  obtain ⟨hs1, hd1, q0, q1, q4, q5, q6, q7, q8, q9⟩ := hF
  obtain ⟨u, hu⟩ := frame_ag t' hs1
  simp only at hd1 q0 q1 q4 q5 q6 q7 q8 q9
  subst hu hd1
  have e0 : u 0 = v0 := q0
  have e1 : u 1 = v1 := q1
  have e4 : u 4 = v4 := q4
  have e5 : u 5 = v5 := q5
  have e6 : u 6 = v6 := q6
  have e7 : u 7 = v7 := q7
  have e8 : u 8 = v8 := q8
  have e9 : u 9 = v9 := q9
  rw [e0, e1, e4, e5, e6, e7, e8, e9]
  clear q0 e0 q1 e1 q4 e4 q5 e5 q6 e6 q7 e7 q8 e8 q9 e9 hs1
  simp only [Try.f29, Option.getD_some, regOf] at hc
  injection hc with hc
  subst hc
  go_wp2
  exact HQ.out _ ⟨rfl, rfl, rfl, rfl, rfl, rfl, rfl, rfl, rfl, rfl⟩
set_option maxHeartbeats 8000000 in
set_option maxRecDepth 100000 in
theorem ag_r10 {K : Act → World → Prop} {c : Code} (hc : regOf (Try.f29.body.getD .skip) 10 = some c) (a : Act) {v : Vag} {wq : World}  (hF : Fag a v) (hQ : ∀ a', Fag a' { v with v9 := .int .i64 ((0 : Nat) : Int) } → K a' wq) :
    Code.wp Try.prog c (Exit.then K fun _ _ _ => False) a wq := by
  have HQ := hide hQ
  clear hQ
  obtain ⟨t', d'⟩ := a
  obtain ⟨v0, v1, v4, v5, v6, v7, v8, v9⟩ := v
  obtain ⟨hs1, hd1, q0, q1, q4, q5, q6, q7, q8, q9⟩ := hF
  obtain ⟨u, hu⟩ := frame_ag t' hs1
  simp only at hd1 q0 q1 q4 q5 q6 q7 q8 q9
  subst hu hd1
  have e0 : u 0 = v0 := q0
  have e1 : u 1 = v1 := q1
  have e4 : u 4 = v4 := q4
  have e5 : u 5 = v5 := q5
  have e6 : u 6 = v6 := q6
  have e7 : u 7 = v7 := q7
  have e8 : u 8 = v8 := q8
  have e9 : u 9 = v9 := q9
  rw [e0, e1, e4, e5, e6, e7, e8, e9]
  clear q0 e0 q1 e1 q4 e4 q5 e5 q6 e6 q7 e7 q8 e8 q9 e9 hs1
  simp only [Try.f29, Option.getD_some, regOf] at hc
  injection hc with hc
  subst hc
  go_wp2
  exact HQ.out _ ⟨rfl, rfl, rfl, rfl, rfl, rfl, rfl, rfl, rfl, rfl⟩
set_option maxHeartbeats 8000000 in
set_option maxRecDepth 100000 in
theorem ag_r11 {K : Act → World → Prop} {c : Code} (hc : regOf (Try.f29.body.getD .skip) 11 = some c) (a : Act) {v : Vag} {wq : World} {g n oc k : Nat} (hF : Fag a v) (h0v : v.v0 = .slice (some ⟨g, 0, none⟩) n oc) (h9v : v.v9 = .int .i64 (k : Int)) (hQ : ∀ a', Fag a' v → a'.tmps.getD 72 undef = .bool (decide ((k : Int) < (n : Int))) → K a' wq) :
    Code.wp Try.prog c (Exit.then K fun _ _ _ => False) a wq := by
  have HQ := hide hQ
  clear hQ
  obtain ⟨t', d'⟩ := a
  obtain ⟨v0, v1, v4, v5, v6, v7, v8, v9⟩ := v
  simp only at h0v h9v HQ
  subst h0v h9v
  obtain ⟨hs1, hd1, q0, q1, q4, q5, q6, q7, q8, q9⟩ := hF
  obtain ⟨u, hu⟩ := frame_ag t' hs1
  simp only at hd1 q0 q1 q4 q5 q6 q7 q8 q9
  subst hu hd1
  have e0 : u 0 = .slice (some ⟨g, 0, none⟩) n oc := q0
  have e1 : u 1 = v1 := q1
  have e4 : u 4 = v4 := q4
  have e5 : u 5 = v5 := q5
  have e6 : u 6 = v6 := q6
  have e7 : u 7 = v7 := q7
  have e8 : u 8 = v8 := q8
  have e9 : u 9 = .int .i64 (k : Int) := q9
  rw [e0, e1, e4, e5, e6, e7, e8, e9]
  clear q0 e0 q1 e1 q4 e4 q5 e5 q6 e6 q7 e7 q8 e8 q9 e9 hs1
  simp only [Try.f29, Option.getD_some, regOf] at hc
  injection hc with hc
  subst hc
  go_wp2
  exact HQ.out _ ⟨rfl, rfl, rfl, rfl, rfl, rfl, rfl, rfl, rfl, rfl⟩ (by first | rfl | (simp; done))
set_option maxHeartbeats 8000000 in
set_option maxRecDepth 100000 in
theorem ag_r13 {K : Act → World → Prop} {c : Code} (hc : regOf (Try.f29.body.getD .skip) 13 = some c) (a : Act) {v : Vag} {wq : World} {g n oc ug uc ix k x ln : Nat} {a1 : Addr} (hF : Fag a v) (h0v : v.v0 = .slice (some ⟨g, 0, none⟩) n oc) (h1v : v.v1 = .slice (some ⟨ug, 0, none⟩) n uc) (h6v : v.v6 = .int .i64 (ix : Int)) (h9v : v.v9 = .int .i64 (k : Int)) (hk : k < n) (c0 : wq.cell? ⟨g, k, none⟩ = some (.pointer (some a1))) (hi : ix < n) (hgl : g < wq.heap.size) (hul : ug < wq.heap.size) (c1 : wq.cell? ⟨ug, ix, none⟩ = some (.int .i64 (x : Int))) (hS : ∀ W, Below wq.heap.size wq W → Calls Try.prog 25 #[.pointer (some a1)] W fun e w' => e = .returned (.int .i64 (ln : Int)) ∧ Below W.heap.size W w')
    (hQ : ∀ a' w', Fag a' v → a'.tmps.getD 84 undef = .bool (decide ((x : Int) ≤ (ln : Int))) → Below wq.heap.size wq w' → K a' w') :
    Code.wp Try.prog c (Exit.then K fun _ _ _ => False) a wq := by
  have HQ := hide hQ
  clear hQ
  obtain ⟨t', d'⟩ := a
  obtain ⟨v0, v1, v4, v5, v6, v7, v8, v9⟩ := v
  simp only at h0v h1v h6v h9v HQ
  subst h0v h1v h6v h9v
  obtain ⟨hs1, hd1, q0, q1, q4, q5, q6, q7, q8, q9⟩ := hF
  obtain ⟨u, hu⟩ := frame_ag t' hs1
  simp only at hd1 q0 q1 q4 q5 q6 q7 q8 q9
  subst hu hd1
  have e0 : u 0 = .slice (some ⟨g, 0, none⟩) n oc := q0
  have e1 : u 1 = .slice (some ⟨ug, 0, none⟩) n uc := q1
  have e4 : u 4 = v4 := q4
  have e5 : u 5 = v5 := q5
  have e6 : u 6 = .int .i64 (ix : Int) := q6
  have e7 : u 7 = v7 := q7
  have e8 : u 8 = v8 := q8
  have e9 : u 9 = .int .i64 (k : Int) := q9
  rw [e0, e1, e4, e5, e6, e7, e8, e9]
  clear q0 e0 q1 e1 q4 e4 q5 e5 q6 e6 q7 e7 q8 e8 q9 e9 hs1
  simp only [Try.f29, Option.getD_some, regOf] at hc
  injection hc with hc
  subst hc
  have HS := hide hS
  clear hS
  have i0 : (0 : Int) ≤ (k : Int) := by omega
  have i1 : (k : Int) < (n : Int) := by omega
  have j0 : (0 : Int) ≤ (ix : Int) := by omega
  have j1 : (ix : Int) < (n : Int) := by omega
  refine wp_region_phi (by kernel_rfl) (ns := 92) (uses := (fun i => match i with | 0 => [75] | 1 => [76] | 2 => [77] | 3 => [78] | 4 => [79] | 5 => [80] | 6 => [81] | 7 => [82] | 8 => [83] | 9 => [84] | _ => [])) (by kernel_rfl) (by kernel_rfl) (fun _ w w' => Below w.heap.size w w') (fun w => Below wq.heap.size wq w) (fun _ _ _ h r => h.trans (r.mono h.size)) ((Below.refl _ _).drew) (fun i => match i with | 0 => fun s w => s 75 = .slice (some ⟨g, 0, none⟩) n oc | 1 => fun s w => s 76 = .int .i64 (k : Int) | 2 => fun s w => s 77 = .pointer (some ⟨g, k, none⟩) | 3 => fun s w => s 78 = .pointer (some a1) | 4 => fun s w => s 79 = .int .i64 (ln : Int) | 5 => fun s w => s 80 = .slice (some ⟨ug, 0, none⟩) n uc | 6 => fun s w => s 81 = .int .i64 (ix : Int) | 7 => fun s w => s 82 = .pointer (some ⟨ug, ix, none⟩) | 8 => fun s w => s 83 = .int .i64 (x : Int) | 9 => fun s w => s 84 = .bool (decide ((x : Int) ≤ (ln : Int))) | _ => fun _ _ => True) ?phc ?phh ?pstep ?pdone
  case phc =>
    intro i s s' w hx h
    match i, hx, h with
    | 0, hx, h => exact (hx 75 (by simp)).symm.trans h
    | 1, hx, h => exact (hx 76 (by simp)).symm.trans h
    | 2, hx, h => exact (hx 77 (by simp)).symm.trans h
    | 3, hx, h => exact (hx 78 (by simp)).symm.trans h
    | 4, hx, h => exact (hx 79 (by simp)).symm.trans h
    | 5, hx, h => exact (hx 80 (by simp)).symm.trans h
    | 6, hx, h => exact (hx 81 (by simp)).symm.trans h
    | 7, hx, h => exact (hx 82 (by simp)).symm.trans h
    | 8, hx, h => exact (hx 83 (by simp)).symm.trans h
    | 9, hx, h => exact (hx 84 (by simp)).symm.trans h
    | (n + 10), _, h => exact h
  case phh =>
    intro i j s w w' hij h hb r
    match i, hij, h with
    | 0, hij, h =>
      exact h
    | 1, hij, h =>
      exact h
    | 2, hij, h =>
      exact h
    | 3, hij, h =>
      exact h
    | 4, hij, h =>
      exact h
    | 5, hij, h =>
      exact h
    | 6, hij, h =>
      exact h
    | 7, hij, h =>
      exact h
    | 8, hij, h =>
      exact h
    | 9, hij, h =>
      exact h
    | (n + 10), _, h => exact h
  case pstep =>
    intro i o ho a' w' hsa hb hd
    match i, ho with
    | 0, ho =>
      obtain rfl := Option.some.inj ho
      try dsimp only at hd
      have g0 : a'.tmps.getD 0 undef = .slice (some ⟨g, 0, none⟩) n oc := hsa.rest 0 (by rfl)
      refine wpOp_of rfl rfl ?_
      refine op_run (v := .slice (some ⟨g, 0, none⟩) n oc) (w' := w') ?_ ⟨_, rfl, ?_, ?_⟩
      · simp only [execOp, Act.eval, g0]; first | (go_simp; done) | rfl
      · try dsimp only
        exact (slots_put (ns := 92) (hsa.size.trans rfl) (by decide))
      · exact Below.refl _ _
    | 1, ho =>
      obtain rfl := Option.some.inj ho
      try dsimp only at hd
      have g9 : a'.tmps.getD 9 undef = .int .i64 (k : Int) := hsa.rest 9 (by rfl)
      refine wpOp_of rfl rfl ?_
      refine op_run (v := .int .i64 (k : Int)) (w' := w') ?_ ⟨_, rfl, ?_, ?_⟩
      · simp only [execOp, Act.eval, g9]; first | (go_simp; done) | rfl
      · try dsimp only
        exact (slots_put (ns := 92) (hsa.size.trans rfl) (by decide))
      · exact Below.refl _ _
    | 2, ho =>
      obtain rfl := Option.some.inj ho
      try dsimp only at hd
      have d0 : a'.tmps.getD 75 undef = .slice (some ⟨g, 0, none⟩) n oc := hd 0 (by rfl)
      have d1 : a'.tmps.getD 76 undef = .int .i64 (k : Int) := hd 1 (by rfl)
      refine wpOp_of rfl rfl ?_
      refine op_run (v := .pointer (some ⟨g, k, none⟩)) (w' := w') ?_ ⟨_, rfl, ?_, ?_⟩
      · simp only [execOp, Act.eval, d0, d1]; first | (go_simp; done) | rfl
      · try dsimp only
        exact (slots_put (ns := 92) (hsa.size.trans rfl) (by decide))
      · exact Below.refl _ _
    | 3, ho =>
      obtain rfl := Option.some.inj ho
      try dsimp only at hd
      have d2 : a'.tmps.getD 77 undef = .pointer (some ⟨g, k, none⟩) := hd 2 (by rfl)
      have y : w'.cell? ⟨g, k, none⟩ = some (.pointer (some a1)) := (hb.cell (p := ⟨g, k, none⟩) hgl).trans c0
      refine wpOp_of rfl rfl ?_
      refine op_run (v := .pointer (some a1)) (w' := w') ?_ ⟨_, rfl, ?_, ?_⟩
      · simp only [execOp, Act.eval, d2, y]; first | (go_simp; done) | rfl
      · try dsimp only
        exact (slots_put (ns := 92) (hsa.size.trans rfl) (by decide))
      · exact Below.refl _ _
    | 4, ho =>
      obtain rfl := Option.some.inj ho
      try dsimp only at hd
      have d3 : a'.tmps.getD 78 undef = .pointer (some a1) := hd 3 (by rfl)
      refine wpOp_of rfl rfl ?_
      refine op_call 25 _ _ rfl (enters_of Try.func25 (by kernel_rfl) rfl) [.pointer (some a1)] (by simp only [List.map, Act.eval, d3]) (HS.out w' hb) ?_
      rintro e w'' ⟨rfl, b2⟩
      refine ⟨_, rfl, _, rfl, ?_, ?_⟩
      · try dsimp only
        exact (slots_put (ns := 92) (hsa.size.trans rfl) (by decide))
      · exact b2
    | 5, ho =>
      obtain rfl := Option.some.inj ho
      try dsimp only at hd
      have g1 : a'.tmps.getD 1 undef = .slice (some ⟨ug, 0, none⟩) n uc := hsa.rest 1 (by rfl)
      refine wpOp_of rfl rfl ?_
      refine op_run (v := .slice (some ⟨ug, 0, none⟩) n uc) (w' := w') ?_ ⟨_, rfl, ?_, ?_⟩
      · simp only [execOp, Act.eval, g1]; first | (go_simp; done) | rfl
      · try dsimp only
        exact (slots_put (ns := 92) (hsa.size.trans rfl) (by decide))
      · exact Below.refl _ _
    | 6, ho =>
      obtain rfl := Option.some.inj ho
      try dsimp only at hd
      have g6 : a'.tmps.getD 6 undef = .int .i64 (ix : Int) := hsa.rest 6 (by rfl)
      refine wpOp_of rfl rfl ?_
      refine op_run (v := .int .i64 (ix : Int)) (w' := w') ?_ ⟨_, rfl, ?_, ?_⟩
      · simp only [execOp, Act.eval, g6]; first | (go_simp; done) | rfl
      · try dsimp only
        exact (slots_put (ns := 92) (hsa.size.trans rfl) (by decide))
      · exact Below.refl _ _
    | 7, ho =>
      obtain rfl := Option.some.inj ho
      try dsimp only at hd
      have d5 : a'.tmps.getD 80 undef = .slice (some ⟨ug, 0, none⟩) n uc := hd 5 (by rfl)
      have d6 : a'.tmps.getD 81 undef = .int .i64 (ix : Int) := hd 6 (by rfl)
      refine wpOp_of rfl rfl ?_
      refine op_run (v := .pointer (some ⟨ug, ix, none⟩)) (w' := w') ?_ ⟨_, rfl, ?_, ?_⟩
      · simp only [execOp, Act.eval, d5, d6]; first | (go_simp; done) | rfl
      · try dsimp only
        exact (slots_put (ns := 92) (hsa.size.trans rfl) (by decide))
      · exact Below.refl _ _
    | 8, ho =>
      obtain rfl := Option.some.inj ho
      try dsimp only at hd
      have d7 : a'.tmps.getD 82 undef = .pointer (some ⟨ug, ix, none⟩) := hd 7 (by rfl)
      have y : w'.cell? ⟨ug, ix, none⟩ = some (.int .i64 (x : Int)) := (hb.cell (p := ⟨ug, ix, none⟩) hul).trans c1
      refine wpOp_of rfl rfl ?_
      refine op_run (v := .int .i64 (x : Int)) (w' := w') ?_ ⟨_, rfl, ?_, ?_⟩
      · simp only [execOp, Act.eval, d7, y]; first | (go_simp; done) | rfl
      · try dsimp only
        exact (slots_put (ns := 92) (hsa.size.trans rfl) (by decide))
      · exact Below.refl _ _
    | 9, ho =>
      obtain rfl := Option.some.inj ho
      try dsimp only at hd
      have d4 : a'.tmps.getD 79 undef = .int .i64 (ln : Int) := hd 4 (by rfl)
      have d8 : a'.tmps.getD 83 undef = .int .i64 (x : Int) := hd 8 (by rfl)
      refine wpOp_of rfl rfl ?_
      refine op_run (v := .bool (decide ((x : Int) ≤ (ln : Int)))) (w' := w') ?_ ⟨_, rfl, ?_, ?_⟩
      · simp only [execOp, Act.eval, d4, d8]; first | (go_simp; done) | rfl
      · try dsimp only
        exact (slots_put (ns := 92) (hsa.size.trans rfl) (by decide))
      · exact Below.refl _ _
    | (n + 10), ho => exact absurd ho (by simp)
  case pdone =>
    intro a' w' hsa hb hd
    have d0 : a'.tmps.getD 75 undef = .slice (some ⟨g, 0, none⟩) n oc := hd 0 (by decide)
    have d1 : a'.tmps.getD 76 undef = .int .i64 (k : Int) := hd 1 (by decide)
    have d2 : a'.tmps.getD 77 undef = .pointer (some ⟨g, k, none⟩) := hd 2 (by decide)
    have d3 : a'.tmps.getD 78 undef = .pointer (some a1) := hd 3 (by decide)
    have d4 : a'.tmps.getD 79 undef = .int .i64 (ln : Int) := hd 4 (by decide)
    have d5 : a'.tmps.getD 80 undef = .slice (some ⟨ug, 0, none⟩) n uc := hd 5 (by decide)
    have d6 : a'.tmps.getD 81 undef = .int .i64 (ix : Int) := hd 6 (by decide)
    have d7 : a'.tmps.getD 82 undef = .pointer (some ⟨ug, ix, none⟩) := hd 7 (by decide)
    have d8 : a'.tmps.getD 83 undef = .int .i64 (x : Int) := hd 8 (by decide)
    have d9 : a'.tmps.getD 84 undef = .bool (decide ((x : Int) ≤ (ln : Int))) := hd 9 (by decide)
    exact HQ.out _ _ ⟨hsa.size.trans rfl, hsa.defers.trans rfl, hsa.rest 0 (by rfl), hsa.rest 1 (by rfl), hsa.rest 4 (by rfl), hsa.rest 5 (by rfl), hsa.rest 6 (by rfl), hsa.rest 7 (by rfl), hsa.rest 8 (by rfl), hsa.rest 9 (by rfl)⟩ d9 hb
set_option maxHeartbeats 8000000 in
set_option maxRecDepth 100000 in
theorem ag_r14 {K : Act → World → Prop} {c : Code} (hc : regOf (Try.f29.body.getD .skip) 14 = some c) (a : Act) {v : Vag} {wq : World} {k : Nat} (hF : Fag a v) (h8v : v.v8 = .int .i64 (k : Int)) (hk : k ≤ 1000000) (hQ : ∀ a', Fag a' { v with v8 := .int .i64 ((k + 1 : Nat) : Int) } → K a' wq) :
    Code.wp Try.prog c (Exit.then K fun _ _ _ => False) a wq := by
  have HQ := hide hQ
  clear hQ
  obtain ⟨t', d'⟩ := a
  obtain ⟨v0, v1, v4, v5, v6, v7, v8, v9⟩ := v
  simp only at h8v HQ
  subst h8v
  obtain ⟨hs1, hd1, q0, q1, q4, q5, q6, q7, q8, q9⟩ := hF
  obtain ⟨u, hu⟩ := frame_ag t' hs1
  simp only at hd1 q0 q1 q4 q5 q6 q7 q8 q9
  subst hu hd1
  have e0 : u 0 = v0 := q0
  have e1 : u 1 = v1 := q1
  have e4 : u 4 = v4 := q4
  have e5 : u 5 = v5 := q5
  have e6 : u 6 = v6 := q6
  have e7 : u 7 = v7 := q7
  have e8 : u 8 = .int .i64 (k : Int) := q8
  have e9 : u 9 = v9 := q9
  rw [e0, e1, e4, e5, e6, e7, e8, e9]
  clear q0 e0 q1 e1 q4 e4 q5 e5 q6 e6 q7 e7 q8 e8 q9 e9 hs1
  simp only [Try.f29, Option.getD_some, regOf] at hc
  injection hc with hc
  subst hc
  have hc : ((k + 1 : Nat) : Int) = (k : Int) + 1 := by omega
  rw [hc] at HQ
  go_wp2
  exact HQ.out _ ⟨rfl, rfl, rfl, rfl, rfl, rfl, rfl, rfl, rfl, rfl⟩
set_option maxHeartbeats 8000000 in
set_option maxRecDepth 100000 in
theorem ag_r12 {K : Act → World → Prop} {c : Code} (hc : regOf (Try.f29.body.getD .skip) 12 = some c) (a : Act) {v : Vag} {wq : World} {k : Nat} (hF : Fag a v) (h9v : v.v9 = .int .i64 (k : Int)) (hk : k ≤ 1000000) (hQ : ∀ a', Fag a' { v with v9 := .int .i64 ((k + 1 : Nat) : Int) } → K a' wq) :
    Code.wp Try.prog c (Exit.then K fun _ _ _ => False) a wq := by
  have HQ := hide hQ
  clear hQ
  obtain ⟨t', d'⟩ := a
  obtain ⟨v0, v1, v4, v5, v6, v7, v8, v9⟩ := v
  simp only at h9v HQ
  subst h9v
  obtain ⟨hs1, hd1, q0, q1, q4, q5, q6, q7, q8, q9⟩ := hF
  obtain ⟨u, hu⟩ := frame_ag t' hs1
  simp only at hd1 q0 q1 q4 q5 q6 q7 q8 q9
  subst hu hd1
  have e0 : u 0 = v0 := q0
  have e1 : u 1 = v1 := q1
  have e4 : u 4 = v4 := q4
  have e5 : u 5 = v5 := q5
  have e6 : u 6 = v6 := q6
  have e7 : u 7 = v7 := q7
  have e8 : u 8 = v8 := q8
  have e9 : u 9 = .int .i64 (k : Int) := q9
  rw [e0, e1, e4, e5, e6, e7, e8, e9]
  clear q0 e0 q1 e1 q4 e4 q5 e5 q6 e6 q7 e7 q8 e8 q9 e9 hs1
  simp only [Try.f29, Option.getD_some, regOf] at hc
  injection hc with hc
  subst hc
  have hc : ((k + 1 : Nat) : Int) = (k : Int) + 1 := by omega
  rw [hc] at HQ
  go_wp2
  exact HQ.out _ ⟨rfl, rfl, rfl, rfl, rfl, rfl, rfl, rfl, rfl, rfl⟩
set_option maxHeartbeats 8000000 in
set_option maxRecDepth 100000 in
theorem ag_r15 {K : Act → World → Prop} {c : Code} (hc : regOf (Try.f29.body.getD .skip) 15 = some c) (a : Act) {v : Vag} {wq : World} {g n oc m : Nat} (hF : Fag a v) (h0v : v.v0 = .slice (some ⟨g, 0, none⟩) n oc) (h8v : v.v8 = .int .i64 (m : Int)) (hm : n < 2 * m) (hb : m ≤ 1000000) (hQ : ∀ a', Fag a' v → a'.tmps.getD 91 undef = .bool false → K a' wq) :
    Code.wp Try.prog c (Exit.then K fun _ _ _ => False) a wq := by
  have HQ := hide hQ
  clear hQ
  obtain ⟨t', d'⟩ := a
  obtain ⟨v0, v1, v4, v5, v6, v7, v8, v9⟩ := v
  simp only at h0v h8v HQ
  subst h0v h8v
  obtain ⟨hs1, hd1, q0, q1, q4, q5, q6, q7, q8, q9⟩ := hF
  obtain ⟨u, hu⟩ := frame_ag t' hs1
  simp only at hd1 q0 q1 q4 q5 q6 q7 q8 q9
  subst hu hd1
  have e0 : u 0 = .slice (some ⟨g, 0, none⟩) n oc := q0
  have e1 : u 1 = v1 := q1
  have e4 : u 4 = v4 := q4
  have e5 : u 5 = v5 := q5
  have e6 : u 6 = v6 := q6
  have e7 : u 7 = v7 := q7
  have e8 : u 8 = .int .i64 (m : Int) := q8
  have e9 : u 9 = v9 := q9
  rw [e0, e1, e4, e5, e6, e7, e8, e9]
  clear q0 e0 q1 e1 q4 e4 q5 e5 q6 e6 q7 e7 q8 e8 q9 e9 hs1
  simp only [Try.f29, Option.getD_some, regOf] at hc
  injection hc with hc
  subst hc
  have hd : decide (2 * (m : Int) ≤ (n : Int)) = false := decide_eq_false (by omega)
  go_wp2
  exact HQ.out _ ⟨rfl, rfl, rfl, rfl, rfl, rfl, rfl, rfl, rfl, rfl⟩ (by first | rfl | (simp; done))
set_option maxHeartbeats 8000000 in
set_option maxRecDepth 100000 in
theorem ag_r4 {K : Act → World → Prop} {c : Code} (hc : regOf (Try.f29.body.getD .skip) 4 = some c) (a : Act) {v : Vag} {wq : World} {k : Nat} (hF : Fag a v) (h6v : v.v6 = .int .i64 (k : Int)) (hk : k ≤ 1000000) (hQ : ∀ a', Fag a' { v with v6 := .int .i64 ((k + 1 : Nat) : Int) } → K a' wq) :
    Code.wp Try.prog c (Exit.then K fun _ _ _ => False) a wq := by
  have HQ := hide hQ
  clear hQ
  obtain ⟨t', d'⟩ := a
  obtain ⟨v0, v1, v4, v5, v6, v7, v8, v9⟩ := v
  simp only at h6v HQ
  subst h6v
  obtain ⟨hs1, hd1, q0, q1, q4, q5, q6, q7, q8, q9⟩ := hF
  obtain ⟨u, hu⟩ := frame_ag t' hs1
  simp only at hd1 q0 q1 q4 q5 q6 q7 q8 q9
  subst hu hd1
  have e0 : u 0 = v0 := q0
  have e1 : u 1 = v1 := q1
  have e4 : u 4 = v4 := q4
  have e5 : u 5 = v5 := q5
  have e6 : u 6 = .int .i64 (k : Int) := q6
  have e7 : u 7 = v7 := q7
  have e8 : u 8 = v8 := q8
  have e9 : u 9 = v9 := q9
  rw [e0, e1, e4, e5, e6, e7, e8, e9]
  clear q0 e0 q1 e1 q4 e4 q5 e5 q6 e6 q7 e7 q8 e8 q9 e9 hs1
  simp only [Try.f29, Option.getD_some, regOf] at hc
  injection hc with hc
  subst hc
  have hc : ((k + 1 : Nat) : Int) = (k : Int) + 1 := by omega
  rw [hc] at HQ
  go_wp2
  exact HQ.out _ ⟨rfl, rfl, rfl, rfl, rfl, rfl, rfl, rfl, rfl, rfl⟩
set_option maxHeartbeats 8000000 in
set_option maxRecDepth 100000 in
theorem ag_r17 {K : Act → World → Prop} {c : Code} (hc : regOf (Try.f29.body.getD .skip) 17 = some c) (a : Act) {v : Vag} {wq : World}  (hF : Fag a v) (hQ : ∀ a', Fag a' { v with v4 := .bool true } → K a' wq) :
    Code.wp Try.prog c (Exit.then K fun _ _ _ => False) a wq := by
  have HQ := hide hQ
  clear hQ
  obtain ⟨t', d'⟩ := a
  obtain ⟨v0, v1, v4, v5, v6, v7, v8, v9⟩ := v
  obtain ⟨hs1, hd1, q0, q1, q4, q5, q6, q7, q8, q9⟩ := hF
  obtain ⟨u, hu⟩ := frame_ag t' hs1
  simp only at hd1 q0 q1 q4 q5 q6 q7 q8 q9
  subst hu hd1
  have e0 : u 0 = v0 := q0
  have e1 : u 1 = v1 := q1
  have e4 : u 4 = v4 := q4
  have e5 : u 5 = v5 := q5
  have e6 : u 6 = v6 := q6
  have e7 : u 7 = v7 := q7
  have e8 : u 8 = v8 := q8
  have e9 : u 9 = v9 := q9
  rw [e0, e1, e4, e5, e6, e7, e8, e9]
  clear q0 e0 q1 e1 q4 e4 q5 e5 q6 e6 q7 e7 q8 e8 q9 e9 hs1
  simp only [Try.f29, Option.getD_some, regOf] at hc
  injection hc with hc
  subst hc
  go_wp2
  exact HQ.out _ ⟨rfl, rfl, rfl, rfl, rfl, rfl, rfl, rfl, rfl, rfl⟩
theorem ag_ret {W : World} {a : Act} {v : Vag} {x : Bool} {R : Ending → World → Prop} (hF : Fag a v) (h2 : v.v4 = .bool x) (h : R (.returned (.bool x)) W) : bodyPost Try.prog Try.f29 R .ret a W := by
  have g0 := slot_get (hF.s4.trans h2)
  refine bodyPost_ret (v := .bool x) ?_ hF.defers h
  simp [results, Try.results29, go_sem, g0]
end Go.Proofs.Ytjgbgbgajadgnaa
