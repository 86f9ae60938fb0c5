/-
  carillonref16's New; Poll's regions (mkzb.py).
-/
import Derived.Test.YtominplelmbecaaZZA
namespace Go.Proofs.Ytominplelmbecaa.Y
open Go.RowKit

attribute [local go_sem ↓] Go.wp_at_zero Go.wp_at_succ
set_option linter.unusedSimpArgs false
set_option linter.unusedVariables false
set_option maxRecDepth 100000 in
theorem frame_zn (t : Array Value) (h : t.size = 36) : ∃ u : Nat → Value, t = List.toArray (u 0 :: u 1 :: u 2 :: u 3 :: u 4 :: u 5 :: u 6 :: u 7 :: u 8 :: u 9 :: u 10 :: u 11 :: u 12 :: u 13 :: u 14 :: u 15 :: u 16 :: u 17 :: u 18 :: u 19 :: u 20 :: u 21 :: u 22 :: u 23 :: u 24 :: u 25 :: u 26 :: u 27 :: u 28 :: u 29 :: u 30 :: u 31 :: u 32 :: u 33 :: u 34 :: u 35 :: []) := by
  refine ⟨fun i => t.getD i undef, ?_⟩
  have e : (List.toArray ((fun i => t.getD i undef) 0 :: (fun i => t.getD i undef) 1 :: (fun i => t.getD i undef) 2 :: (fun i => t.getD i undef) 3 :: (fun i => t.getD i undef) 4 :: (fun i => t.getD i undef) 5 :: (fun i => t.getD i undef) 6 :: (fun i => t.getD i undef) 7 :: (fun i => t.getD i undef) 8 :: (fun i => t.getD i undef) 9 :: (fun i => t.getD i undef) 10 :: (fun i => t.getD i undef) 11 :: (fun i => t.getD i undef) 12 :: (fun i => t.getD i undef) 13 :: (fun i => t.getD i undef) 14 :: (fun i => t.getD i undef) 15 :: (fun i => t.getD i undef) 16 :: (fun i => t.getD i undef) 17 :: (fun i => t.getD i undef) 18 :: (fun i => t.getD i undef) 19 :: (fun i => t.getD i undef) 20 :: (fun i => t.getD i undef) 21 :: (fun i => t.getD i undef) 22 :: (fun i => t.getD i undef) 23 :: (fun i => t.getD i undef) 24 :: (fun i => t.getD i undef) 25 :: (fun i => t.getD i undef) 26 :: (fun i => t.getD i undef) 27 :: (fun i => t.getD i undef) 28 :: (fun i => t.getD i undef) 29 :: (fun i => t.getD i undef) 30 :: (fun i => t.getD i undef) 31 :: (fun i => t.getD i undef) 32 :: (fun i => t.getD i undef) 33 :: (fun i => t.getD i undef) 34 :: (fun i => t.getD i undef) 35 :: []) : Array Value) = ((List.range 36).map fun i => t.getD i undef).toArray := rfl
  refine Eq.trans ?_ e.symm
  apply Array.ext
  · simp [h]
  · intro k h1 h2
    simp [Array.getD, h1]
/-- The slots that matter. -/
structure Vzn where
  v0 : Value
  v1 : Value
  v2 : Value
  v6 : Value
  v7 : Value
  v8 : Value
structure Fzn (a : Act) (v : Vzn) : Prop where
  size : a.tmps.size = 36
  defers : a.defers = []
  s0 : a.tmps.getD 0 undef = v.v0
  s1 : a.tmps.getD 1 undef = v.v1
  s2 : a.tmps.getD 2 undef = v.v2
  s6 : a.tmps.getD 6 undef = v.v6
  s7 : a.tmps.getD 7 undef = v.v7
  s8 : a.tmps.getD 8 undef = v.v8
set_option maxHeartbeats 8000000 in
set_option maxRecDepth 100000 in
theorem zn_r0 {K : Act → World → Prop} {c : Code} (hc : regOf (Try.f12.body.getD .skip) 0 = some c) (a : Act) {v : Vzn} {wq : World}  (hF : Fzn a v) (hQ : ∀ a', Fzn a' { v with v6 := .pointer (some ⟨wq.heap.size, 0, none⟩), v7 := .int .i64 0 } → K a' (wq.alloc (.cells #[.string ⟨#[]⟩, .string ⟨#[]⟩, .int .i64 0, .int .i64 0] 37))) :
    Code.wp Try.prog c (Exit.then K fun _ _ _ => False) a wq := by
  have HQ := hide hQ
  clear hQ
  obtain ⟨t', d'⟩ := a
  obtain ⟨v0, v1, v2, v6, v7, v8⟩ := v
  obtain ⟨hs1, hd1, q0, q1, q2, q6, q7, q8⟩ := hF
  obtain ⟨u, hu⟩ := frame_zn t' hs1
  simp only at hd1 q0 q1 q2 q6 q7 q8
  subst hu hd1
  have e0 : u 0 = v0 := q0
  have e1 : u 1 = v1 := q1
  have e2 : u 2 = v2 := q2
  have e6 : u 6 = v6 := q6
  have e7 : u 7 = v7 := q7
  have e8 : u 8 = v8 := q8
  rw [e0, e1, e2, e6, e7, e8]
  clear q0 e0 q1 e1 q2 e2 q6 e6 q7 e7 q8 e8 hs1
  simp only [Try.f12, Option.getD_some, regOf] at hc
  injection hc with hc
  subst hc
  go_wp2
  exact HQ.out _ ⟨rfl, rfl, rfl, rfl, rfl, rfl, rfl, rfl⟩
set_option maxHeartbeats 8000000 in
set_option maxRecDepth 100000 in
theorem zn_r1 {K : Act → World → Prop} {c : Code} (hc : regOf (Try.f12.body.getD .skip) 1 = some c) (a : Act) {v : Vzn} {wq : World} {p : ByteArray} {b : Bool} (hF : Fzn a v) (h0v : v.v0 = .string p) (hE : Calls Try.prog 32 #[.string p] wq fun e w' => e = .returned (.bool b) ∧ w' = wq)
    (hQ : ∀ a' w' , Fzn a' { v with v8 := .bool b } → w' = wq → K a' w') :
    Code.wp Try.prog c (Exit.then K fun _ _ _ => False) a wq := by
  have HQ := hide hQ
  clear hQ
  obtain ⟨t', d'⟩ := a
  obtain ⟨v0, v1, v2, v6, v7, v8⟩ := v
  simp only at h0v HQ
  subst h0v
  obtain ⟨hs1, hd1, q0, q1, q2, q6, q7, q8⟩ := hF
  obtain ⟨u, hu⟩ := frame_zn t' hs1
  simp only at hd1 q0 q1 q2 q6 q7 q8
  subst hu hd1
  have e0 : u 0 = .string p := q0
  have e1 : u 1 = v1 := q1
  have e2 : u 2 = v2 := q2
  have e6 : u 6 = v6 := q6
  have e7 : u 7 = v7 := q7
  have e8 : u 8 = v8 := q8
  rw [e0, e1, e2, e6, e7, e8]
  clear q0 e0 q1 e1 q2 e2 q6 e6 q7 e7 q8 e8 hs1
  simp only [Try.f12, Option.getD_some, regOf] at hc
  injection hc with hc
  subst hc
  have HE := hide hE
  clear hE
  go_wp2_with (go_at_call 32; refine HE.out.mono ?_; rintro e w1 ⟨rfl, r1⟩; have R1 := hide r1; clear r1)
  exact HQ.out _ _ ⟨rfl, rfl, rfl, rfl, rfl, rfl, rfl, rfl⟩ R1.out
set_option maxHeartbeats 8000000 in
set_option maxRecDepth 100000 in
theorem zn_r2 {K : Act → World → Prop} {c : Code} (hc : regOf (Try.f12.body.getD .skip) 2 = some c) (a : Act) {v : Vzn} {wq : World} {n : Int} (hF : Fzn a v) (h2v : v.v2 = .int .i64 n) (hQ : ∀ a', Fzn a' v → a'.tmps.getD 12 undef = .bool (decide (n < 0)) → K a' wq) :
    Code.wp Try.prog c (Exit.then K fun _ _ _ => False) a wq := by
  have HQ := hide hQ
  clear hQ
  obtain ⟨t', d'⟩ := a
  obtain ⟨v0, v1, v2, v6, v7, v8⟩ := v
  simp only at h2v HQ
  subst h2v
  obtain ⟨hs1, hd1, q0, q1, q2, q6, q7, q8⟩ := hF
  obtain ⟨u, hu⟩ := frame_zn t' hs1
  simp only at hd1 q0 q1 q2 q6 q7 q8
  subst hu hd1
  have e0 : u 0 = v0 := q0
  have e1 : u 1 = v1 := q1
  have e2 : u 2 = .int .i64 n := q2
  have e6 : u 6 = v6 := q6
  have e7 : u 7 = v7 := q7
  have e8 : u 8 = v8 := q8
  rw [e0, e1, e2, e6, e7, e8]
  clear q0 e0 q1 e1 q2 e2 q6 e6 q7 e7 q8 e8 hs1
  simp only [Try.f12, Option.getD_some, regOf] at hc
  injection hc with hc
  subst hc
  go_wp2
  exact HQ.out _ ⟨rfl, rfl, rfl, rfl, rfl, rfl, rfl, rfl⟩ (by first | rfl | (simp; done))
set_option maxHeartbeats 8000000 in
set_option maxRecDepth 100000 in
theorem zn_r3 {K : Act → World → Prop} {c : Code} (hc : regOf (Try.f12.body.getD .skip) 3 = some c) (a : Act) {v : Vzn} {wq : World} {xb : Nat} {fi : Int} (hF : Fzn a v) (h1v : v.v1 = .pointer (some ⟨xb, 0, none⟩)) (hcb : wq.cell? ⟨xb, 2, none⟩ = some (.int .i64 fi))
    (hQ : ∀ a', Fzn a' { v with v2 := .int .i64 fi } → K a' wq) :
    Code.wp Try.prog c (Exit.then K fun _ _ _ => False) a wq := by
  have HQ := hide hQ
  clear hQ
  obtain ⟨t', d'⟩ := a
  obtain ⟨v0, v1, v2, v6, v7, v8⟩ := v
  simp only at h1v HQ
  subst h1v
  obtain ⟨hs1, hd1, q0, q1, q2, q6, q7, q8⟩ := hF
  obtain ⟨u, hu⟩ := frame_zn t' hs1
  simp only at hd1 q0 q1 q2 q6 q7 q8
  subst hu hd1
  have e0 : u 0 = v0 := q0
  have e1 : u 1 = .pointer (some ⟨xb, 0, none⟩) := q1
  have e2 : u 2 = v2 := q2
  have e6 : u 6 = v6 := q6
  have e7 : u 7 = v7 := q7
  have e8 : u 8 = v8 := q8
  rw [e0, e1, e2, e6, e7, e8]
  clear q0 e0 q1 e1 q2 e2 q6 e6 q7 e7 q8 e8 hs1
  simp only [Try.f12, Option.getD_some, regOf] at hc
  injection hc with hc
  subst hc
  go_wp2
  exact HQ.out _ ⟨rfl, rfl, rfl, rfl, rfl, rfl, rfl, rfl⟩
set_option maxHeartbeats 8000000 in
set_option maxRecDepth 100000 in
theorem zn_r4n {K : Act → World → Prop} {c : Code} (hc : regOf (Try.f12.body.getD .skip) 4 = some c) (a : Act) {v : Vzn} {wq : World} {xb : Nat} {fi n : Int} (hF : Fzn a v) (h1v : v.v1 = .pointer (some ⟨xb, 0, none⟩)) (h2v : v.v2 = .int .i64 n) (h8v : v.v8 = .bool false) (hcb : wq.cell? ⟨xb, 2, none⟩ = some (.int .i64 fi))
    (hQ : ∀ a', Fzn a' v → a'.tmps.getD 26 undef = .bool true → K a' wq) :
    Code.wp Try.prog c (Exit.then K fun _ _ _ => False) a wq := by
  have HQ := hide hQ
  clear hQ
  obtain ⟨t', d'⟩ := a
  obtain ⟨v0, v1, v2, v6, v7, v8⟩ := v
  simp only at h1v h2v h8v HQ
  subst h1v h2v h8v
  obtain ⟨hs1, hd1, q0, q1, q2, q6, q7, q8⟩ := hF
  obtain ⟨u, hu⟩ := frame_zn t' hs1
  simp only at hd1 q0 q1 q2 q6 q7 q8
  subst hu hd1
  have e0 : u 0 = v0 := q0
  have e1 : u 1 = .pointer (some ⟨xb, 0, none⟩) := q1
  have e2 : u 2 = .int .i64 n := q2
  have e6 : u 6 = v6 := q6
  have e7 : u 7 = v7 := q7
  have e8 : u 8 = .bool false := q8
  rw [e0, e1, e2, e6, e7, e8]
  clear q0 e0 q1 e1 q2 e2 q6 e6 q7 e7 q8 e8 hs1
  simp only [Try.f12, Option.getD_some, regOf] at hc
  injection hc with hc
  subst hc
  go_wp2
  exact HQ.out _ ⟨rfl, rfl, rfl, rfl, rfl, rfl, rfl, rfl⟩ (by first | rfl | (simp; done) | (simp; omega))
set_option maxHeartbeats 8000000 in
set_option maxRecDepth 100000 in
theorem zn_r4g {K : Act → World → Prop} {c : Code} (hc : regOf (Try.f12.body.getD .skip) 4 = some c) (a : Act) {v : Vzn} {wq : World} {xb : Nat} {fi n : Int} (hF : Fzn a v) (h1v : v.v1 = .pointer (some ⟨xb, 0, none⟩)) (h2v : v.v2 = .int .i64 n) (h8v : v.v8 = .bool true) (hcb : wq.cell? ⟨xb, 2, none⟩ = some (.int .i64 fi)) (hl : fi < n)
    (hQ : ∀ a', Fzn a' v → a'.tmps.getD 26 undef = .bool true → K a' wq) :
    Code.wp Try.prog c (Exit.then K fun _ _ _ => False) a wq := by
  have HQ := hide hQ
  clear hQ
  obtain ⟨t', d'⟩ := a
  obtain ⟨v0, v1, v2, v6, v7, v8⟩ := v
  simp only at h1v h2v h8v HQ
  subst h1v h2v h8v
  obtain ⟨hs1, hd1, q0, q1, q2, q6, q7, q8⟩ := hF
  obtain ⟨u, hu⟩ := frame_zn t' hs1
  simp only at hd1 q0 q1 q2 q6 q7 q8
  subst hu hd1
  have e0 : u 0 = v0 := q0
  have e1 : u 1 = .pointer (some ⟨xb, 0, none⟩) := q1
  have e2 : u 2 = .int .i64 n := q2
  have e6 : u 6 = v6 := q6
  have e7 : u 7 = v7 := q7
  have e8 : u 8 = .bool true := q8
  rw [e0, e1, e2, e6, e7, e8]
  clear q0 e0 q1 e1 q2 e2 q6 e6 q7 e7 q8 e8 hs1
  simp only [Try.f12, Option.getD_some, regOf] at hc
  injection hc with hc
  subst hc
  have g1 : n > fi := hl
  have g2 : decide (fi < n) = true := decide_eq_true hl
  go_wp2
  exact HQ.out _ ⟨rfl, rfl, rfl, rfl, rfl, rfl, rfl, rfl⟩ (by first | rfl | (simp; done) | (simp; omega))
set_option maxHeartbeats 8000000 in
set_option maxRecDepth 100000 in
theorem zn_r4o {K : Act → World → Prop} {c : Code} (hc : regOf (Try.f12.body.getD .skip) 4 = some c) (a : Act) {v : Vzn} {wq : World} {xb : Nat} {fi n : Int} (hF : Fzn a v) (h1v : v.v1 = .pointer (some ⟨xb, 0, none⟩)) (h2v : v.v2 = .int .i64 n) (h8v : v.v8 = .bool true) (hcb : wq.cell? ⟨xb, 2, none⟩ = some (.int .i64 fi)) (hl : ¬ fi < n)
    (hQ : ∀ a', Fzn a' v → a'.tmps.getD 26 undef = .bool false → K a' wq) :
    Code.wp Try.prog c (Exit.then K fun _ _ _ => False) a wq := by
  have HQ := hide hQ
  clear hQ
  obtain ⟨t', d'⟩ := a
  obtain ⟨v0, v1, v2, v6, v7, v8⟩ := v
  simp only at h1v h2v h8v HQ
  subst h1v h2v h8v
  obtain ⟨hs1, hd1, q0, q1, q2, q6, q7, q8⟩ := hF
  obtain ⟨u, hu⟩ := frame_zn t' hs1
  simp only at hd1 q0 q1 q2 q6 q7 q8
  subst hu hd1
  have e0 : u 0 = v0 := q0
  have e1 : u 1 = .pointer (some ⟨xb, 0, none⟩) := q1
  have e2 : u 2 = .int .i64 n := q2
  have e6 : u 6 = v6 := q6
  have e7 : u 7 = v7 := q7
  have e8 : u 8 = .bool true := q8
  rw [e0, e1, e2, e6, e7, e8]
  clear q0 e0 q1 e1 q2 e2 q6 e6 q7 e7 q8 e8 hs1
  simp only [Try.f12, Option.getD_some, regOf] at hc
  injection hc with hc
  subst hc
  have g1 : ¬ n > fi := hl
  have g2 : decide (fi < n) = false := decide_eq_false hl
  go_wp2
  exact HQ.out _ ⟨rfl, rfl, rfl, rfl, rfl, rfl, rfl, rfl⟩ (by first | rfl | (simp; done) | (simp; omega))
set_option maxHeartbeats 8000000 in
set_option maxRecDepth 100000 in
theorem zn_r5 {K : Act → World → Prop} {c : Code} (hc : regOf (Try.f12.body.getD .skip) 5 = some c) (a : Act) {v : Vzn} {wq : World} {rb : Nat} {y0 y1 y2 y3 : Value}  (hF : Fzn a v) (h6v : v.v6 = .pointer (some ⟨rb, 0, none⟩)) (hSr : wq.heap[rb]? = some (.cells #[y0, y1, y2, y3] 37 (0, 0)))
    (hQ : ∀ a', Fzn a' { v with v7 := .int .i64 7 } → K a' (set4 wq rb (.string ⟨#[]⟩) (.string ⟨#[]⟩) (.int .i64 0) (.int .i64 0))) :
    Code.wp Try.prog c (Exit.then K fun _ _ _ => False) a wq := by
  have HQ := hide hQ
  clear hQ
  obtain ⟨t', d'⟩ := a
  obtain ⟨v0, v1, v2, v6, v7, v8⟩ := v
  simp only at h6v HQ
  subst h6v
  obtain ⟨hs1, hd1, q0, q1, q2, q6, q7, q8⟩ := hF
  obtain ⟨u, hu⟩ := frame_zn t' hs1
  simp only at hd1 q0 q1 q2 q6 q7 q8
  subst hu hd1
  have e0 : u 0 = v0 := q0
  have e1 : u 1 = v1 := q1
  have e2 : u 2 = v2 := q2
  have e6 : u 6 = .pointer (some ⟨rb, 0, none⟩) := q6
  have e7 : u 7 = v7 := q7
  have e8 : u 8 = v8 := q8
  rw [e0, e1, e2, e6, e7, e8]
  clear q0 e0 q1 e1 q2 e2 q6 e6 q7 e7 q8 e8 hs1
  simp only [Try.f12, Option.getD_some, regOf] at hc
  injection hc with hc
  subst hc
  obtain ⟨⟨d0, d1, d2, d3⟩, f0, f1, f2, f3⟩ := box4 hSr
  clear hSr
  unfold set4 at HQ
  go_wp2
  exact HQ.out _ ⟨rfl, rfl, rfl, rfl, rfl, rfl, rfl, rfl⟩
set_option maxHeartbeats 8000000 in
set_option maxRecDepth 100000 in
theorem zn_r6 {K : Act → World → Prop} {c : Code} (hc : regOf (Try.f12.body.getD .skip) 6 = some c) (a : Act) {v : Vzn} {wq : World} {rb : Nat} {y0 y1 y2 y3 : Value} {xb : Nat} {p tn : ByteArray} {n : Int} (hF : Fzn a v) (h6v : v.v6 = .pointer (some ⟨rb, 0, none⟩)) (h0v : v.v0 = .string p) (h1v : v.v1 = .pointer (some ⟨xb, 0, none⟩)) (h2v : v.v2 = .int .i64 n) (hSr : wq.heap[rb]? = some (.cells #[y0, y1, y2, y3] 37 (0, 0))) (hcb : wq.cell? ⟨xb, 0, none⟩ = some (.string tn))
    (hQ : ∀ a', Fzn a' { v with v7 := .int .i64 0 } → K a' (set4 wq rb (.string p) (.string tn) (.int .i64 n) (.int .i64 n))) :
    Code.wp Try.prog c (Exit.then K fun _ _ _ => False) a wq := by
  have HQ := hide hQ
  clear hQ
  obtain ⟨t', d'⟩ := a
  obtain ⟨v0, v1, v2, v6, v7, v8⟩ := v
  simp only at h6v h0v h1v h2v HQ
  subst h6v h0v h1v h2v
  obtain ⟨hs1, hd1, q0, q1, q2, q6, q7, q8⟩ := hF
  obtain ⟨u, hu⟩ := frame_zn t' hs1
  simp only at hd1 q0 q1 q2 q6 q7 q8
  subst hu hd1
  have e0 : u 0 = .string p := q0
  have e1 : u 1 = .pointer (some ⟨xb, 0, none⟩) := q1
  have e2 : u 2 = .int .i64 n := q2
  have e6 : u 6 = .pointer (some ⟨rb, 0, none⟩) := q6
  have e7 : u 7 = v7 := q7
  have e8 : u 8 = v8 := q8
  rw [e0, e1, e2, e6, e7, e8]
  clear q0 e0 q1 e1 q2 e2 q6 e6 q7 e7 q8 e8 hs1
  simp only [Try.f12, Option.getD_some, regOf] at hc
  injection hc with hc
  subst hc
  obtain ⟨⟨d0, d1, d2, d3⟩, f0, f1, f2, f3⟩ := box4 hSr
  clear hSr
  unfold set4 at HQ
  go_wp2
  exact HQ.out _ ⟨rfl, rfl, rfl, rfl, rfl, rfl, rfl, rfl⟩
theorem zn_ret {W : World} {a : Act} {v : Vzn} {rb : Nat} {T : SB} {y0 : Int} {R : Ending → World → Prop} (hF : Fzn a v) (h0 : v.v6 = .pointer (some ⟨rb, 0, none⟩)) (hB : W.heap[rb]? = some (.cells #[.string T.name, .string T.top, .int .i64 T.cur, .int .i64 T.next] 37 (0, 0))) (hy0 : v.v7 = .int .i64 y0) (h : R (.returned (.tuple #[T.v, .int .i64 y0])) W) :
    bodyPost Try.prog Try.f12 R .ret a W := by
  have g0 := slot_get (hF.s6.trans h0)
  have gy0 := slot_get (hF.s7.trans hy0)
  obtain ⟨⟨e0, e1, e2, e3⟩, _⟩ := box4 hB
  refine bodyPost_ret (v := (.tuple #[T.v, .int .i64 y0])) ?_ hF.defers h
  simp [results, Try.results12, go_sem, g0, gy0, e0, e1, e2, e3, SB.v]
/-- What the document's New tells. -/
def newZ (p tn : ByteArray) (fi n : Int) : SB × Int := if wordB p = true ∧ ¬ fi < (if n < 0 then fi else n) then (⟨p, tn, if n < 0 then fi else n, if n < 0 then fi else n⟩, 0) else (⟨⟨#[]⟩, ⟨#[]⟩, 0, 0⟩, 7)
theorem zn_tail {w w1 : World} {xb : Nat} {tn : ByteArray} {fi : Int} (b1 : Below w.heap.size w w1) (hx0 : w1.cell? ⟨xb, 0, none⟩ = some (.string tn)) (hx2 : w1.cell? ⟨xb, 2, none⟩ = some (.int .i64 fi)) (x1 : w1.heap[w.heap.size]? = some (.cells #[.string ⟨#[]⟩, .string ⟨#[]⟩, .int .i64 0, .int .i64 0] 37 (0, 0))) (p : ByteArray) (m : Int) {Q : Exit → Act → World → Prop} {a : Act} {v : Vzn} (F : Fzn a v) (q0 : v.v0 = .string p) (q1 : v.v1 = .pointer (some ⟨xb, 0, none⟩)) (q2 : v.v2 = .int .i64 m) (q6 : v.v6 = .pointer (some ⟨w.heap.size, 0, none⟩)) (q8 : v.v8 = .bool (wordB p)) {r4 r5 r6 : Code} (e4 : regOf (Try.f12.body.getD .skip) 4 = some r4) (e5 : regOf (Try.f12.body.getD .skip) 5 = some r5) (e6 : regOf (Try.f12.body.getD .skip) 6 = some r6)
    (hQ : ∀ a' w' v' T cd, Fzn a' v' → v'.v6 = .pointer (some ⟨w.heap.size, 0, none⟩) → v'.v7 = .int .i64 cd → (T, cd) = (if wordB p = true ∧ ¬ fi < m then ((⟨p, tn, m, m⟩ : SB), (0 : Int)) else (⟨⟨#[]⟩, ⟨#[]⟩, 0, 0⟩, 7)) → w'.heap[w.heap.size]? = some (.cells #[.string T.name, .string T.top, .int .i64 T.cur, .int .i64 T.next] 37 (0, 0)) → Below w.heap.size w w' → Q .ret a' w') :
    Code.wp Try.prog ((r4.seq (.cond (.tmp 26) (r5.seq .ret) .skip)).seq (r6.seq .ret)) Q a w1 := by
  obtain ⟨v0, v1, v2, v6, v7, v8⟩ := v
  simp only at q0 q1 q2 q6 q8
  subst q0 q1 q2 q6 q8
  cases hw : wordB p with
  | false =>
    rw [hw] at F
    refine wp_seq (wp_seq (reg_mono (zn_r4n e4 _ F rfl rfl rfl hx2 ?_)))
    intro a4 F4 g4
    refine wp_cond_true g4 ?_
    refine wp_seq (reg_mono (zn_r5 e5 _ F4 rfl x1 ?_))
    intro a5 F5
    try dsimp only at F5
    refine wp_ret ?_
    simp only [Exit.then]
    exact hQ _ _ _ ⟨⟨#[]⟩, ⟨#[]⟩, 0, 0⟩ 7 F5 rfl rfl (by rw [hw, if_neg (fun q => by cases q.1)]) (set4_box x1) (set4_below b1 (Nat.le_refl _))
  | true =>
    rw [hw] at F
    by_cases hl : fi < m
    case pos =>
      refine wp_seq (wp_seq (reg_mono (zn_r4g e4 _ F rfl rfl rfl hx2 hl ?_)))
      intro a4 F4 g4
      refine wp_cond_true g4 ?_
      refine wp_seq (reg_mono (zn_r5 e5 _ F4 rfl x1 ?_))
      intro a5 F5
      try dsimp only at F5
      refine wp_ret ?_
      simp only [Exit.then]
      exact hQ _ _ _ ⟨⟨#[]⟩, ⟨#[]⟩, 0, 0⟩ 7 F5 rfl rfl (by rw [if_neg (fun q => q.2 hl)]) (set4_box x1) (set4_below b1 (Nat.le_refl _))
    refine wp_seq (wp_seq (reg_mono (zn_r4o e4 _ F rfl rfl rfl hx2 hl ?_)))
    intro a4 F4 g4
    refine wp_cond_false g4 (wp_skip ?_)
    show Code.wp _ _ _ _ _
    refine wp_seq (reg_mono (zn_r6 e6 _ F4 rfl rfl rfl rfl x1 hx0 ?_))
    intro a6 F6
    try dsimp only at F6
    exact wp_ret (hQ _ _ _ ⟨p, tn, m, m⟩ 0 F6 rfl rfl (by rw [if_pos ⟨hw, hl⟩]) (set4_box x1) (set4_below b1 (Nat.le_refl _)))
set_option maxHeartbeats 4000000 in
set_option maxRecDepth 100000 in
theorem znew {w : World} {xb : Nat} {tn : ByteArray} {fi : Int} (hlx : xb < w.heap.size) (hx00 : w.cell? ⟨xb, 0, none⟩ = some (.string tn)) (hx20 : w.cell? ⟨xb, 2, none⟩ = some (.int .i64 fi)) (p : ByteArray) (hp : p.size ≤ 281474976710656) (n : Int) :
    Calls Try.prog 12 #[.string p, .pointer (some ⟨xb, 0, none⟩), .int .i64 n] w fun e w' => e = .returned (.tuple #[SB.v (newZ p tn fi n).1, .int .i64 (newZ p tn fi n).2]) ∧ Below w.heap.size w w' := by
  have b1 : Below w.heap.size w (w.alloc (.cells #[.string ⟨#[]⟩, .string ⟨#[]⟩, .int .i64 0, .int .i64 0] 37)) := (Below.refl _ _).alloc (Nat.le_refl _) _
  have x1 := heap_alloc_new w (.cells #[.string ⟨#[]⟩, .string ⟨#[]⟩, .int .i64 0, .int .i64 0] 37)
  have hx0 := (b1.cell (p := ⟨xb, 0, none⟩) hlx).trans hx00
  have hx2 := (b1.cell (p := ⟨xb, 2, none⟩) hlx).trans hx20
  go_enter Try.func12, Try.ntmps12
  refine wp_seq (reg_mono (zn_r0 (by kernel_rfl) _ (v := ⟨_, _, _, _, _, _⟩) ⟨rfl, rfl, rfl, rfl, rfl, rfl, rfl, rfl⟩ ?_))
  intro a0 F0
  try dsimp only at F0
  generalize w.alloc _ = w1 at *
  refine wp_seq (reg_mono (zn_r1 (by kernel_rfl) _ F0 rfl (rword p (by omega) w1) ?_))
  intro a1 W1 F1 hw
  obtain rfl := hw.symm
  try dsimp only at F1
  refine wp_seq (wp_seq (reg_mono (zn_r2 (by kernel_rfl) _ F1 rfl ?_)))
  intro a2 F2 g2
  have fin : ∀ (m : Int), (if n < 0 then fi else n) = m → ∀ a' w' v' T cd, Fzn a' v' → v'.v6 = .pointer (some ⟨w.heap.size, 0, none⟩) → v'.v7 = .int .i64 cd → (T, cd) = (if wordB p = true ∧ ¬ fi < m then ((⟨p, tn, m, m⟩ : SB), (0 : Int)) else (⟨⟨#[]⟩, ⟨#[]⟩, 0, 0⟩, 7)) → w'.heap[w.heap.size]? = some (.cells #[.string T.name, .string T.top, .int .i64 T.cur, .int .i64 T.next] 37 (0, 0)) → Below w.heap.size w w' → bodyPost Try.prog Try.f12 (fun e w' => e = .returned (.tuple #[SB.v (newZ p tn fi n).1, .int .i64 (newZ p tn fi n).2]) ∧ Below w.heap.size w w') .ret a' w' := by
    intro m hm a' w' v' T cd F' q6 q7 hT hB hW
    refine zn_ret F' q6 hB q7 ⟨?_, hW⟩
    unfold newZ
    rw [hm, ← hT]
  by_cases hn : n < 0
  case pos =>
    rw [decide_eq_true hn] at g2
    refine wp_cond_true g2 ?_
    refine reg_all (zn_r3 (by kernel_rfl) _ F2 rfl hx2 ?_)
    intro a3 F3
    try dsimp only at F3
    show Code.wp _ _ _ _ _
    exact zn_tail b1 hx0 hx2 x1 p fi F3 rfl rfl rfl rfl rfl (by kernel_rfl) (by kernel_rfl) (by kernel_rfl) (fin fi (if_pos hn))
  rw [decide_eq_false hn] at g2
  refine wp_cond_false g2 (wp_skip ?_)
  show Code.wp _ _ _ _ _
  exact zn_tail b1 hx0 hx2 x1 p n F2 rfl rfl rfl rfl rfl (by kernel_rfl) (by kernel_rfl) (by kernel_rfl) (fin n (if_neg hn))
set_option maxRecDepth 100000 in
theorem frame_zp (t : Array Value) (h : t.size = 96) : ∃ u : Nat → Value, t = List.toArray (u 0 :: u 1 :: u 2 :: u 3 :: u 4 :: u 5 :: u 6 :: u 7 :: u 8 :: u 9 :: u 10 :: u 11 :: u 12 :: u 13 :: u 14 :: u 15 :: u 16 :: u 17 :: u 18 :: u 19 :: u 20 :: u 21 :: u 22 :: u 23 :: u 24 :: u 25 :: u 26 :: u 27 :: u 28 :: u 29 :: u 30 :: u 31 :: u 32 :: u 33 :: u 34 :: u 35 :: u 36 :: u 37 :: u 38 :: u 39 :: u 40 :: u 41 :: u 42 :: u 43 :: u 44 :: u 45 :: u 46 :: u 47 :: u 48 :: u 49 :: u 50 :: u 51 :: u 52 :: u 53 :: u 54 :: u 55 :: u 56 :: u 57 :: u 58 :: u 59 :: u 60 :: u 61 :: u 62 :: u 63 :: u 64 :: u 65 :: u 66 :: u 67 :: u 68 :: u 69 :: u 70 :: u 71 :: u 72 :: u 73 :: u 74 :: u 75 :: u 76 :: u 77 :: u 78 :: u 79 :: u 80 :: u 81 :: u 82 :: u 83 :: u 84 :: u 85 :: u 86 :: u 87 :: u 88 :: u 89 :: u 90 :: u 91 :: u 92 :: u 93 :: u 94 :: u 95 :: []) := by
  refine ⟨fun i => t.getD i undef, ?_⟩
  have e : (List.toArray ((fun i => t.getD i undef) 0 :: (fun i => t.getD i undef) 1 :: (fun i => t.getD i undef) 2 :: (fun i => t.getD i undef) 3 :: (fun i => t.getD i undef) 4 :: (fun i => t.getD i undef) 5 :: (fun i => t.getD i undef) 6 :: (fun i => t.getD i undef) 7 :: (fun i => t.getD i undef) 8 :: (fun i => t.getD i undef) 9 :: (fun i => t.getD i undef) 10 :: (fun i => t.getD i undef) 11 :: (fun i => t.getD i undef) 12 :: (fun i => t.getD i undef) 13 :: (fun i => t.getD i undef) 14 :: (fun i => t.getD i undef) 15 :: (fun i => t.getD i undef) 16 :: (fun i => t.getD i undef) 17 :: (fun i => t.getD i undef) 18 :: (fun i => t.getD i undef) 19 :: (fun i => t.getD i undef) 20 :: (fun i => t.getD i undef) 21 :: (fun i => t.getD i undef) 22 :: (fun i => t.getD i undef) 23 :: (fun i => t.getD i undef) 24 :: (fun i => t.getD i undef) 25 :: (fun i => t.getD i undef) 26 :: (fun i => t.getD i undef) 27 :: (fun i => t.getD i undef) 28 :: (fun i => t.getD i undef) 29 :: (fun i => t.getD i undef) 30 :: (fun i => t.getD i undef) 31 :: (fun i => t.getD i undef) 32 :: (fun i => t.getD i undef) 33 :: (fun i => t.getD i undef) 34 :: (fun i => t.getD i undef) 35 :: (fun i => t.getD i undef) 36 :: (fun i => t.getD i undef) 37 :: (fun i => t.getD i undef) 38 :: (fun i => t.getD i undef) 39 :: (fun i => t.getD i undef) 40 :: (fun i => t.getD i undef) 41 :: (fun i => t.getD i undef) 42 :: (fun i => t.getD i undef) 43 :: (fun i => t.getD i undef) 44 :: (fun i => t.getD i undef) 45 :: (fun i => t.getD i undef) 46 :: (fun i => t.getD i undef) 47 :: (fun i => t.getD i undef) 48 :: (fun i => t.getD i undef) 49 :: (fun i => t.getD i undef) 50 :: (fun i => t.getD i undef) 51 :: (fun i => t.getD i undef) 52 :: (fun i => t.getD i undef) 53 :: (fun i => t.getD i undef) 54 :: (fun i => t.getD i undef) 55 :: (fun i => t.getD i undef) 56 :: (fun i => t.getD i undef) 57 :: (fun i => t.getD i undef) 58 :: (fun i => t.getD i undef) 59 :: (fun i => t.getD i undef) 60 :: (fun i => t.getD i undef) 61 :: (fun i => t.getD i undef) 62 :: (fun i => t.getD i undef) 63 :: (fun i => t.getD i undef) 64 :: (fun i => t.getD i undef) 65 :: (fun i => t.getD i undef) 66 :: (fun i => t.getD i undef) 67 :: (fun i => t.getD i undef) 68 :: (fun i => t.getD i undef) 69 :: (fun i => t.getD i undef) 70 :: (fun i => t.getD i undef) 71 :: (fun i => t.getD i undef) 72 :: (fun i => t.getD i undef) 73 :: (fun i => t.getD i undef) 74 :: (fun i => t.getD i undef) 75 :: (fun i => t.getD i undef) 76 :: (fun i => t.getD i undef) 77 :: (fun i => t.getD i undef) 78 :: (fun i => t.getD i undef) 79 :: (fun i => t.getD i undef) 80 :: (fun i => t.getD i undef) 81 :: (fun i => t.getD i undef) 82 :: (fun i => t.getD i undef) 83 :: (fun i => t.getD i undef) 84 :: (fun i => t.getD i undef) 85 :: (fun i => t.getD i undef) 86 :: (fun i => t.getD i undef) 87 :: (fun i => t.getD i undef) 88 :: (fun i => t.getD i undef) 89 :: (fun i => t.getD i undef) 90 :: (fun i => t.getD i undef) 91 :: (fun i => t.getD i undef) 92 :: (fun i => t.getD i undef) 93 :: (fun i => t.getD i undef) 94 :: (fun i => t.getD i undef) 95 :: []) : Array Value) = ((List.range 96).map fun i => t.getD i undef).toArray := rfl
  refine Eq.trans ?_ e.symm
  apply Array.ext
  · simp [h]
  · intro k h1 h2
    simp [Array.getD, h1]
/-- The slots that matter. -/
structure Vzp where
  v0 : Value
  v1 : Value
  v2 : Value
  v3 : Value
  v6 : Value
  v7 : Value
  v8 : Value
  v9 : Value
  v10 : Value
  v11 : Value
  v12 : Value
  v13 : Value
structure Fzp (a : Act) (v : Vzp) : Prop where
  size : a.tmps.size = 96
  defers : a.defers = []
  s0 : a.tmps.getD 0 undef = v.v0
  s1 : a.tmps.getD 1 undef = v.v1
  s2 : a.tmps.getD 2 undef = v.v2
  s3 : a.tmps.getD 3 undef = v.v3
  s6 : a.tmps.getD 6 undef = v.v6
  s7 : a.tmps.getD 7 undef = v.v7
  s8 : a.tmps.getD 8 undef = v.v8
  s9 : a.tmps.getD 9 undef = v.v9
  s10 : a.tmps.getD 10 undef = v.v10
  s11 : a.tmps.getD 11 undef = v.v11
  s12 : a.tmps.getD 12 undef = v.v12
  s13 : a.tmps.getD 13 undef = v.v13
set_option maxHeartbeats 8000000 in
set_option maxRecDepth 100000 in
theorem zp_r0 {K : Act → World → Prop} {c : Code} (hc : regOf (Try.f17.body.getD .skip) 0 = some c) (a : Act) {v : Vzp} {wq : World} {xn xt : ByteArray} {xc xx : Int} (hF : Fzp a v) (h0v : v.v0 = .agg #[.string xn, .string xt, .int .i64 xc, .int .i64 xx]) (hQ : ∀ a', Fzp a' { v with v3 := .pointer (some ⟨wq.heap.size, 0, none⟩), v6 := .pointer (some ⟨wq.heap.size + 1, 0, none⟩), v7 := .slice none 0 0, v8 := .int .i64 0 } → K a' ((wq.alloc (.cells #[.string xn, .string xt, .int .i64 xc, .int .i64 xx] 37)).alloc (.cells #[.string ⟨#[]⟩, .string ⟨#[]⟩, .int .i64 0, .int .i64 0] 37))) :
    Code.wp Try.prog c (Exit.then K fun _ _ _ => False) a wq := by
  have HQ := hide hQ
  clear hQ
  obtain ⟨t', d'⟩ := a
  obtain ⟨v0, v1, v2, v3, v6, v7, v8, v9, v10, v11, v12, v13⟩ := v
  simp only at h0v HQ
  subst h0v
  obtain ⟨hs1, hd1, q0, q1, q2, q3, q6, q7, q8, q9, q10, q11, q12, q13⟩ := hF
  obtain ⟨u, hu⟩ := frame_zp t' hs1
  simp only at hd1 q0 q1 q2 q3 q6 q7 q8 q9 q10 q11 q12 q13
  subst hu hd1
  have e0 : u 0 = .agg #[.string xn, .string xt, .int .i64 xc, .int .i64 xx] := q0
  have e1 : u 1 = v1 := q1
  have e2 : u 2 = v2 := q2
  have e3 : u 3 = v3 := q3
  have e6 : u 6 = v6 := q6
  have e7 : u 7 = v7 := q7
  have e8 : u 8 = v8 := q8
  have e9 : u 9 = v9 := q9
  have e10 : u 10 = v10 := q10
  have e11 : u 11 = v11 := q11
  have e12 : u 12 = v12 := q12
  have e13 : u 13 = v13 := q13
  rw [e0, e1, e2, e3, e6, e7, e8, e9, e10, e11, e12, e13]
  clear q0 e0 q1 e1 q2 e2 q3 e3 q6 e6 q7 e7 q8 e8 q9 e9 q10 e10 q11 e11 q12 e12 q13 e13 hs1
  simp only [Try.f17, Option.getD_some, regOf] at hc
  injection hc with hc
  subst hc
  go_wp2
  exact HQ.out _ ⟨rfl, rfl, rfl, rfl, rfl, rfl, rfl, rfl, rfl, rfl, rfl, rfl, rfl, rfl⟩
set_option maxHeartbeats 8000000 in
set_option maxRecDepth 100000 in
theorem zp_r1 {K : Act → World → Prop} {c : Code} (hc : regOf (Try.f17.body.getD .skip) 1 = some c) (a : Act) {v : Vzp} {wq : World} {sb : Nat} {b : Bool} {xn xt : ByteArray} {xc xx : Int} (hF : Fzp a v) (h3v : v.v3 = .pointer (some ⟨sb, 0, none⟩)) (hSs : wq.heap[sb]? = some (.cells #[.string xn, .string xt, .int .i64 xc, .int .i64 xx] 37 (0, 0))) (hE : Calls Try.prog 26 #[.agg #[.string xn, .string xt, .int .i64 xc, .int .i64 xx]] wq fun e w' => e = .returned (.bool b) ∧ Below wq.heap.size wq w')
    (hQ : ∀ a' w', Fzp a' { v with v9 := .bool b } → Below wq.heap.size wq w' → K a' w') :
    Code.wp Try.prog c (Exit.then K fun _ _ _ => False) a wq := by
  have HQ := hide hQ
  clear hQ
  obtain ⟨t', d'⟩ := a
  obtain ⟨v0, v1, v2, v3, v6, v7, v8, v9, v10, v11, v12, v13⟩ := v
  simp only at h3v HQ
  subst h3v
  obtain ⟨hs1, hd1, q0, q1, q2, q3, q6, q7, q8, q9, q10, q11, q12, q13⟩ := hF
  obtain ⟨u, hu⟩ := frame_zp t' hs1
  simp only at hd1 q0 q1 q2 q3 q6 q7 q8 q9 q10 q11 q12 q13
  subst hu hd1
  have e0 : u 0 = v0 := q0
  have e1 : u 1 = v1 := q1
  have e2 : u 2 = v2 := q2
  have e3 : u 3 = .pointer (some ⟨sb, 0, none⟩) := q3
  have e6 : u 6 = v6 := q6
  have e7 : u 7 = v7 := q7
  have e8 : u 8 = v8 := q8
  have e9 : u 9 = v9 := q9
  have e10 : u 10 = v10 := q10
  have e11 : u 11 = v11 := q11
  have e12 : u 12 = v12 := q12
  have e13 : u 13 = v13 := q13
  rw [e0, e1, e2, e3, e6, e7, e8, e9, e10, e11, e12, e13]
  clear q0 e0 q1 e1 q2 e2 q3 e3 q6 e6 q7 e7 q8 e8 q9 e9 q10 e10 q11 e11 q12 e12 q13 e13 hs1
  simp only [Try.f17, Option.getD_some, regOf] at hc
  injection hc with hc
  subst hc
  have HE := hide hE
  obtain ⟨⟨c0, c1, c2, c3⟩, _⟩ := box4 hSs
  clear hE hSs
  go_wp2_with (go_at_call 26; refine HE.out.mono ?_; rintro e w1 ⟨rfl, b1⟩; have B1 := hide b1; clear b1)
  exact HQ.out _ _ ⟨rfl, rfl, rfl, rfl, rfl, rfl, rfl, rfl, rfl, rfl, rfl, rfl, rfl, rfl⟩ B1.out
set_option maxHeartbeats 8000000 in
set_option maxRecDepth 100000 in
theorem zp_r2c0 {K : Act → World → Prop} {c : Code} (hc : regOf (Try.f17.body.getD .skip) 2 = some c) (a : Act) {v : Vzp} {wq : World} {sb xb : Nat} {nm : ByteArray} {n fi : Int} {xn xt : ByteArray} {xc xx : Int} (hF : Fzp a v) (h1v : v.v1 = .pointer (some ⟨xb, 0, none⟩)) (h2v : v.v2 = .int .i64 n) (h3v : v.v3 = .pointer (some ⟨sb, 0, none⟩)) (h9v : v.v9 = .bool false) (hSs : wq.heap[sb]? = some (.cells #[.string xn, .string xt, .int .i64 xc, .int .i64 xx] 37 (0, 0))) (hlx : xb < wq.heap.size) (hx0 : wq.cell? ⟨xb, 0, none⟩ = some (.string nm)) (hx2 : wq.cell? ⟨xb, 2, none⟩ = some (.int .i64 fi))
    (hQ : ∀ a' w', Fzp a' v → a'.tmps.getD 43 undef = .bool true → Below wq.heap.size wq w' → K a' w') :
    Code.wp Try.prog c (Exit.then K fun _ _ _ => False) a wq := by
  have HQ := hide hQ
  clear hQ
  obtain ⟨t', d'⟩ := a
  obtain ⟨v0, v1, v2, v3, v6, v7, v8, v9, v10, v11, v12, v13⟩ := v
  simp only at h1v h2v h3v h9v HQ
  subst h1v h2v h3v h9v
  obtain ⟨hs1, hd1, q0, q1, q2, q3, q6, q7, q8, q9, q10, q11, q12, q13⟩ := hF
  obtain ⟨u, hu⟩ := frame_zp t' hs1
  simp only at hd1 q0 q1 q2 q3 q6 q7 q8 q9 q10 q11 q12 q13
  subst hu hd1
  have e0 : u 0 = v0 := q0
  have e1 : u 1 = .pointer (some ⟨xb, 0, none⟩) := q1
  have e2 : u 2 = .int .i64 n := q2
  have e3 : u 3 = .pointer (some ⟨sb, 0, none⟩) := q3
  have e6 : u 6 = v6 := q6
  have e7 : u 7 = v7 := q7
  have e8 : u 8 = v8 := q8
  have e9 : u 9 = .bool false := q9
  have e10 : u 10 = v10 := q10
  have e11 : u 11 = v11 := q11
  have e12 : u 12 = v12 := q12
  have e13 : u 13 = v13 := q13
  rw [e0, e1, e2, e3, e6, e7, e8, e9, e10, e11, e12, e13]
  clear q0 e0 q1 e1 q2 e2 q3 e3 q6 e6 q7 e7 q8 e8 q9 e9 q10 e10 q11 e11 q12 e12 q13 e13 hs1
  simp only [Try.f17, Option.getD_some, regOf] at hc
  injection hc with hc
  subst hc
  have HSS := hide hSs
  have HLS := hide (heap_lt hSs)
  have HLX := hide hlx
  have HX0 := hide hx0
  have HX2 := hide hx2
  clear hSs hlx hx0 hx2
  refine wp_region_phi (by kernel_rfl) (ns := 96) (uses := (fun i => match i with | 0 => [16] | 1 => [17] | 2 => [18] | 3 => [19] | 4 => [20] | 5 => [21] | 6 => [22] | 7 => [23] | 8 => [24] | 9 => [25] | 10 => [26] | 11 => [27] | 12 => [28] | 13 => [29] | 14 => [30] | 15 => [31] | 16 => [32] | 17 => [33] | 18 => [34] | 19 => [35] | 20 => [36] | 21 => [37] | 22 => [38] | 23 => [39] | 24 => [40] | 25 => [41] | 26 => [42] | 27 => [43] | _ => [])) (by kernel_rfl) (by kernel_rfl) (fun _ w w' => Below w.heap.size w w') (fun w => Below wq.heap.size wq w) (fun _ _ _ h r => h.trans (r.mono h.size)) ((Below.refl _ _).drew) (fun i => match i with | 0 => fun s w => s 16 = .bool false | 1 => fun s w => s 17 = .bool true | 2 => fun s w => s 18 = .bool true | 3 => fun s w => s 19 = undef | 4 => fun s w => s 20 = undef | 5 => fun s w => s 21 = undef | 6 => fun s w => s 22 = undef | 7 => fun s w => s 23 = undef | 8 => fun s w => s 24 = undef | 9 => fun s w => s 25 = undef | 10 => fun s w => s 26 = .bool true | 11 => fun s w => s 27 = .bool true | 12 => fun s w => s 28 = undef | 13 => fun s w => s 29 = undef | 14 => fun s w => s 30 = undef | 15 => fun s w => s 31 = undef | 16 => fun s w => s 32 = undef | 17 => fun s w => s 33 = undef | 18 => fun s w => s 34 = undef | 19 => fun s w => s 35 = .bool true | 20 => fun s w => s 36 = .bool true | 21 => fun s w => s 37 = undef | 22 => fun s w => s 38 = undef | 23 => fun s w => s 39 = .bool true | 24 => fun s w => s 40 = .bool true | 25 => fun s w => s 41 = undef | 26 => fun s w => s 42 = undef | 27 => fun s w => s 43 = .bool true | _ => fun _ _ => True) ?phc ?phh ?pstep ?pdone
  case phc =>
    intro i s s' w hx h
    match i, hx, h with
    | 0, hx, h => exact (hx 16 (by simp)).symm.trans h
    | 1, hx, h => exact (hx 17 (by simp)).symm.trans h
    | 2, hx, h => exact (hx 18 (by simp)).symm.trans h
    | 3, hx, h => exact (hx 19 (by simp)).symm.trans h
    | 4, hx, h => exact (hx 20 (by simp)).symm.trans h
    | 5, hx, h => exact (hx 21 (by simp)).symm.trans h
    | 6, hx, h => exact (hx 22 (by simp)).symm.trans h
    | 7, hx, h => exact (hx 23 (by simp)).symm.trans h
    | 8, hx, h => exact (hx 24 (by simp)).symm.trans h
    | 9, hx, h => exact (hx 25 (by simp)).symm.trans h
    | 10, hx, h => exact (hx 26 (by simp)).symm.trans h
    | 11, hx, h => exact (hx 27 (by simp)).symm.trans h
    | 12, hx, h => exact (hx 28 (by simp)).symm.trans h
    | 13, hx, h => exact (hx 29 (by simp)).symm.trans h
    | 14, hx, h => exact (hx 30 (by simp)).symm.trans h
    | 15, hx, h => exact (hx 31 (by simp)).symm.trans h
    | 16, hx, h => exact (hx 32 (by simp)).symm.trans h
    | 17, hx, h => exact (hx 33 (by simp)).symm.trans h
    | 18, hx, h => exact (hx 34 (by simp)).symm.trans h
    | 19, hx, h => exact (hx 35 (by simp)).symm.trans h
    | 20, hx, h => exact (hx 36 (by simp)).symm.trans h
    | 21, hx, h => exact (hx 37 (by simp)).symm.trans h
    | 22, hx, h => exact (hx 38 (by simp)).symm.trans h
    | 23, hx, h => exact (hx 39 (by simp)).symm.trans h
    | 24, hx, h => exact (hx 40 (by simp)).symm.trans h
    | 25, hx, h => exact (hx 41 (by simp)).symm.trans h
    | 26, hx, h => exact (hx 42 (by simp)).symm.trans h
    | 27, hx, h => exact (hx 43 (by simp)).symm.trans h
    | (n + 28), _, h => exact h
  case phh =>
    intro i j s w w' hij h hb r
    match i, hij, h with
    | 0, hij, h =>
      exact h
    | 1, hij, h =>
      exact h
    | 2, hij, h =>
      exact h
    | 3, hij, h =>
      exact h
    | 4, hij, h =>
      exact h
    | 5, hij, h =>
      exact h
    | 6, hij, h =>
      exact h
    | 7, hij, h =>
      exact h
    | 8, hij, h =>
      exact h
    | 9, hij, h =>
      exact h
    | 10, hij, h =>
      exact h
    | 11, hij, h =>
      exact h
    | 12, hij, h =>
      exact h
    | 13, hij, h =>
      exact h
    | 14, hij, h =>
      exact h
    | 15, hij, h =>
      exact h
    | 16, hij, h =>
      exact h
    | 17, hij, h =>
      exact h
    | 18, hij, h =>
      exact h
    | 19, hij, h =>
      exact h
    | 20, hij, h =>
      exact h
    | 21, hij, h =>
      exact h
    | 22, hij, h =>
      exact h
    | 23, hij, h =>
      exact h
    | 24, hij, h =>
      exact h
    | 25, hij, h =>
      exact h
    | 26, hij, h =>
      exact h
    | 27, hij, h =>
      exact h
    | (n + 28), _, h => exact h
  case pstep =>
    intro i o ho a' w' hsa hb hd
    match i, ho with
    | 0, ho =>
      obtain rfl := Option.some.inj ho
      try dsimp only at hd
      have g9 : a'.tmps.getD 9 undef = .bool false := hsa.rest 9 (by rfl)
      refine wpOp_of rfl rfl ?_
      refine op_run (v := .bool false) (w' := w') ?_ ⟨_, rfl, ?_, ?_⟩
      · simp only [execOp, Act.eval, g9]; first | (go_simp; done) | rfl
      · try dsimp only
        exact (slots_put (ns := 96) (hsa.size.trans rfl) (by decide))
      · exact Below.refl _ _
    | 1, ho =>
      obtain rfl := Option.some.inj ho
      try dsimp only at hd
      have d0 : a'.tmps.getD 16 undef = .bool false := hd 0 (by rfl)
      refine wpOp_of rfl rfl ?_
      refine op_run (v := .bool true) (w' := w') ?_ ⟨_, rfl, ?_, ?_⟩
      · simp only [execOp, Act.eval, d0]; first | (go_simp; done) | rfl
      · try dsimp only
        exact (slots_put (ns := 96) (hsa.size.trans rfl) (by decide))
      · exact Below.refl _ _
    | 2, ho =>
      obtain rfl := Option.some.inj ho
      try dsimp only at hd
      have d1 : a'.tmps.getD 17 undef = .bool true := hd 1 (by rfl)
      refine wpOp_of rfl rfl ?_
      refine op_run (v := .bool true) (w' := w') ?_ ⟨_, rfl, ?_, ?_⟩
      · simp only [execOp, Act.eval, d1]; first | (go_simp; done) | rfl
      · try dsimp only
        exact (slots_put (ns := 96) (hsa.size.trans rfl) (by decide))
      · exact Below.refl _ _
    | 3, ho =>
      obtain rfl := Option.some.inj ho
      try dsimp only at hd
      have d2 : a'.tmps.getD 18 undef = .bool true := hd 2 (by rfl)
      refine wpOp_off (j := 2) (dj := 18) rfl rfl rfl d2 (by simp [undef]) ⟨undef, rfl, ?_, ?_⟩
      · exact (slots_put (ns := 96) (hsa.size.trans rfl) (by decide))
      · exact Below.refl _ _
    | 4, ho =>
      obtain rfl := Option.some.inj ho
      try dsimp only at hd
      have d2 : a'.tmps.getD 18 undef = .bool true := hd 2 (by rfl)
      refine wpOp_off (j := 2) (dj := 18) rfl rfl rfl d2 (by simp [undef]) ⟨undef, rfl, ?_, ?_⟩
      · exact (slots_put (ns := 96) (hsa.size.trans rfl) (by decide))
      · exact Below.refl _ _
    | 5, ho =>
      obtain rfl := Option.some.inj ho
      try dsimp only at hd
      have d2 : a'.tmps.getD 18 undef = .bool true := hd 2 (by rfl)
      refine wpOp_off (j := 2) (dj := 18) rfl rfl rfl d2 (by simp [undef]) ⟨undef, rfl, ?_, ?_⟩
      · exact (slots_put (ns := 96) (hsa.size.trans rfl) (by decide))
      · exact Below.refl _ _
    | 6, ho =>
      obtain rfl := Option.some.inj ho
      try dsimp only at hd
      have d2 : a'.tmps.getD 18 undef = .bool true := hd 2 (by rfl)
      refine wpOp_off (j := 2) (dj := 18) rfl rfl rfl d2 (by simp [undef]) ⟨undef, rfl, ?_, ?_⟩
      · exact (slots_put (ns := 96) (hsa.size.trans rfl) (by decide))
      · exact Below.refl _ _
    | 7, ho =>
      obtain rfl := Option.some.inj ho
      try dsimp only at hd
      have d2 : a'.tmps.getD 18 undef = .bool true := hd 2 (by rfl)
      refine wpOp_off (j := 2) (dj := 18) rfl rfl rfl d2 (by simp [undef]) ⟨undef, rfl, ?_, ?_⟩
      · exact (slots_put (ns := 96) (hsa.size.trans rfl) (by decide))
      · exact Below.refl _ _
    | 8, ho =>
      obtain rfl := Option.some.inj ho
      try dsimp only at hd
      have d2 : a'.tmps.getD 18 undef = .bool true := hd 2 (by rfl)
      refine wpOp_off (j := 2) (dj := 18) rfl rfl rfl d2 (by simp [undef]) ⟨undef, rfl, ?_, ?_⟩
      · exact (slots_put (ns := 96) (hsa.size.trans rfl) (by decide))
      · exact Below.refl _ _
    | 9, ho =>
      obtain rfl := Option.some.inj ho
      try dsimp only at hd
      have d2 : a'.tmps.getD 18 undef = .bool true := hd 2 (by rfl)
      refine wpOp_off (j := 2) (dj := 18) rfl rfl rfl d2 (by simp [undef]) ⟨undef, rfl, ?_, ?_⟩
      · exact (slots_put (ns := 96) (hsa.size.trans rfl) (by decide))
      · exact Below.refl _ _
    | 10, ho =>
      obtain rfl := Option.some.inj ho
      try dsimp only at hd
      have d2 : a'.tmps.getD 18 undef = .bool true := hd 2 (by rfl)
      have d9 : a'.tmps.getD 25 undef = undef := hd 9 (by rfl)
      refine wpOp_of rfl rfl ?_
      refine op_run (v := .bool true) (w' := w') ?_ ⟨_, rfl, ?_, ?_⟩
      · simp only [execOp, Act.eval, d2, d9]; first | (go_simp; done) | rfl
      · try dsimp only
        exact (slots_put (ns := 96) (hsa.size.trans rfl) (by decide))
      · exact Below.refl _ _
    | 11, ho =>
      obtain rfl := Option.some.inj ho
      try dsimp only at hd
      have d10 : a'.tmps.getD 26 undef = .bool true := hd 10 (by rfl)
      refine wpOp_of rfl rfl ?_
      refine op_run (v := .bool true) (w' := w') ?_ ⟨_, rfl, ?_, ?_⟩
      · simp only [execOp, Act.eval, d10]; first | (go_simp; done) | rfl
      · try dsimp only
        exact (slots_put (ns := 96) (hsa.size.trans rfl) (by decide))
      · exact Below.refl _ _
    | 12, ho =>
      obtain rfl := Option.some.inj ho
      try dsimp only at hd
      have d11 : a'.tmps.getD 27 undef = .bool true := hd 11 (by rfl)
      refine wpOp_off (j := 11) (dj := 27) rfl rfl rfl d11 (by simp [undef]) ⟨undef, rfl, ?_, ?_⟩
      · exact (slots_put (ns := 96) (hsa.size.trans rfl) (by decide))
      · exact Below.refl _ _
    | 13, ho =>
      obtain rfl := Option.some.inj ho
      try dsimp only at hd
      have d11 : a'.tmps.getD 27 undef = .bool true := hd 11 (by rfl)
      refine wpOp_off (j := 11) (dj := 27) rfl rfl rfl d11 (by simp [undef]) ⟨undef, rfl, ?_, ?_⟩
      · exact (slots_put (ns := 96) (hsa.size.trans rfl) (by decide))
      · exact Below.refl _ _
    | 14, ho =>
      obtain rfl := Option.some.inj ho
      try dsimp only at hd
      have d11 : a'.tmps.getD 27 undef = .bool true := hd 11 (by rfl)
      refine wpOp_off (j := 11) (dj := 27) rfl rfl rfl d11 (by simp [undef]) ⟨undef, rfl, ?_, ?_⟩
      · exact (slots_put (ns := 96) (hsa.size.trans rfl) (by decide))
      · exact Below.refl _ _
    | 15, ho =>
      obtain rfl := Option.some.inj ho
      try dsimp only at hd
      have d11 : a'.tmps.getD 27 undef = .bool true := hd 11 (by rfl)
      refine wpOp_off (j := 11) (dj := 27) rfl rfl rfl d11 (by simp [undef]) ⟨undef, rfl, ?_, ?_⟩
      · exact (slots_put (ns := 96) (hsa.size.trans rfl) (by decide))
      · exact Below.refl _ _
    | 16, ho =>
      obtain rfl := Option.some.inj ho
      try dsimp only at hd
      have d11 : a'.tmps.getD 27 undef = .bool true := hd 11 (by rfl)
      refine wpOp_off (j := 11) (dj := 27) rfl rfl rfl d11 (by simp [undef]) ⟨undef, rfl, ?_, ?_⟩
      · exact (slots_put (ns := 96) (hsa.size.trans rfl) (by decide))
      · exact Below.refl _ _
    | 17, ho =>
      obtain rfl := Option.some.inj ho
      try dsimp only at hd
      have d11 : a'.tmps.getD 27 undef = .bool true := hd 11 (by rfl)
      refine wpOp_off (j := 11) (dj := 27) rfl rfl rfl d11 (by simp [undef]) ⟨undef, rfl, ?_, ?_⟩
      · exact (slots_put (ns := 96) (hsa.size.trans rfl) (by decide))
      · exact Below.refl _ _
    | 18, ho =>
      obtain rfl := Option.some.inj ho
      try dsimp only at hd
      have d11 : a'.tmps.getD 27 undef = .bool true := hd 11 (by rfl)
      refine wpOp_off (j := 11) (dj := 27) rfl rfl rfl d11 (by simp [undef]) ⟨undef, rfl, ?_, ?_⟩
      · exact (slots_put (ns := 96) (hsa.size.trans rfl) (by decide))
      · exact Below.refl _ _
    | 19, ho =>
      obtain rfl := Option.some.inj ho
      try dsimp only at hd
      have d11 : a'.tmps.getD 27 undef = .bool true := hd 11 (by rfl)
      have d18 : a'.tmps.getD 34 undef = undef := hd 18 (by rfl)
      refine wpOp_of rfl rfl ?_
      refine op_run (v := .bool true) (w' := w') ?_ ⟨_, rfl, ?_, ?_⟩
      · simp only [execOp, Act.eval, d11, d18]; first | (go_simp; done) | rfl
      · try dsimp only
        exact (slots_put (ns := 96) (hsa.size.trans rfl) (by decide))
      · exact Below.refl _ _
    | 20, ho =>
      obtain rfl := Option.some.inj ho
      try dsimp only at hd
      have d19 : a'.tmps.getD 35 undef = .bool true := hd 19 (by rfl)
      refine wpOp_of rfl rfl ?_
      refine op_run (v := .bool true) (w' := w') ?_ ⟨_, rfl, ?_, ?_⟩
      · simp only [execOp, Act.eval, d19]; first | (go_simp; done) | rfl
      · try dsimp only
        exact (slots_put (ns := 96) (hsa.size.trans rfl) (by decide))
      · exact Below.refl _ _
    | 21, ho =>
      obtain rfl := Option.some.inj ho
      try dsimp only at hd
      have d20 : a'.tmps.getD 36 undef = .bool true := hd 20 (by rfl)
      refine wpOp_off (j := 20) (dj := 36) rfl rfl rfl d20 (by simp [undef]) ⟨undef, rfl, ?_, ?_⟩
      · exact (slots_put (ns := 96) (hsa.size.trans rfl) (by decide))
      · exact Below.refl _ _
    | 22, ho =>
      obtain rfl := Option.some.inj ho
      try dsimp only at hd
      have d20 : a'.tmps.getD 36 undef = .bool true := hd 20 (by rfl)
      refine wpOp_off (j := 20) (dj := 36) rfl rfl rfl d20 (by simp [undef]) ⟨undef, rfl, ?_, ?_⟩
      · exact (slots_put (ns := 96) (hsa.size.trans rfl) (by decide))
      · exact Below.refl _ _
    | 23, ho =>
      obtain rfl := Option.some.inj ho
      try dsimp only at hd
      have d20 : a'.tmps.getD 36 undef = .bool true := hd 20 (by rfl)
      have d22 : a'.tmps.getD 38 undef = undef := hd 22 (by rfl)
      refine wpOp_of rfl rfl ?_
      refine op_run (v := .bool true) (w' := w') ?_ ⟨_, rfl, ?_, ?_⟩
      · simp only [execOp, Act.eval, d20, d22]; first | (go_simp; done) | rfl
      · try dsimp only
        exact (slots_put (ns := 96) (hsa.size.trans rfl) (by decide))
      · exact Below.refl _ _
    | 24, ho =>
      obtain rfl := Option.some.inj ho
      try dsimp only at hd
      have d23 : a'.tmps.getD 39 undef = .bool true := hd 23 (by rfl)
      refine wpOp_of rfl rfl ?_
      refine op_run (v := .bool true) (w' := w') ?_ ⟨_, rfl, ?_, ?_⟩
      · simp only [execOp, Act.eval, d23]; first | (go_simp; done) | rfl
      · try dsimp only
        exact (slots_put (ns := 96) (hsa.size.trans rfl) (by decide))
      · exact Below.refl _ _
    | 25, ho =>
      obtain rfl := Option.some.inj ho
      try dsimp only at hd
      have d24 : a'.tmps.getD 40 undef = .bool true := hd 24 (by rfl)
      refine wpOp_off (j := 24) (dj := 40) rfl rfl rfl d24 (by simp [undef]) ⟨undef, rfl, ?_, ?_⟩
      · exact (slots_put (ns := 96) (hsa.size.trans rfl) (by decide))
      · exact Below.refl _ _
    | 26, ho =>
      obtain rfl := Option.some.inj ho
      try dsimp only at hd
      have d24 : a'.tmps.getD 40 undef = .bool true := hd 24 (by rfl)
      refine wpOp_off (j := 24) (dj := 40) rfl rfl rfl d24 (by simp [undef]) ⟨undef, rfl, ?_, ?_⟩
      · exact (slots_put (ns := 96) (hsa.size.trans rfl) (by decide))
      · exact Below.refl _ _
    | 27, ho =>
      obtain rfl := Option.some.inj ho
      try dsimp only at hd
      have d24 : a'.tmps.getD 40 undef = .bool true := hd 24 (by rfl)
      have d26 : a'.tmps.getD 42 undef = undef := hd 26 (by rfl)
      refine wpOp_of rfl rfl ?_
      refine op_run (v := .bool true) (w' := w') ?_ ⟨_, rfl, ?_, ?_⟩
      · simp only [execOp, Act.eval, d24, d26]; first | (go_simp; done) | rfl
      · try dsimp only
        exact (slots_put (ns := 96) (hsa.size.trans rfl) (by decide))
      · exact Below.refl _ _
    | (n + 28), ho => exact absurd ho (by simp)
  case pdone =>
    intro a' w' hsa hb hd
    have d0 : a'.tmps.getD 16 undef = .bool false := hd 0 (by decide)
    have d1 : a'.tmps.getD 17 undef = .bool true := hd 1 (by decide)
    have d2 : a'.tmps.getD 18 undef = .bool true := hd 2 (by decide)
    have d3 : a'.tmps.getD 19 undef = undef := hd 3 (by decide)
    have d4 : a'.tmps.getD 20 undef = undef := hd 4 (by decide)
    have d5 : a'.tmps.getD 21 undef = undef := hd 5 (by decide)
    have d6 : a'.tmps.getD 22 undef = undef := hd 6 (by decide)
    have d7 : a'.tmps.getD 23 undef = undef := hd 7 (by decide)
    have d8 : a'.tmps.getD 24 undef = undef := hd 8 (by decide)
    have d9 : a'.tmps.getD 25 undef = undef := hd 9 (by decide)
    have d10 : a'.tmps.getD 26 undef = .bool true := hd 10 (by decide)
    have d11 : a'.tmps.getD 27 undef = .bool true := hd 11 (by decide)
    have d12 : a'.tmps.getD 28 undef = undef := hd 12 (by decide)
    have d13 : a'.tmps.getD 29 undef = undef := hd 13 (by decide)
    have d14 : a'.tmps.getD 30 undef = undef := hd 14 (by decide)
    have d15 : a'.tmps.getD 31 undef = undef := hd 15 (by decide)
    have d16 : a'.tmps.getD 32 undef = undef := hd 16 (by decide)
    have d17 : a'.tmps.getD 33 undef = undef := hd 17 (by decide)
    have d18 : a'.tmps.getD 34 undef = undef := hd 18 (by decide)
    have d19 : a'.tmps.getD 35 undef = .bool true := hd 19 (by decide)
    have d20 : a'.tmps.getD 36 undef = .bool true := hd 20 (by decide)
    have d21 : a'.tmps.getD 37 undef = undef := hd 21 (by decide)
    have d22 : a'.tmps.getD 38 undef = undef := hd 22 (by decide)
    have d23 : a'.tmps.getD 39 undef = .bool true := hd 23 (by decide)
    have d24 : a'.tmps.getD 40 undef = .bool true := hd 24 (by decide)
    have d25 : a'.tmps.getD 41 undef = undef := hd 25 (by decide)
    have d26 : a'.tmps.getD 42 undef = undef := hd 26 (by decide)
    have d27 : a'.tmps.getD 43 undef = .bool true := hd 27 (by decide)
    exact HQ.out _ _ ⟨hsa.size.trans rfl, hsa.defers.trans rfl, hsa.rest 0 (by rfl), hsa.rest 1 (by rfl), hsa.rest 2 (by rfl), hsa.rest 3 (by rfl), hsa.rest 6 (by rfl), hsa.rest 7 (by rfl), hsa.rest 8 (by rfl), hsa.rest 9 (by rfl), hsa.rest 10 (by rfl), hsa.rest 11 (by rfl), hsa.rest 12 (by rfl), hsa.rest 13 (by rfl)⟩ d27 hb
set_option maxHeartbeats 8000000 in
set_option maxRecDepth 100000 in
theorem zp_r2c1 {K : Act → World → Prop} {c : Code} (hc : regOf (Try.f17.body.getD .skip) 2 = some c) (a : Act) {v : Vzp} {wq : World} {sb xb : Nat} {nm : ByteArray} {n fi : Int} {xn xt : ByteArray} {xc xx : Int} (hF : Fzp a v) (h1v : v.v1 = .pointer (some ⟨xb, 0, none⟩)) (h2v : v.v2 = .int .i64 n) (h3v : v.v3 = .pointer (some ⟨sb, 0, none⟩)) (h9v : v.v9 = .bool true) (hSs : wq.heap[sb]? = some (.cells #[.string xn, .string xt, .int .i64 xc, .int .i64 xx] 37 (0, 0))) (hlx : xb < wq.heap.size) (hx0 : wq.cell? ⟨xb, 0, none⟩ = some (.string nm)) (hx2 : wq.cell? ⟨xb, 2, none⟩ = some (.int .i64 fi)) (hn : (xt.toList == nm.toList) = false)
    (hQ : ∀ a' w', Fzp a' v → a'.tmps.getD 43 undef = .bool true → Below wq.heap.size wq w' → K a' w') :
    Code.wp Try.prog c (Exit.then K fun _ _ _ => False) a wq := by
  have HQ := hide hQ
  clear hQ
  obtain ⟨t', d'⟩ := a
  obtain ⟨v0, v1, v2, v3, v6, v7, v8, v9, v10, v11, v12, v13⟩ := v
  simp only at h1v h2v h3v h9v HQ
  subst h1v h2v h3v h9v
  obtain ⟨hs1, hd1, q0, q1, q2, q3, q6, q7, q8, q9, q10, q11, q12, q13⟩ := hF
  obtain ⟨u, hu⟩ := frame_zp t' hs1
  simp only at hd1 q0 q1 q2 q3 q6 q7 q8 q9 q10 q11 q12 q13
  subst hu hd1
  have e0 : u 0 = v0 := q0
  have e1 : u 1 = .pointer (some ⟨xb, 0, none⟩) := q1
  have e2 : u 2 = .int .i64 n := q2
  have e3 : u 3 = .pointer (some ⟨sb, 0, none⟩) := q3
  have e6 : u 6 = v6 := q6
  have e7 : u 7 = v7 := q7
  have e8 : u 8 = v8 := q8
  have e9 : u 9 = .bool true := q9
  have e10 : u 10 = v10 := q10
  have e11 : u 11 = v11 := q11
  have e12 : u 12 = v12 := q12
  have e13 : u 13 = v13 := q13
  rw [e0, e1, e2, e3, e6, e7, e8, e9, e10, e11, e12, e13]
  clear q0 e0 q1 e1 q2 e2 q3 e3 q6 e6 q7 e7 q8 e8 q9 e9 q10 e10 q11 e11 q12 e12 q13 e13 hs1
  simp only [Try.f17, Option.getD_some, regOf] at hc
  injection hc with hc
  subst hc
  have HSS := hide hSs
  have HLS := hide (heap_lt hSs)
  have HLX := hide hlx
  have HX0 := hide hx0
  have HX2 := hide hx2
  clear hSs hlx hx0 hx2
  have HN := hide hn
  clear hn
  refine wp_region_phi (by kernel_rfl) (ns := 96) (uses := (fun i => match i with | 0 => [16] | 1 => [17] | 2 => [18] | 3 => [19] | 4 => [20] | 5 => [21] | 6 => [22] | 7 => [23] | 8 => [24] | 9 => [25] | 10 => [26] | 11 => [27] | 12 => [28] | 13 => [29] | 14 => [30] | 15 => [31] | 16 => [32] | 17 => [33] | 18 => [34] | 19 => [35] | 20 => [36] | 21 => [37] | 22 => [38] | 23 => [39] | 24 => [40] | 25 => [41] | 26 => [42] | 27 => [43] | _ => [])) (by kernel_rfl) (by kernel_rfl) (fun _ w w' => Below w.heap.size w w') (fun w => Below wq.heap.size wq w) (fun _ _ _ h r => h.trans (r.mono h.size)) ((Below.refl _ _).drew) (fun i => match i with | 0 => fun s w => s 16 = .bool true | 1 => fun s w => s 17 = .bool false | 2 => fun s w => s 18 = .bool false | 3 => fun s w => s 19 = .pointer (some ⟨sb, 1, none⟩) | 4 => fun s w => s 20 = .string xt | 5 => fun s w => s 21 = .pointer (some ⟨xb, 0, none⟩) | 6 => fun s w => s 22 = .pointer (some ⟨xb, 0, none⟩) | 7 => fun s w => s 23 = .pointer (some ⟨xb, 0, none⟩) | 8 => fun s w => s 24 = .string nm | 9 => fun s w => s 25 = .bool true | 10 => fun s w => s 26 = .bool true | 11 => fun s w => s 27 = .bool true | 12 => fun s w => s 28 = undef | 13 => fun s w => s 29 = undef | 14 => fun s w => s 30 = undef | 15 => fun s w => s 31 = undef | 16 => fun s w => s 32 = undef | 17 => fun s w => s 33 = undef | 18 => fun s w => s 34 = undef | 19 => fun s w => s 35 = .bool true | 20 => fun s w => s 36 = .bool true | 21 => fun s w => s 37 = undef | 22 => fun s w => s 38 = undef | 23 => fun s w => s 39 = .bool true | 24 => fun s w => s 40 = .bool true | 25 => fun s w => s 41 = undef | 26 => fun s w => s 42 = undef | 27 => fun s w => s 43 = .bool true | _ => fun _ _ => True) ?phc ?phh ?pstep ?pdone
  case phc =>
    intro i s s' w hx h
    match i, hx, h with
    | 0, hx, h => exact (hx 16 (by simp)).symm.trans h
    | 1, hx, h => exact (hx 17 (by simp)).symm.trans h
    | 2, hx, h => exact (hx 18 (by simp)).symm.trans h
    | 3, hx, h => exact (hx 19 (by simp)).symm.trans h
    | 4, hx, h => exact (hx 20 (by simp)).symm.trans h
    | 5, hx, h => exact (hx 21 (by simp)).symm.trans h
    | 6, hx, h => exact (hx 22 (by simp)).symm.trans h
    | 7, hx, h => exact (hx 23 (by simp)).symm.trans h
    | 8, hx, h => exact (hx 24 (by simp)).symm.trans h
    | 9, hx, h => exact (hx 25 (by simp)).symm.trans h
    | 10, hx, h => exact (hx 26 (by simp)).symm.trans h
    | 11, hx, h => exact (hx 27 (by simp)).symm.trans h
    | 12, hx, h => exact (hx 28 (by simp)).symm.trans h
    | 13, hx, h => exact (hx 29 (by simp)).symm.trans h
    | 14, hx, h => exact (hx 30 (by simp)).symm.trans h
    | 15, hx, h => exact (hx 31 (by simp)).symm.trans h
    | 16, hx, h => exact (hx 32 (by simp)).symm.trans h
    | 17, hx, h => exact (hx 33 (by simp)).symm.trans h
    | 18, hx, h => exact (hx 34 (by simp)).symm.trans h
    | 19, hx, h => exact (hx 35 (by simp)).symm.trans h
    | 20, hx, h => exact (hx 36 (by simp)).symm.trans h
    | 21, hx, h => exact (hx 37 (by simp)).symm.trans h
    | 22, hx, h => exact (hx 38 (by simp)).symm.trans h
    | 23, hx, h => exact (hx 39 (by simp)).symm.trans h
    | 24, hx, h => exact (hx 40 (by simp)).symm.trans h
    | 25, hx, h => exact (hx 41 (by simp)).symm.trans h
    | 26, hx, h => exact (hx 42 (by simp)).symm.trans h
    | 27, hx, h => exact (hx 43 (by simp)).symm.trans h
    | (n + 28), _, h => exact h
  case phh =>
    intro i j s w w' hij h hb r
    match i, hij, h with
    | 0, hij, h =>
      exact h
    | 1, hij, h =>
      exact h
    | 2, hij, h =>
      exact h
    | 3, hij, h =>
      exact h
    | 4, hij, h =>
      exact h
    | 5, hij, h =>
      exact h
    | 6, hij, h =>
      exact h
    | 7, hij, h =>
      exact h
    | 8, hij, h =>
      exact h
    | 9, hij, h =>
      exact h
    | 10, hij, h =>
      exact h
    | 11, hij, h =>
      exact h
    | 12, hij, h =>
      exact h
    | 13, hij, h =>
      exact h
    | 14, hij, h =>
      exact h
    | 15, hij, h =>
      exact h
    | 16, hij, h =>
      exact h
    | 17, hij, h =>
      exact h
    | 18, hij, h =>
      exact h
    | 19, hij, h =>
      exact h
    | 20, hij, h =>
      exact h
    | 21, hij, h =>
      exact h
    | 22, hij, h =>
      exact h
    | 23, hij, h =>
      exact h
    | 24, hij, h =>
      exact h
    | 25, hij, h =>
      exact h
    | 26, hij, h =>
      exact h
    | 27, hij, h =>
      exact h
    | (n + 28), _, h => exact h
  case pstep =>
    intro i o ho a' w' hsa hb hd
    match i, ho with
    | 0, ho =>
      obtain rfl := Option.some.inj ho
      try dsimp only at hd
      have g9 : a'.tmps.getD 9 undef = .bool true := hsa.rest 9 (by rfl)
      refine wpOp_of rfl rfl ?_
      refine op_run (v := .bool true) (w' := w') ?_ ⟨_, rfl, ?_, ?_⟩
      · simp only [execOp, Act.eval, g9]; first | (go_simp; done) | rfl
      · try dsimp only
        exact (slots_put (ns := 96) (hsa.size.trans rfl) (by decide))
      · exact Below.refl _ _
    | 1, ho =>
      obtain rfl := Option.some.inj ho
      try dsimp only at hd
      have d0 : a'.tmps.getD 16 undef = .bool true := hd 0 (by rfl)
      refine wpOp_of rfl rfl ?_
      refine op_run (v := .bool false) (w' := w') ?_ ⟨_, rfl, ?_, ?_⟩
      · simp only [execOp, Act.eval, d0]; first | (go_simp; done) | rfl
      · try dsimp only
        exact (slots_put (ns := 96) (hsa.size.trans rfl) (by decide))
      · exact Below.refl _ _
    | 2, ho =>
      obtain rfl := Option.some.inj ho
      try dsimp only at hd
      have d1 : a'.tmps.getD 17 undef = .bool false := hd 1 (by rfl)
      refine wpOp_of rfl rfl ?_
      refine op_run (v := .bool false) (w' := w') ?_ ⟨_, rfl, ?_, ?_⟩
      · simp only [execOp, Act.eval, d1]; first | (go_simp; done) | rfl
      · try dsimp only
        exact (slots_put (ns := 96) (hsa.size.trans rfl) (by decide))
      · exact Below.refl _ _
    | 3, ho =>
      obtain rfl := Option.some.inj ho
      try dsimp only at hd
      have d2 : a'.tmps.getD 18 undef = .bool false := hd 2 (by rfl)
      have g3 : a'.tmps.getD 3 undef = .pointer (some ⟨sb, 0, none⟩) := hsa.rest 3 (by rfl)
      refine wpOp_on (j := 2) (dj := 18) rfl rfl rfl d2 ?_
      refine op_run (v := .pointer (some ⟨sb, 1, none⟩)) (w' := w') ?_ ⟨_, rfl, ?_, ?_⟩
      · simp only [execOp, Act.eval, d2, g3]; first | (go_simp; done) | rfl
      · try dsimp only
        exact (slots_put (ns := 96) (hsa.size.trans rfl) (by decide))
      · exact Below.refl _ _
    | 4, ho =>
      obtain rfl := Option.some.inj ho
      try dsimp only at hd
      have d2 : a'.tmps.getD 18 undef = .bool false := hd 2 (by rfl)
      have d3 : a'.tmps.getD 19 undef = .pointer (some ⟨sb, 1, none⟩) := hd 3 (by rfl)
      have y : w'.cell? ⟨sb, 1, none⟩ = some (.string xt) := (hb.cell (p := ⟨sb, 1, none⟩) HLS.out).trans (box_cell HSS.out 1 rfl)
      refine wpOp_on (j := 2) (dj := 18) rfl rfl rfl d2 ?_
      refine op_run (v := .string xt) (w' := w') ?_ ⟨_, rfl, ?_, ?_⟩
      · simp only [execOp, Act.eval, d2, d3, y]; first | (go_simp; done) | rfl
      · try dsimp only
        exact (slots_put (ns := 96) (hsa.size.trans rfl) (by decide))
      · exact Below.refl _ _
    | 5, ho =>
      obtain rfl := Option.some.inj ho
      try dsimp only at hd
      have d2 : a'.tmps.getD 18 undef = .bool false := hd 2 (by rfl)
      have g1 : a'.tmps.getD 1 undef = .pointer (some ⟨xb, 0, none⟩) := hsa.rest 1 (by rfl)
      refine wpOp_on (j := 2) (dj := 18) rfl rfl rfl d2 ?_
      refine op_run (v := .pointer (some ⟨xb, 0, none⟩)) (w' := w') ?_ ⟨_, rfl, ?_, ?_⟩
      · simp only [execOp, Act.eval, d2, g1]; first | (go_simp; done) | rfl
      · try dsimp only
        exact (slots_put (ns := 96) (hsa.size.trans rfl) (by decide))
      · exact Below.refl _ _
    | 6, ho =>
      obtain rfl := Option.some.inj ho
      try dsimp only at hd
      have d2 : a'.tmps.getD 18 undef = .bool false := hd 2 (by rfl)
      have d5 : a'.tmps.getD 21 undef = .pointer (some ⟨xb, 0, none⟩) := hd 5 (by rfl)
      refine wpOp_on (j := 2) (dj := 18) rfl rfl rfl d2 ?_
      refine op_run (v := .pointer (some ⟨xb, 0, none⟩)) (w' := w') ?_ ⟨_, rfl, ?_, ?_⟩
      · simp only [execOp, Act.eval, d2, d5]; first | (go_simp; done) | rfl
      · try dsimp only
        exact (slots_put (ns := 96) (hsa.size.trans rfl) (by decide))
      · exact Below.refl _ _
    | 7, ho =>
      obtain rfl := Option.some.inj ho
      try dsimp only at hd
      have d2 : a'.tmps.getD 18 undef = .bool false := hd 2 (by rfl)
      have d6 : a'.tmps.getD 22 undef = .pointer (some ⟨xb, 0, none⟩) := hd 6 (by rfl)
      refine wpOp_on (j := 2) (dj := 18) rfl rfl rfl d2 ?_
      refine op_run (v := .pointer (some ⟨xb, 0, none⟩)) (w' := w') ?_ ⟨_, rfl, ?_, ?_⟩
      · simp only [execOp, Act.eval, d2, d6]; first | (go_simp; done) | rfl
      · try dsimp only
        exact (slots_put (ns := 96) (hsa.size.trans rfl) (by decide))
      · exact Below.refl _ _
    | 8, ho =>
      obtain rfl := Option.some.inj ho
      try dsimp only at hd
      have d2 : a'.tmps.getD 18 undef = .bool false := hd 2 (by rfl)
      have d7 : a'.tmps.getD 23 undef = .pointer (some ⟨xb, 0, none⟩) := hd 7 (by rfl)
      have y : w'.cell? ⟨xb, 0, none⟩ = some (.string nm) := (hb.cell (p := ⟨xb, 0, none⟩) HLX.out).trans HX0.out
      refine wpOp_on (j := 2) (dj := 18) rfl rfl rfl d2 ?_
      refine op_run (v := .string nm) (w' := w') ?_ ⟨_, rfl, ?_, ?_⟩
      · simp only [execOp, Act.eval, d2, d7, y]; first | (go_simp; done) | rfl
      · try dsimp only
        exact (slots_put (ns := 96) (hsa.size.trans rfl) (by decide))
      · exact Below.refl _ _
    | 9, ho =>
      obtain rfl := Option.some.inj ho
      try dsimp only at hd
      have d2 : a'.tmps.getD 18 undef = .bool false := hd 2 (by rfl)
      have d4 : a'.tmps.getD 20 undef = .string xt := hd 4 (by rfl)
      have d8 : a'.tmps.getD 24 undef = .string nm := hd 8 (by rfl)
      have y := HN.out
      refine wpOp_on (j := 2) (dj := 18) rfl rfl rfl d2 ?_
      refine op_run (v := .bool true) (w' := w') ?_ ⟨_, rfl, ?_, ?_⟩
      · simp only [execOp, Act.eval, d2, d4, d8, y]; first | (go_simp; done) | rfl
      · try dsimp only
        exact (slots_put (ns := 96) (hsa.size.trans rfl) (by decide))
      · exact Below.refl _ _
    | 10, ho =>
      obtain rfl := Option.some.inj ho
      try dsimp only at hd
      have d2 : a'.tmps.getD 18 undef = .bool false := hd 2 (by rfl)
      have d9 : a'.tmps.getD 25 undef = .bool true := hd 9 (by rfl)
      refine wpOp_of rfl rfl ?_
      refine op_run (v := .bool true) (w' := w') ?_ ⟨_, rfl, ?_, ?_⟩
      · simp only [execOp, Act.eval, d2, d9]; first | (go_simp; done) | rfl
      · try dsimp only
        exact (slots_put (ns := 96) (hsa.size.trans rfl) (by decide))
      · exact Below.refl _ _
    | 11, ho =>
      obtain rfl := Option.some.inj ho
      try dsimp only at hd
      have d10 : a'.tmps.getD 26 undef = .bool true := hd 10 (by rfl)
      refine wpOp_of rfl rfl ?_
      refine op_run (v := .bool true) (w' := w') ?_ ⟨_, rfl, ?_, ?_⟩
      · simp only [execOp, Act.eval, d10]; first | (go_simp; done) | rfl
      · try dsimp only
        exact (slots_put (ns := 96) (hsa.size.trans rfl) (by decide))
      · exact Below.refl _ _
    | 12, ho =>
      obtain rfl := Option.some.inj ho
      try dsimp only at hd
      have d11 : a'.tmps.getD 27 undef = .bool true := hd 11 (by rfl)
      refine wpOp_off (j := 11) (dj := 27) rfl rfl rfl d11 (by simp [undef]) ⟨undef, rfl, ?_, ?_⟩
      · exact (slots_put (ns := 96) (hsa.size.trans rfl) (by decide))
      · exact Below.refl _ _
    | 13, ho =>
      obtain rfl := Option.some.inj ho
      try dsimp only at hd
      have d11 : a'.tmps.getD 27 undef = .bool true := hd 11 (by rfl)
      refine wpOp_off (j := 11) (dj := 27) rfl rfl rfl d11 (by simp [undef]) ⟨undef, rfl, ?_, ?_⟩
      · exact (slots_put (ns := 96) (hsa.size.trans rfl) (by decide))
      · exact Below.refl _ _
    | 14, ho =>
      obtain rfl := Option.some.inj ho
      try dsimp only at hd
      have d11 : a'.tmps.getD 27 undef = .bool true := hd 11 (by rfl)
      refine wpOp_off (j := 11) (dj := 27) rfl rfl rfl d11 (by simp [undef]) ⟨undef, rfl, ?_, ?_⟩
      · exact (slots_put (ns := 96) (hsa.size.trans rfl) (by decide))
      · exact Below.refl _ _
    | 15, ho =>
      obtain rfl := Option.some.inj ho
      try dsimp only at hd
      have d11 : a'.tmps.getD 27 undef = .bool true := hd 11 (by rfl)
      refine wpOp_off (j := 11) (dj := 27) rfl rfl rfl d11 (by simp [undef]) ⟨undef, rfl, ?_, ?_⟩
      · exact (slots_put (ns := 96) (hsa.size.trans rfl) (by decide))
      · exact Below.refl _ _
    | 16, ho =>
      obtain rfl := Option.some.inj ho
      try dsimp only at hd
      have d11 : a'.tmps.getD 27 undef = .bool true := hd 11 (by rfl)
      refine wpOp_off (j := 11) (dj := 27) rfl rfl rfl d11 (by simp [undef]) ⟨undef, rfl, ?_, ?_⟩
      · exact (slots_put (ns := 96) (hsa.size.trans rfl) (by decide))
      · exact Below.refl _ _
    | 17, ho =>
      obtain rfl := Option.some.inj ho
      try dsimp only at hd
      have d11 : a'.tmps.getD 27 undef = .bool true := hd 11 (by rfl)
      refine wpOp_off (j := 11) (dj := 27) rfl rfl rfl d11 (by simp [undef]) ⟨undef, rfl, ?_, ?_⟩
      · exact (slots_put (ns := 96) (hsa.size.trans rfl) (by decide))
      · exact Below.refl _ _
    | 18, ho =>
      obtain rfl := Option.some.inj ho
      try dsimp only at hd
      have d11 : a'.tmps.getD 27 undef = .bool true := hd 11 (by rfl)
      refine wpOp_off (j := 11) (dj := 27) rfl rfl rfl d11 (by simp [undef]) ⟨undef, rfl, ?_, ?_⟩
      · exact (slots_put (ns := 96) (hsa.size.trans rfl) (by decide))
      · exact Below.refl _ _
    | 19, ho =>
      obtain rfl := Option.some.inj ho
      try dsimp only at hd
      have d11 : a'.tmps.getD 27 undef = .bool true := hd 11 (by rfl)
      have d18 : a'.tmps.getD 34 undef = undef := hd 18 (by rfl)
      refine wpOp_of rfl rfl ?_
      refine op_run (v := .bool true) (w' := w') ?_ ⟨_, rfl, ?_, ?_⟩
      · simp only [execOp, Act.eval, d11, d18]; first | (go_simp; done) | rfl
      · try dsimp only
        exact (slots_put (ns := 96) (hsa.size.trans rfl) (by decide))
      · exact Below.refl _ _
    | 20, ho =>
      obtain rfl := Option.some.inj ho
      try dsimp only at hd
      have d19 : a'.tmps.getD 35 undef = .bool true := hd 19 (by rfl)
      refine wpOp_of rfl rfl ?_
      refine op_run (v := .bool true) (w' := w') ?_ ⟨_, rfl, ?_, ?_⟩
      · simp only [execOp, Act.eval, d19]; first | (go_simp; done) | rfl
      · try dsimp only
        exact (slots_put (ns := 96) (hsa.size.trans rfl) (by decide))
      · exact Below.refl _ _
    | 21, ho =>
      obtain rfl := Option.some.inj ho
      try dsimp only at hd
      have d20 : a'.tmps.getD 36 undef = .bool true := hd 20 (by rfl)
      refine wpOp_off (j := 20) (dj := 36) rfl rfl rfl d20 (by simp [undef]) ⟨undef, rfl, ?_, ?_⟩
      · exact (slots_put (ns := 96) (hsa.size.trans rfl) (by decide))
      · exact Below.refl _ _
    | 22, ho =>
      obtain rfl := Option.some.inj ho
      try dsimp only at hd
      have d20 : a'.tmps.getD 36 undef = .bool true := hd 20 (by rfl)
      refine wpOp_off (j := 20) (dj := 36) rfl rfl rfl d20 (by simp [undef]) ⟨undef, rfl, ?_, ?_⟩
      · exact (slots_put (ns := 96) (hsa.size.trans rfl) (by decide))
      · exact Below.refl _ _
    | 23, ho =>
      obtain rfl := Option.some.inj ho
      try dsimp only at hd
      have d20 : a'.tmps.getD 36 undef = .bool true := hd 20 (by rfl)
      have d22 : a'.tmps.getD 38 undef = undef := hd 22 (by rfl)
      refine wpOp_of rfl rfl ?_
      refine op_run (v := .bool true) (w' := w') ?_ ⟨_, rfl, ?_, ?_⟩
      · simp only [execOp, Act.eval, d20, d22]; first | (go_simp; done) | rfl
      · try dsimp only
        exact (slots_put (ns := 96) (hsa.size.trans rfl) (by decide))
      · exact Below.refl _ _
    | 24, ho =>
      obtain rfl := Option.some.inj ho
      try dsimp only at hd
      have d23 : a'.tmps.getD 39 undef = .bool true := hd 23 (by rfl)
      refine wpOp_of rfl rfl ?_
      refine op_run (v := .bool true) (w' := w') ?_ ⟨_, rfl, ?_, ?_⟩
      · simp only [execOp, Act.eval, d23]; first | (go_simp; done) | rfl
      · try dsimp only
        exact (slots_put (ns := 96) (hsa.size.trans rfl) (by decide))
      · exact Below.refl _ _
    | 25, ho =>
      obtain rfl := Option.some.inj ho
      try dsimp only at hd
      have d24 : a'.tmps.getD 40 undef = .bool true := hd 24 (by rfl)
      refine wpOp_off (j := 24) (dj := 40) rfl rfl rfl d24 (by simp [undef]) ⟨undef, rfl, ?_, ?_⟩
      · exact (slots_put (ns := 96) (hsa.size.trans rfl) (by decide))
      · exact Below.refl _ _
    | 26, ho =>
      obtain rfl := Option.some.inj ho
      try dsimp only at hd
      have d24 : a'.tmps.getD 40 undef = .bool true := hd 24 (by rfl)
      refine wpOp_off (j := 24) (dj := 40) rfl rfl rfl d24 (by simp [undef]) ⟨undef, rfl, ?_, ?_⟩
      · exact (slots_put (ns := 96) (hsa.size.trans rfl) (by decide))
      · exact Below.refl _ _
    | 27, ho =>
      obtain rfl := Option.some.inj ho
      try dsimp only at hd
      have d24 : a'.tmps.getD 40 undef = .bool true := hd 24 (by rfl)
      have d26 : a'.tmps.getD 42 undef = undef := hd 26 (by rfl)
      refine wpOp_of rfl rfl ?_
      refine op_run (v := .bool true) (w' := w') ?_ ⟨_, rfl, ?_, ?_⟩
      · simp only [execOp, Act.eval, d24, d26]; first | (go_simp; done) | rfl
      · try dsimp only
        exact (slots_put (ns := 96) (hsa.size.trans rfl) (by decide))
      · exact Below.refl _ _
    | (n + 28), ho => exact absurd ho (by simp)
  case pdone =>
    intro a' w' hsa hb hd
    have d0 : a'.tmps.getD 16 undef = .bool true := hd 0 (by decide)
    have d1 : a'.tmps.getD 17 undef = .bool false := hd 1 (by decide)
    have d2 : a'.tmps.getD 18 undef = .bool false := hd 2 (by decide)
    have d3 : a'.tmps.getD 19 undef = .pointer (some ⟨sb, 1, none⟩) := hd 3 (by decide)
    have d4 : a'.tmps.getD 20 undef = .string xt := hd 4 (by decide)
    have d5 : a'.tmps.getD 21 undef = .pointer (some ⟨xb, 0, none⟩) := hd 5 (by decide)
    have d6 : a'.tmps.getD 22 undef = .pointer (some ⟨xb, 0, none⟩) := hd 6 (by decide)
    have d7 : a'.tmps.getD 23 undef = .pointer (some ⟨xb, 0, none⟩) := hd 7 (by decide)
    have d8 : a'.tmps.getD 24 undef = .string nm := hd 8 (by decide)
    have d9 : a'.tmps.getD 25 undef = .bool true := hd 9 (by decide)
    have d10 : a'.tmps.getD 26 undef = .bool true := hd 10 (by decide)
    have d11 : a'.tmps.getD 27 undef = .bool true := hd 11 (by decide)
    have d12 : a'.tmps.getD 28 undef = undef := hd 12 (by decide)
    have d13 : a'.tmps.getD 29 undef = undef := hd 13 (by decide)
    have d14 : a'.tmps.getD 30 undef = undef := hd 14 (by decide)
    have d15 : a'.tmps.getD 31 undef = undef := hd 15 (by decide)
    have d16 : a'.tmps.getD 32 undef = undef := hd 16 (by decide)
    have d17 : a'.tmps.getD 33 undef = undef := hd 17 (by decide)
    have d18 : a'.tmps.getD 34 undef = undef := hd 18 (by decide)
    have d19 : a'.tmps.getD 35 undef = .bool true := hd 19 (by decide)
    have d20 : a'.tmps.getD 36 undef = .bool true := hd 20 (by decide)
    have d21 : a'.tmps.getD 37 undef = undef := hd 21 (by decide)
    have d22 : a'.tmps.getD 38 undef = undef := hd 22 (by decide)
    have d23 : a'.tmps.getD 39 undef = .bool true := hd 23 (by decide)
    have d24 : a'.tmps.getD 40 undef = .bool true := hd 24 (by decide)
    have d25 : a'.tmps.getD 41 undef = undef := hd 25 (by decide)
    have d26 : a'.tmps.getD 42 undef = undef := hd 26 (by decide)
    have d27 : a'.tmps.getD 43 undef = .bool true := hd 27 (by decide)
    exact HQ.out _ _ ⟨hsa.size.trans rfl, hsa.defers.trans rfl, hsa.rest 0 (by rfl), hsa.rest 1 (by rfl), hsa.rest 2 (by rfl), hsa.rest 3 (by rfl), hsa.rest 6 (by rfl), hsa.rest 7 (by rfl), hsa.rest 8 (by rfl), hsa.rest 9 (by rfl), hsa.rest 10 (by rfl), hsa.rest 11 (by rfl), hsa.rest 12 (by rfl), hsa.rest 13 (by rfl)⟩ d27 hb
set_option maxHeartbeats 8000000 in
set_option maxRecDepth 100000 in
theorem zp_r2c2 {K : Act → World → Prop} {c : Code} (hc : regOf (Try.f17.body.getD .skip) 2 = some c) (a : Act) {v : Vzp} {wq : World} {sb xb : Nat} {nm : ByteArray} {n fi : Int} {xn xt : ByteArray} {xc xx : Int} (hF : Fzp a v) (h1v : v.v1 = .pointer (some ⟨xb, 0, none⟩)) (h2v : v.v2 = .int .i64 n) (h3v : v.v3 = .pointer (some ⟨sb, 0, none⟩)) (h9v : v.v9 = .bool true) (hSs : wq.heap[sb]? = some (.cells #[.string xn, .string xt, .int .i64 xc, .int .i64 xx] 37 (0, 0))) (hlx : xb < wq.heap.size) (hx0 : wq.cell? ⟨xb, 0, none⟩ = some (.string nm)) (hx2 : wq.cell? ⟨xb, 2, none⟩ = some (.int .i64 fi)) (hn : (xt.toList == nm.toList) = true) (h2 : fi < xx)
    (hQ : ∀ a' w', Fzp a' v → a'.tmps.getD 43 undef = .bool true → Below wq.heap.size wq w' → K a' w') :
    Code.wp Try.prog c (Exit.then K fun _ _ _ => False) a wq := by
  have HQ := hide hQ
  clear hQ
  obtain ⟨t', d'⟩ := a
  obtain ⟨v0, v1, v2, v3, v6, v7, v8, v9, v10, v11, v12, v13⟩ := v
  simp only at h1v h2v h3v h9v HQ
  subst h1v h2v h3v h9v
  obtain ⟨hs1, hd1, q0, q1, q2, q3, q6, q7, q8, q9, q10, q11, q12, q13⟩ := hF
  obtain ⟨u, hu⟩ := frame_zp t' hs1
  simp only at hd1 q0 q1 q2 q3 q6 q7 q8 q9 q10 q11 q12 q13
  subst hu hd1
  have e0 : u 0 = v0 := q0
  have e1 : u 1 = .pointer (some ⟨xb, 0, none⟩) := q1
  have e2 : u 2 = .int .i64 n := q2
  have e3 : u 3 = .pointer (some ⟨sb, 0, none⟩) := q3
  have e6 : u 6 = v6 := q6
  have e7 : u 7 = v7 := q7
  have e8 : u 8 = v8 := q8
  have e9 : u 9 = .bool true := q9
  have e10 : u 10 = v10 := q10
  have e11 : u 11 = v11 := q11
  have e12 : u 12 = v12 := q12
  have e13 : u 13 = v13 := q13
  rw [e0, e1, e2, e3, e6, e7, e8, e9, e10, e11, e12, e13]
  clear q0 e0 q1 e1 q2 e2 q3 e3 q6 e6 q7 e7 q8 e8 q9 e9 q10 e10 q11 e11 q12 e12 q13 e13 hs1
  simp only [Try.f17, Option.getD_some, regOf] at hc
  injection hc with hc
  subst hc
  have HSS := hide hSs
  have HLS := hide (heap_lt hSs)
  have HLX := hide hlx
  have HX0 := hide hx0
  have HX2 := hide hx2
  clear hSs hlx hx0 hx2
  have HN := hide hn
  clear hn
  have H2 := hide h2
  have H2b : Hid (xx > fi) := h2
  clear h2
  refine wp_region_phi (by kernel_rfl) (ns := 96) (uses := (fun i => match i with | 0 => [16] | 1 => [17] | 2 => [18] | 3 => [19] | 4 => [20] | 5 => [21] | 6 => [22] | 7 => [23] | 8 => [24] | 9 => [25] | 10 => [26] | 11 => [27] | 12 => [28] | 13 => [29] | 14 => [30] | 15 => [31] | 16 => [32] | 17 => [33] | 18 => [34] | 19 => [35] | 20 => [36] | 21 => [37] | 22 => [38] | 23 => [39] | 24 => [40] | 25 => [41] | 26 => [42] | 27 => [43] | _ => [])) (by kernel_rfl) (by kernel_rfl) (fun _ w w' => Below w.heap.size w w') (fun w => Below wq.heap.size wq w) (fun _ _ _ h r => h.trans (r.mono h.size)) ((Below.refl _ _).drew) (fun i => match i with | 0 => fun s w => s 16 = .bool true | 1 => fun s w => s 17 = .bool false | 2 => fun s w => s 18 = .bool false | 3 => fun s w => s 19 = .pointer (some ⟨sb, 1, none⟩) | 4 => fun s w => s 20 = .string xt | 5 => fun s w => s 21 = .pointer (some ⟨xb, 0, none⟩) | 6 => fun s w => s 22 = .pointer (some ⟨xb, 0, none⟩) | 7 => fun s w => s 23 = .pointer (some ⟨xb, 0, none⟩) | 8 => fun s w => s 24 = .string nm | 9 => fun s w => s 25 = .bool false | 10 => fun s w => s 26 = .bool false | 11 => fun s w => s 27 = .bool false | 12 => fun s w => s 28 = .pointer (some ⟨sb, 3, none⟩) | 13 => fun s w => s 29 = .int .i64 xx | 14 => fun s w => s 30 = .pointer (some ⟨xb, 0, none⟩) | 15 => fun s w => s 31 = .pointer (some ⟨xb, 0, none⟩) | 16 => fun s w => s 32 = .pointer (some ⟨xb, 2, none⟩) | 17 => fun s w => s 33 = .int .i64 fi | 18 => fun s w => s 34 = .bool true | 19 => fun s w => s 35 = .bool true | 20 => fun s w => s 36 = .bool true | 21 => fun s w => s 37 = undef | 22 => fun s w => s 38 = undef | 23 => fun s w => s 39 = .bool true | 24 => fun s w => s 40 = .bool true | 25 => fun s w => s 41 = undef | 26 => fun s w => s 42 = undef | 27 => fun s w => s 43 = .bool true | _ => fun _ _ => True) ?phc ?phh ?pstep ?pdone
  case phc =>
    intro i s s' w hx h
    match i, hx, h with
    | 0, hx, h => exact (hx 16 (by simp)).symm.trans h
    | 1, hx, h => exact (hx 17 (by simp)).symm.trans h
    | 2, hx, h => exact (hx 18 (by simp)).symm.trans h
    | 3, hx, h => exact (hx 19 (by simp)).symm.trans h
    | 4, hx, h => exact (hx 20 (by simp)).symm.trans h
    | 5, hx, h => exact (hx 21 (by simp)).symm.trans h
    | 6, hx, h => exact (hx 22 (by simp)).symm.trans h
    | 7, hx, h => exact (hx 23 (by simp)).symm.trans h
    | 8, hx, h => exact (hx 24 (by simp)).symm.trans h
    | 9, hx, h => exact (hx 25 (by simp)).symm.trans h
    | 10, hx, h => exact (hx 26 (by simp)).symm.trans h
    | 11, hx, h => exact (hx 27 (by simp)).symm.trans h
    | 12, hx, h => exact (hx 28 (by simp)).symm.trans h
    | 13, hx, h => exact (hx 29 (by simp)).symm.trans h
    | 14, hx, h => exact (hx 30 (by simp)).symm.trans h
    | 15, hx, h => exact (hx 31 (by simp)).symm.trans h
    | 16, hx, h => exact (hx 32 (by simp)).symm.trans h
    | 17, hx, h => exact (hx 33 (by simp)).symm.trans h
    | 18, hx, h => exact (hx 34 (by simp)).symm.trans h
    | 19, hx, h => exact (hx 35 (by simp)).symm.trans h
    | 20, hx, h => exact (hx 36 (by simp)).symm.trans h
    | 21, hx, h => exact (hx 37 (by simp)).symm.trans h
    | 22, hx, h => exact (hx 38 (by simp)).symm.trans h
    | 23, hx, h => exact (hx 39 (by simp)).symm.trans h
    | 24, hx, h => exact (hx 40 (by simp)).symm.trans h
    | 25, hx, h => exact (hx 41 (by simp)).symm.trans h
    | 26, hx, h => exact (hx 42 (by simp)).symm.trans h
    | 27, hx, h => exact (hx 43 (by simp)).symm.trans h
    | (n + 28), _, h => exact h
  case phh =>
    intro i j s w w' hij h hb r
    match i, hij, h with
    | 0, hij, h =>
      exact h
    | 1, hij, h =>
      exact h
    | 2, hij, h =>
      exact h
    | 3, hij, h =>
      exact h
    | 4, hij, h =>
      exact h
    | 5, hij, h =>
      exact h
    | 6, hij, h =>
      exact h
    | 7, hij, h =>
      exact h
    | 8, hij, h =>
      exact h
    | 9, hij, h =>
      exact h
    | 10, hij, h =>
      exact h
    | 11, hij, h =>
      exact h
    | 12, hij, h =>
      exact h
    | 13, hij, h =>
      exact h
    | 14, hij, h =>
      exact h
    | 15, hij, h =>
      exact h
    | 16, hij, h =>
      exact h
    | 17, hij, h =>
      exact h
    | 18, hij, h =>
      exact h
    | 19, hij, h =>
      exact h
    | 20, hij, h =>
      exact h
    | 21, hij, h =>
      exact h
    | 22, hij, h =>
      exact h
    | 23, hij, h =>
      exact h
    | 24, hij, h =>
      exact h
    | 25, hij, h =>
      exact h
    | 26, hij, h =>
      exact h
    | 27, hij, h =>
      exact h
    | (n + 28), _, h => exact h
  case pstep =>
    intro i o ho a' w' hsa hb hd
    match i, ho with
    | 0, ho =>
      obtain rfl := Option.some.inj ho
      try dsimp only at hd
      have g9 : a'.tmps.getD 9 undef = .bool true := hsa.rest 9 (by rfl)
      refine wpOp_of rfl rfl ?_
      refine op_run (v := .bool true) (w' := w') ?_ ⟨_, rfl, ?_, ?_⟩
      · simp only [execOp, Act.eval, g9]; first | (go_simp; done) | rfl
      · try dsimp only
        exact (slots_put (ns := 96) (hsa.size.trans rfl) (by decide))
      · exact Below.refl _ _
    | 1, ho =>
      obtain rfl := Option.some.inj ho
      try dsimp only at hd
      have d0 : a'.tmps.getD 16 undef = .bool true := hd 0 (by rfl)
      refine wpOp_of rfl rfl ?_
      refine op_run (v := .bool false) (w' := w') ?_ ⟨_, rfl, ?_, ?_⟩
      · simp only [execOp, Act.eval, d0]; first | (go_simp; done) | rfl
      · try dsimp only
        exact (slots_put (ns := 96) (hsa.size.trans rfl) (by decide))
      · exact Below.refl _ _
    | 2, ho =>
      obtain rfl := Option.some.inj ho
      try dsimp only at hd
      have d1 : a'.tmps.getD 17 undef = .bool false := hd 1 (by rfl)
      refine wpOp_of rfl rfl ?_
      refine op_run (v := .bool false) (w' := w') ?_ ⟨_, rfl, ?_, ?_⟩
      · simp only [execOp, Act.eval, d1]; first | (go_simp; done) | rfl
      · try dsimp only
        exact (slots_put (ns := 96) (hsa.size.trans rfl) (by decide))
      · exact Below.refl _ _
    | 3, ho =>
      obtain rfl := Option.some.inj ho
      try dsimp only at hd
      have d2 : a'.tmps.getD 18 undef = .bool false := hd 2 (by rfl)
      have g3 : a'.tmps.getD 3 undef = .pointer (some ⟨sb, 0, none⟩) := hsa.rest 3 (by rfl)
      refine wpOp_on (j := 2) (dj := 18) rfl rfl rfl d2 ?_
      refine op_run (v := .pointer (some ⟨sb, 1, none⟩)) (w' := w') ?_ ⟨_, rfl, ?_, ?_⟩
      · simp only [execOp, Act.eval, d2, g3]; first | (go_simp; done) | rfl
      · try dsimp only
        exact (slots_put (ns := 96) (hsa.size.trans rfl) (by decide))
      · exact Below.refl _ _
    | 4, ho =>
      obtain rfl := Option.some.inj ho
      try dsimp only at hd
      have d2 : a'.tmps.getD 18 undef = .bool false := hd 2 (by rfl)
      have d3 : a'.tmps.getD 19 undef = .pointer (some ⟨sb, 1, none⟩) := hd 3 (by rfl)
      have y : w'.cell? ⟨sb, 1, none⟩ = some (.string xt) := (hb.cell (p := ⟨sb, 1, none⟩) HLS.out).trans (box_cell HSS.out 1 rfl)
      refine wpOp_on (j := 2) (dj := 18) rfl rfl rfl d2 ?_
      refine op_run (v := .string xt) (w' := w') ?_ ⟨_, rfl, ?_, ?_⟩
      · simp only [execOp, Act.eval, d2, d3, y]; first | (go_simp; done) | rfl
      · try dsimp only
        exact (slots_put (ns := 96) (hsa.size.trans rfl) (by decide))
      · exact Below.refl _ _
    | 5, ho =>
      obtain rfl := Option.some.inj ho
      try dsimp only at hd
      have d2 : a'.tmps.getD 18 undef = .bool false := hd 2 (by rfl)
      have g1 : a'.tmps.getD 1 undef = .pointer (some ⟨xb, 0, none⟩) := hsa.rest 1 (by rfl)
      refine wpOp_on (j := 2) (dj := 18) rfl rfl rfl d2 ?_
      refine op_run (v := .pointer (some ⟨xb, 0, none⟩)) (w' := w') ?_ ⟨_, rfl, ?_, ?_⟩
      · simp only [execOp, Act.eval, d2, g1]; first | (go_simp; done) | rfl
      · try dsimp only
        exact (slots_put (ns := 96) (hsa.size.trans rfl) (by decide))
      · exact Below.refl _ _
    | 6, ho =>
      obtain rfl := Option.some.inj ho
      try dsimp only at hd
      have d2 : a'.tmps.getD 18 undef = .bool false := hd 2 (by rfl)
      have d5 : a'.tmps.getD 21 undef = .pointer (some ⟨xb, 0, none⟩) := hd 5 (by rfl)
      refine wpOp_on (j := 2) (dj := 18) rfl rfl rfl d2 ?_
      refine op_run (v := .pointer (some ⟨xb, 0, none⟩)) (w' := w') ?_ ⟨_, rfl, ?_, ?_⟩
      · simp only [execOp, Act.eval, d2, d5]; first | (go_simp; done) | rfl
      · try dsimp only
        exact (slots_put (ns := 96) (hsa.size.trans rfl) (by decide))
      · exact Below.refl _ _
    | 7, ho =>
      obtain rfl := Option.some.inj ho
      try dsimp only at hd
      have d2 : a'.tmps.getD 18 undef = .bool false := hd 2 (by rfl)
      have d6 : a'.tmps.getD 22 undef = .pointer (some ⟨xb, 0, none⟩) := hd 6 (by rfl)
      refine wpOp_on (j := 2) (dj := 18) rfl rfl rfl d2 ?_
      refine op_run (v := .pointer (some ⟨xb, 0, none⟩)) (w' := w') ?_ ⟨_, rfl, ?_, ?_⟩
      · simp only [execOp, Act.eval, d2, d6]; first | (go_simp; done) | rfl
      · try dsimp only
        exact (slots_put (ns := 96) (hsa.size.trans rfl) (by decide))
      · exact Below.refl _ _
    | 8, ho =>
      obtain rfl := Option.some.inj ho
      try dsimp only at hd
      have d2 : a'.tmps.getD 18 undef = .bool false := hd 2 (by rfl)
      have d7 : a'.tmps.getD 23 undef = .pointer (some ⟨xb, 0, none⟩) := hd 7 (by rfl)
      have y : w'.cell? ⟨xb, 0, none⟩ = some (.string nm) := (hb.cell (p := ⟨xb, 0, none⟩) HLX.out).trans HX0.out
      refine wpOp_on (j := 2) (dj := 18) rfl rfl rfl d2 ?_
      refine op_run (v := .string nm) (w' := w') ?_ ⟨_, rfl, ?_, ?_⟩
      · simp only [execOp, Act.eval, d2, d7, y]; first | (go_simp; done) | rfl
      · try dsimp only
        exact (slots_put (ns := 96) (hsa.size.trans rfl) (by decide))
      · exact Below.refl _ _
    | 9, ho =>
      obtain rfl := Option.some.inj ho
      try dsimp only at hd
      have d2 : a'.tmps.getD 18 undef = .bool false := hd 2 (by rfl)
      have d4 : a'.tmps.getD 20 undef = .string xt := hd 4 (by rfl)
      have d8 : a'.tmps.getD 24 undef = .string nm := hd 8 (by rfl)
      have y := HN.out
      refine wpOp_on (j := 2) (dj := 18) rfl rfl rfl d2 ?_
      refine op_run (v := .bool false) (w' := w') ?_ ⟨_, rfl, ?_, ?_⟩
      · simp only [execOp, Act.eval, d2, d4, d8, y]; first | (go_simp; done) | rfl
      · try dsimp only
        exact (slots_put (ns := 96) (hsa.size.trans rfl) (by decide))
      · exact Below.refl _ _
    | 10, ho =>
      obtain rfl := Option.some.inj ho
      try dsimp only at hd
      have d2 : a'.tmps.getD 18 undef = .bool false := hd 2 (by rfl)
      have d9 : a'.tmps.getD 25 undef = .bool false := hd 9 (by rfl)
      refine wpOp_of rfl rfl ?_
      refine op_run (v := .bool false) (w' := w') ?_ ⟨_, rfl, ?_, ?_⟩
      · simp only [execOp, Act.eval, d2, d9]; first | (go_simp; done) | rfl
      · try dsimp only
        exact (slots_put (ns := 96) (hsa.size.trans rfl) (by decide))
      · exact Below.refl _ _
    | 11, ho =>
      obtain rfl := Option.some.inj ho
      try dsimp only at hd
      have d10 : a'.tmps.getD 26 undef = .bool false := hd 10 (by rfl)
      refine wpOp_of rfl rfl ?_
      refine op_run (v := .bool false) (w' := w') ?_ ⟨_, rfl, ?_, ?_⟩
      · simp only [execOp, Act.eval, d10]; first | (go_simp; done) | rfl
      · try dsimp only
        exact (slots_put (ns := 96) (hsa.size.trans rfl) (by decide))
      · exact Below.refl _ _
    | 12, ho =>
      obtain rfl := Option.some.inj ho
      try dsimp only at hd
      have d11 : a'.tmps.getD 27 undef = .bool false := hd 11 (by rfl)
      have g3 : a'.tmps.getD 3 undef = .pointer (some ⟨sb, 0, none⟩) := hsa.rest 3 (by rfl)
      refine wpOp_on (j := 11) (dj := 27) rfl rfl rfl d11 ?_
      refine op_run (v := .pointer (some ⟨sb, 3, none⟩)) (w' := w') ?_ ⟨_, rfl, ?_, ?_⟩
      · simp only [execOp, Act.eval, d11, g3]; first | (go_simp; done) | rfl
      · try dsimp only
        exact (slots_put (ns := 96) (hsa.size.trans rfl) (by decide))
      · exact Below.refl _ _
    | 13, ho =>
      obtain rfl := Option.some.inj ho
      try dsimp only at hd
      have d11 : a'.tmps.getD 27 undef = .bool false := hd 11 (by rfl)
      have d12 : a'.tmps.getD 28 undef = .pointer (some ⟨sb, 3, none⟩) := hd 12 (by rfl)
      have y : w'.cell? ⟨sb, 3, none⟩ = some (.int .i64 xx) := (hb.cell (p := ⟨sb, 3, none⟩) HLS.out).trans (box_cell HSS.out 3 rfl)
      refine wpOp_on (j := 11) (dj := 27) rfl rfl rfl d11 ?_
      refine op_run (v := .int .i64 xx) (w' := w') ?_ ⟨_, rfl, ?_, ?_⟩
      · simp only [execOp, Act.eval, d11, d12, y]; first | (go_simp; done) | rfl
      · try dsimp only
        exact (slots_put (ns := 96) (hsa.size.trans rfl) (by decide))
      · exact Below.refl _ _
    | 14, ho =>
      obtain rfl := Option.some.inj ho
      try dsimp only at hd
      have d11 : a'.tmps.getD 27 undef = .bool false := hd 11 (by rfl)
      have g1 : a'.tmps.getD 1 undef = .pointer (some ⟨xb, 0, none⟩) := hsa.rest 1 (by rfl)
      refine wpOp_on (j := 11) (dj := 27) rfl rfl rfl d11 ?_
      refine op_run (v := .pointer (some ⟨xb, 0, none⟩)) (w' := w') ?_ ⟨_, rfl, ?_, ?_⟩
      · simp only [execOp, Act.eval, d11, g1]; first | (go_simp; done) | rfl
      · try dsimp only
        exact (slots_put (ns := 96) (hsa.size.trans rfl) (by decide))
      · exact Below.refl _ _
    | 15, ho =>
      obtain rfl := Option.some.inj ho
      try dsimp only at hd
      have d11 : a'.tmps.getD 27 undef = .bool false := hd 11 (by rfl)
      have d14 : a'.tmps.getD 30 undef = .pointer (some ⟨xb, 0, none⟩) := hd 14 (by rfl)
      refine wpOp_on (j := 11) (dj := 27) rfl rfl rfl d11 ?_
      refine op_run (v := .pointer (some ⟨xb, 0, none⟩)) (w' := w') ?_ ⟨_, rfl, ?_, ?_⟩
      · simp only [execOp, Act.eval, d11, d14]; first | (go_simp; done) | rfl
      · try dsimp only
        exact (slots_put (ns := 96) (hsa.size.trans rfl) (by decide))
      · exact Below.refl _ _
    | 16, ho =>
      obtain rfl := Option.some.inj ho
      try dsimp only at hd
      have d11 : a'.tmps.getD 27 undef = .bool false := hd 11 (by rfl)
      have d15 : a'.tmps.getD 31 undef = .pointer (some ⟨xb, 0, none⟩) := hd 15 (by rfl)
      refine wpOp_on (j := 11) (dj := 27) rfl rfl rfl d11 ?_
      refine op_run (v := .pointer (some ⟨xb, 2, none⟩)) (w' := w') ?_ ⟨_, rfl, ?_, ?_⟩
      · simp only [execOp, Act.eval, d11, d15]; first | (go_simp; done) | rfl
      · try dsimp only
        exact (slots_put (ns := 96) (hsa.size.trans rfl) (by decide))
      · exact Below.refl _ _
    | 17, ho =>
      obtain rfl := Option.some.inj ho
      try dsimp only at hd
      have d11 : a'.tmps.getD 27 undef = .bool false := hd 11 (by rfl)
      have d16 : a'.tmps.getD 32 undef = .pointer (some ⟨xb, 2, none⟩) := hd 16 (by rfl)
      have y : w'.cell? ⟨xb, 2, none⟩ = some (.int .i64 fi) := (hb.cell (p := ⟨xb, 2, none⟩) HLX.out).trans HX2.out
      refine wpOp_on (j := 11) (dj := 27) rfl rfl rfl d11 ?_
      refine op_run (v := .int .i64 fi) (w' := w') ?_ ⟨_, rfl, ?_, ?_⟩
      · simp only [execOp, Act.eval, d11, d16, y]; first | (go_simp; done) | rfl
      · try dsimp only
        exact (slots_put (ns := 96) (hsa.size.trans rfl) (by decide))
      · exact Below.refl _ _
    | 18, ho =>
      obtain rfl := Option.some.inj ho
      try dsimp only at hd
      have d11 : a'.tmps.getD 27 undef = .bool false := hd 11 (by rfl)
      have d13 : a'.tmps.getD 29 undef = .int .i64 xx := hd 13 (by rfl)
      have d17 : a'.tmps.getD 33 undef = .int .i64 fi := hd 17 (by rfl)
      have y := H2.out
      have y2 := H2b.out
      refine wpOp_on (j := 11) (dj := 27) rfl rfl rfl d11 ?_
      refine op_run (v := .bool true) (w' := w') ?_ ⟨_, rfl, ?_, ?_⟩
      · simp only [execOp, Act.eval, d11, d13, d17, y, y2]; first | (go_simp; done) | rfl
      · try dsimp only
        exact (slots_put (ns := 96) (hsa.size.trans rfl) (by decide))
      · exact Below.refl _ _
    | 19, ho =>
      obtain rfl := Option.some.inj ho
      try dsimp only at hd
      have d11 : a'.tmps.getD 27 undef = .bool false := hd 11 (by rfl)
      have d18 : a'.tmps.getD 34 undef = .bool true := hd 18 (by rfl)
      refine wpOp_of rfl rfl ?_
      refine op_run (v := .bool true) (w' := w') ?_ ⟨_, rfl, ?_, ?_⟩
      · simp only [execOp, Act.eval, d11, d18]; first | (go_simp; done) | rfl
      · try dsimp only
        exact (slots_put (ns := 96) (hsa.size.trans rfl) (by decide))
      · exact Below.refl _ _
    | 20, ho =>
      obtain rfl := Option.some.inj ho
      try dsimp only at hd
      have d19 : a'.tmps.getD 35 undef = .bool true := hd 19 (by rfl)
      refine wpOp_of rfl rfl ?_
      refine op_run (v := .bool true) (w' := w') ?_ ⟨_, rfl, ?_, ?_⟩
      · simp only [execOp, Act.eval, d19]; first | (go_simp; done) | rfl
      · try dsimp only
        exact (slots_put (ns := 96) (hsa.size.trans rfl) (by decide))
      · exact Below.refl _ _
    | 21, ho =>
      obtain rfl := Option.some.inj ho
      try dsimp only at hd
      have d20 : a'.tmps.getD 36 undef = .bool true := hd 20 (by rfl)
      refine wpOp_off (j := 20) (dj := 36) rfl rfl rfl d20 (by simp [undef]) ⟨undef, rfl, ?_, ?_⟩
      · exact (slots_put (ns := 96) (hsa.size.trans rfl) (by decide))
      · exact Below.refl _ _
    | 22, ho =>
      obtain rfl := Option.some.inj ho
      try dsimp only at hd
      have d20 : a'.tmps.getD 36 undef = .bool true := hd 20 (by rfl)
      refine wpOp_off (j := 20) (dj := 36) rfl rfl rfl d20 (by simp [undef]) ⟨undef, rfl, ?_, ?_⟩
      · exact (slots_put (ns := 96) (hsa.size.trans rfl) (by decide))
      · exact Below.refl _ _
    | 23, ho =>
      obtain rfl := Option.some.inj ho
      try dsimp only at hd
      have d20 : a'.tmps.getD 36 undef = .bool true := hd 20 (by rfl)
      have d22 : a'.tmps.getD 38 undef = undef := hd 22 (by rfl)
      refine wpOp_of rfl rfl ?_
      refine op_run (v := .bool true) (w' := w') ?_ ⟨_, rfl, ?_, ?_⟩
      · simp only [execOp, Act.eval, d20, d22]; first | (go_simp; done) | rfl
      · try dsimp only
        exact (slots_put (ns := 96) (hsa.size.trans rfl) (by decide))
      · exact Below.refl _ _
    | 24, ho =>
      obtain rfl := Option.some.inj ho
      try dsimp only at hd
      have d23 : a'.tmps.getD 39 undef = .bool true := hd 23 (by rfl)
      refine wpOp_of rfl rfl ?_
      refine op_run (v := .bool true) (w' := w') ?_ ⟨_, rfl, ?_, ?_⟩
      · simp only [execOp, Act.eval, d23]; first | (go_simp; done) | rfl
      · try dsimp only
        exact (slots_put (ns := 96) (hsa.size.trans rfl) (by decide))
      · exact Below.refl _ _
    | 25, ho =>
      obtain rfl := Option.some.inj ho
      try dsimp only at hd
      have d24 : a'.tmps.getD 40 undef = .bool true := hd 24 (by rfl)
      refine wpOp_off (j := 24) (dj := 40) rfl rfl rfl d24 (by simp [undef]) ⟨undef, rfl, ?_, ?_⟩
      · exact (slots_put (ns := 96) (hsa.size.trans rfl) (by decide))
      · exact Below.refl _ _
    | 26, ho =>
      obtain rfl := Option.some.inj ho
      try dsimp only at hd
      have d24 : a'.tmps.getD 40 undef = .bool true := hd 24 (by rfl)
      refine wpOp_off (j := 24) (dj := 40) rfl rfl rfl d24 (by simp [undef]) ⟨undef, rfl, ?_, ?_⟩
      · exact (slots_put (ns := 96) (hsa.size.trans rfl) (by decide))
      · exact Below.refl _ _
    | 27, ho =>
      obtain rfl := Option.some.inj ho
      try dsimp only at hd
      have d24 : a'.tmps.getD 40 undef = .bool true := hd 24 (by rfl)
      have d26 : a'.tmps.getD 42 undef = undef := hd 26 (by rfl)
      refine wpOp_of rfl rfl ?_
      refine op_run (v := .bool true) (w' := w') ?_ ⟨_, rfl, ?_, ?_⟩
      · simp only [execOp, Act.eval, d24, d26]; first | (go_simp; done) | rfl
      · try dsimp only
        exact (slots_put (ns := 96) (hsa.size.trans rfl) (by decide))
      · exact Below.refl _ _
    | (n + 28), ho => exact absurd ho (by simp)
  case pdone =>
    intro a' w' hsa hb hd
    have d0 : a'.tmps.getD 16 undef = .bool true := hd 0 (by decide)
    have d1 : a'.tmps.getD 17 undef = .bool false := hd 1 (by decide)
    have d2 : a'.tmps.getD 18 undef = .bool false := hd 2 (by decide)
    have d3 : a'.tmps.getD 19 undef = .pointer (some ⟨sb, 1, none⟩) := hd 3 (by decide)
    have d4 : a'.tmps.getD 20 undef = .string xt := hd 4 (by decide)
    have d5 : a'.tmps.getD 21 undef = .pointer (some ⟨xb, 0, none⟩) := hd 5 (by decide)
    have d6 : a'.tmps.getD 22 undef = .pointer (some ⟨xb, 0, none⟩) := hd 6 (by decide)
    have d7 : a'.tmps.getD 23 undef = .pointer (some ⟨xb, 0, none⟩) := hd 7 (by decide)
    have d8 : a'.tmps.getD 24 undef = .string nm := hd 8 (by decide)
    have d9 : a'.tmps.getD 25 undef = .bool false := hd 9 (by decide)
    have d10 : a'.tmps.getD 26 undef = .bool false := hd 10 (by decide)
    have d11 : a'.tmps.getD 27 undef = .bool false := hd 11 (by decide)
    have d12 : a'.tmps.getD 28 undef = .pointer (some ⟨sb, 3, none⟩) := hd 12 (by decide)
    have d13 : a'.tmps.getD 29 undef = .int .i64 xx := hd 13 (by decide)
    have d14 : a'.tmps.getD 30 undef = .pointer (some ⟨xb, 0, none⟩) := hd 14 (by decide)
    have d15 : a'.tmps.getD 31 undef = .pointer (some ⟨xb, 0, none⟩) := hd 15 (by decide)
    have d16 : a'.tmps.getD 32 undef = .pointer (some ⟨xb, 2, none⟩) := hd 16 (by decide)
    have d17 : a'.tmps.getD 33 undef = .int .i64 fi := hd 17 (by decide)
    have d18 : a'.tmps.getD 34 undef = .bool true := hd 18 (by decide)
    have d19 : a'.tmps.getD 35 undef = .bool true := hd 19 (by decide)
    have d20 : a'.tmps.getD 36 undef = .bool true := hd 20 (by decide)
    have d21 : a'.tmps.getD 37 undef = undef := hd 21 (by decide)
    have d22 : a'.tmps.getD 38 undef = undef := hd 22 (by decide)
    have d23 : a'.tmps.getD 39 undef = .bool true := hd 23 (by decide)
    have d24 : a'.tmps.getD 40 undef = .bool true := hd 24 (by decide)
    have d25 : a'.tmps.getD 41 undef = undef := hd 25 (by decide)
    have d26 : a'.tmps.getD 42 undef = undef := hd 26 (by decide)
    have d27 : a'.tmps.getD 43 undef = .bool true := hd 27 (by decide)
    exact HQ.out _ _ ⟨hsa.size.trans rfl, hsa.defers.trans rfl, hsa.rest 0 (by rfl), hsa.rest 1 (by rfl), hsa.rest 2 (by rfl), hsa.rest 3 (by rfl), hsa.rest 6 (by rfl), hsa.rest 7 (by rfl), hsa.rest 8 (by rfl), hsa.rest 9 (by rfl), hsa.rest 10 (by rfl), hsa.rest 11 (by rfl), hsa.rest 12 (by rfl), hsa.rest 13 (by rfl)⟩ d27 hb
set_option maxHeartbeats 8000000 in
set_option maxRecDepth 100000 in
theorem zp_r2c3 {K : Act → World → Prop} {c : Code} (hc : regOf (Try.f17.body.getD .skip) 2 = some c) (a : Act) {v : Vzp} {wq : World} {sb xb : Nat} {nm : ByteArray} {n fi : Int} {xn xt : ByteArray} {xc xx : Int} (hF : Fzp a v) (h1v : v.v1 = .pointer (some ⟨xb, 0, none⟩)) (h2v : v.v2 = .int .i64 n) (h3v : v.v3 = .pointer (some ⟨sb, 0, none⟩)) (h9v : v.v9 = .bool true) (hSs : wq.heap[sb]? = some (.cells #[.string xn, .string xt, .int .i64 xc, .int .i64 xx] 37 (0, 0))) (hlx : xb < wq.heap.size) (hx0 : wq.cell? ⟨xb, 0, none⟩ = some (.string nm)) (hx2 : wq.cell? ⟨xb, 2, none⟩ = some (.int .i64 fi)) (hn : (xt.toList == nm.toList) = true) (h2 : ¬ fi < xx) (h3 : n < 1)
    (hQ : ∀ a' w', Fzp a' v → a'.tmps.getD 43 undef = .bool true → Below wq.heap.size wq w' → K a' w') :
    Code.wp Try.prog c (Exit.then K fun _ _ _ => False) a wq := by
  have HQ := hide hQ
  clear hQ
  obtain ⟨t', d'⟩ := a
  obtain ⟨v0, v1, v2, v3, v6, v7, v8, v9, v10, v11, v12, v13⟩ := v
  simp only at h1v h2v h3v h9v HQ
  subst h1v h2v h3v h9v
  obtain ⟨hs1, hd1, q0, q1, q2, q3, q6, q7, q8, q9, q10, q11, q12, q13⟩ := hF
  obtain ⟨u, hu⟩ := frame_zp t' hs1
  simp only at hd1 q0 q1 q2 q3 q6 q7 q8 q9 q10 q11 q12 q13
  subst hu hd1
  have e0 : u 0 = v0 := q0
  have e1 : u 1 = .pointer (some ⟨xb, 0, none⟩) := q1
  have e2 : u 2 = .int .i64 n := q2
  have e3 : u 3 = .pointer (some ⟨sb, 0, none⟩) := q3
  have e6 : u 6 = v6 := q6
  have e7 : u 7 = v7 := q7
  have e8 : u 8 = v8 := q8
  have e9 : u 9 = .bool true := q9
  have e10 : u 10 = v10 := q10
  have e11 : u 11 = v11 := q11
  have e12 : u 12 = v12 := q12
  have e13 : u 13 = v13 := q13
  rw [e0, e1, e2, e3, e6, e7, e8, e9, e10, e11, e12, e13]
  clear q0 e0 q1 e1 q2 e2 q3 e3 q6 e6 q7 e7 q8 e8 q9 e9 q10 e10 q11 e11 q12 e12 q13 e13 hs1
  simp only [Try.f17, Option.getD_some, regOf] at hc
  injection hc with hc
  subst hc
  have HSS := hide hSs
  have HLS := hide (heap_lt hSs)
  have HLX := hide hlx
  have HX0 := hide hx0
  have HX2 := hide hx2
  clear hSs hlx hx0 hx2
  have HN := hide hn
  clear hn
  have H2 := hide h2
  have H2b : Hid (¬ xx > fi) := h2
  clear h2
  have H3 := hide h3
  clear h3
  refine wp_region_phi (by kernel_rfl) (ns := 96) (uses := (fun i => match i with | 0 => [16] | 1 => [17] | 2 => [18] | 3 => [19] | 4 => [20] | 5 => [21] | 6 => [22] | 7 => [23] | 8 => [24] | 9 => [25] | 10 => [26] | 11 => [27] | 12 => [28] | 13 => [29] | 14 => [30] | 15 => [31] | 16 => [32] | 17 => [33] | 18 => [34] | 19 => [35] | 20 => [36] | 21 => [37] | 22 => [38] | 23 => [39] | 24 => [40] | 25 => [41] | 26 => [42] | 27 => [43] | _ => [])) (by kernel_rfl) (by kernel_rfl) (fun _ w w' => Below w.heap.size w w') (fun w => Below wq.heap.size wq w) (fun _ _ _ h r => h.trans (r.mono h.size)) ((Below.refl _ _).drew) (fun i => match i with | 0 => fun s w => s 16 = .bool true | 1 => fun s w => s 17 = .bool false | 2 => fun s w => s 18 = .bool false | 3 => fun s w => s 19 = .pointer (some ⟨sb, 1, none⟩) | 4 => fun s w => s 20 = .string xt | 5 => fun s w => s 21 = .pointer (some ⟨xb, 0, none⟩) | 6 => fun s w => s 22 = .pointer (some ⟨xb, 0, none⟩) | 7 => fun s w => s 23 = .pointer (some ⟨xb, 0, none⟩) | 8 => fun s w => s 24 = .string nm | 9 => fun s w => s 25 = .bool false | 10 => fun s w => s 26 = .bool false | 11 => fun s w => s 27 = .bool false | 12 => fun s w => s 28 = .pointer (some ⟨sb, 3, none⟩) | 13 => fun s w => s 29 = .int .i64 xx | 14 => fun s w => s 30 = .pointer (some ⟨xb, 0, none⟩) | 15 => fun s w => s 31 = .pointer (some ⟨xb, 0, none⟩) | 16 => fun s w => s 32 = .pointer (some ⟨xb, 2, none⟩) | 17 => fun s w => s 33 = .int .i64 fi | 18 => fun s w => s 34 = .bool false | 19 => fun s w => s 35 = .bool false | 20 => fun s w => s 36 = .bool false | 21 => fun s w => s 37 = .int .i64 n | 22 => fun s w => s 38 = .bool true | 23 => fun s w => s 39 = .bool true | 24 => fun s w => s 40 = .bool true | 25 => fun s w => s 41 = undef | 26 => fun s w => s 42 = undef | 27 => fun s w => s 43 = .bool true | _ => fun _ _ => True) ?phc ?phh ?pstep ?pdone
  case phc =>
    intro i s s' w hx h
    match i, hx, h with
    | 0, hx, h => exact (hx 16 (by simp)).symm.trans h
    | 1, hx, h => exact (hx 17 (by simp)).symm.trans h
    | 2, hx, h => exact (hx 18 (by simp)).symm.trans h
    | 3, hx, h => exact (hx 19 (by simp)).symm.trans h
    | 4, hx, h => exact (hx 20 (by simp)).symm.trans h
    | 5, hx, h => exact (hx 21 (by simp)).symm.trans h
    | 6, hx, h => exact (hx 22 (by simp)).symm.trans h
    | 7, hx, h => exact (hx 23 (by simp)).symm.trans h
    | 8, hx, h => exact (hx 24 (by simp)).symm.trans h
    | 9, hx, h => exact (hx 25 (by simp)).symm.trans h
    | 10, hx, h => exact (hx 26 (by simp)).symm.trans h
    | 11, hx, h => exact (hx 27 (by simp)).symm.trans h
    | 12, hx, h => exact (hx 28 (by simp)).symm.trans h
    | 13, hx, h => exact (hx 29 (by simp)).symm.trans h
    | 14, hx, h => exact (hx 30 (by simp)).symm.trans h
    | 15, hx, h => exact (hx 31 (by simp)).symm.trans h
    | 16, hx, h => exact (hx 32 (by simp)).symm.trans h
    | 17, hx, h => exact (hx 33 (by simp)).symm.trans h
    | 18, hx, h => exact (hx 34 (by simp)).symm.trans h
    | 19, hx, h => exact (hx 35 (by simp)).symm.trans h
    | 20, hx, h => exact (hx 36 (by simp)).symm.trans h
    | 21, hx, h => exact (hx 37 (by simp)).symm.trans h
    | 22, hx, h => exact (hx 38 (by simp)).symm.trans h
    | 23, hx, h => exact (hx 39 (by simp)).symm.trans h
    | 24, hx, h => exact (hx 40 (by simp)).symm.trans h
    | 25, hx, h => exact (hx 41 (by simp)).symm.trans h
    | 26, hx, h => exact (hx 42 (by simp)).symm.trans h
    | 27, hx, h => exact (hx 43 (by simp)).symm.trans h
    | (n + 28), _, h => exact h
  case phh =>
    intro i j s w w' hij h hb r
    match i, hij, h with
    | 0, hij, h =>
      exact h
    | 1, hij, h =>
      exact h
    | 2, hij, h =>
      exact h
    | 3, hij, h =>
      exact h
    | 4, hij, h =>
      exact h
    | 5, hij, h =>
      exact h
    | 6, hij, h =>
      exact h
    | 7, hij, h =>
      exact h
    | 8, hij, h =>
      exact h
    | 9, hij, h =>
      exact h
    | 10, hij, h =>
      exact h
    | 11, hij, h =>
      exact h
    | 12, hij, h =>
      exact h
    | 13, hij, h =>
      exact h
    | 14, hij, h =>
      exact h
    | 15, hij, h =>
      exact h
    | 16, hij, h =>
      exact h
    | 17, hij, h =>
      exact h
    | 18, hij, h =>
      exact h
    | 19, hij, h =>
      exact h
    | 20, hij, h =>
      exact h
    | 21, hij, h =>
      exact h
    | 22, hij, h =>
      exact h
    | 23, hij, h =>
      exact h
    | 24, hij, h =>
      exact h
    | 25, hij, h =>
      exact h
    | 26, hij, h =>
      exact h
    | 27, hij, h =>
      exact h
    | (n + 28), _, h => exact h
  case pstep =>
    intro i o ho a' w' hsa hb hd
    match i, ho with
    | 0, ho =>
      obtain rfl := Option.some.inj ho
      try dsimp only at hd
      have g9 : a'.tmps.getD 9 undef = .bool true := hsa.rest 9 (by rfl)
      refine wpOp_of rfl rfl ?_
      refine op_run (v := .bool true) (w' := w') ?_ ⟨_, rfl, ?_, ?_⟩
      · simp only [execOp, Act.eval, g9]; first | (go_simp; done) | rfl
      · try dsimp only
        exact (slots_put (ns := 96) (hsa.size.trans rfl) (by decide))
      · exact Below.refl _ _
    | 1, ho =>
      obtain rfl := Option.some.inj ho
      try dsimp only at hd
      have d0 : a'.tmps.getD 16 undef = .bool true := hd 0 (by rfl)
      refine wpOp_of rfl rfl ?_
      refine op_run (v := .bool false) (w' := w') ?_ ⟨_, rfl, ?_, ?_⟩
      · simp only [execOp, Act.eval, d0]; first | (go_simp; done) | rfl
      · try dsimp only
        exact (slots_put (ns := 96) (hsa.size.trans rfl) (by decide))
      · exact Below.refl _ _
    | 2, ho =>
      obtain rfl := Option.some.inj ho
      try dsimp only at hd
      have d1 : a'.tmps.getD 17 undef = .bool false := hd 1 (by rfl)
      refine wpOp_of rfl rfl ?_
      refine op_run (v := .bool false) (w' := w') ?_ ⟨_, rfl, ?_, ?_⟩
      · simp only [execOp, Act.eval, d1]; first | (go_simp; done) | rfl
      · try dsimp only
        exact (slots_put (ns := 96) (hsa.size.trans rfl) (by decide))
      · exact Below.refl _ _
    | 3, ho =>
      obtain rfl := Option.some.inj ho
      try dsimp only at hd
      have d2 : a'.tmps.getD 18 undef = .bool false := hd 2 (by rfl)
      have g3 : a'.tmps.getD 3 undef = .pointer (some ⟨sb, 0, none⟩) := hsa.rest 3 (by rfl)
      refine wpOp_on (j := 2) (dj := 18) rfl rfl rfl d2 ?_
      refine op_run (v := .pointer (some ⟨sb, 1, none⟩)) (w' := w') ?_ ⟨_, rfl, ?_, ?_⟩
      · simp only [execOp, Act.eval, d2, g3]; first | (go_simp; done) | rfl
      · try dsimp only
        exact (slots_put (ns := 96) (hsa.size.trans rfl) (by decide))
      · exact Below.refl _ _
    | 4, ho =>
      obtain rfl := Option.some.inj ho
      try dsimp only at hd
      have d2 : a'.tmps.getD 18 undef = .bool false := hd 2 (by rfl)
      have d3 : a'.tmps.getD 19 undef = .pointer (some ⟨sb, 1, none⟩) := hd 3 (by rfl)
      have y : w'.cell? ⟨sb, 1, none⟩ = some (.string xt) := (hb.cell (p := ⟨sb, 1, none⟩) HLS.out).trans (box_cell HSS.out 1 rfl)
      refine wpOp_on (j := 2) (dj := 18) rfl rfl rfl d2 ?_
      refine op_run (v := .string xt) (w' := w') ?_ ⟨_, rfl, ?_, ?_⟩
      · simp only [execOp, Act.eval, d2, d3, y]; first | (go_simp; done) | rfl
      · try dsimp only
        exact (slots_put (ns := 96) (hsa.size.trans rfl) (by decide))
      · exact Below.refl _ _
    | 5, ho =>
      obtain rfl := Option.some.inj ho
      try dsimp only at hd
      have d2 : a'.tmps.getD 18 undef = .bool false := hd 2 (by rfl)
      have g1 : a'.tmps.getD 1 undef = .pointer (some ⟨xb, 0, none⟩) := hsa.rest 1 (by rfl)
      refine wpOp_on (j := 2) (dj := 18) rfl rfl rfl d2 ?_
      refine op_run (v := .pointer (some ⟨xb, 0, none⟩)) (w' := w') ?_ ⟨_, rfl, ?_, ?_⟩
      · simp only [execOp, Act.eval, d2, g1]; first | (go_simp; done) | rfl
      · try dsimp only
        exact (slots_put (ns := 96) (hsa.size.trans rfl) (by decide))
      · exact Below.refl _ _
    | 6, ho =>
      obtain rfl := Option.some.inj ho
      try dsimp only at hd
      have d2 : a'.tmps.getD 18 undef = .bool false := hd 2 (by rfl)
      have d5 : a'.tmps.getD 21 undef = .pointer (some ⟨xb, 0, none⟩) := hd 5 (by rfl)
      refine wpOp_on (j := 2) (dj := 18) rfl rfl rfl d2 ?_
      refine op_run (v := .pointer (some ⟨xb, 0, none⟩)) (w' := w') ?_ ⟨_, rfl, ?_, ?_⟩
      · simp only [execOp, Act.eval, d2, d5]; first | (go_simp; done) | rfl
      · try dsimp only
        exact (slots_put (ns := 96) (hsa.size.trans rfl) (by decide))
      · exact Below.refl _ _
    | 7, ho =>
      obtain rfl := Option.some.inj ho
      try dsimp only at hd
      have d2 : a'.tmps.getD 18 undef = .bool false := hd 2 (by rfl)
      have d6 : a'.tmps.getD 22 undef = .pointer (some ⟨xb, 0, none⟩) := hd 6 (by rfl)
      refine wpOp_on (j := 2) (dj := 18) rfl rfl rfl d2 ?_
      refine op_run (v := .pointer (some ⟨xb, 0, none⟩)) (w' := w') ?_ ⟨_, rfl, ?_, ?_⟩
      · simp only [execOp, Act.eval, d2, d6]; first | (go_simp; done) | rfl
      · try dsimp only
        exact (slots_put (ns := 96) (hsa.size.trans rfl) (by decide))
      · exact Below.refl _ _
    | 8, ho =>
      obtain rfl := Option.some.inj ho
      try dsimp only at hd
      have d2 : a'.tmps.getD 18 undef = .bool false := hd 2 (by rfl)
      have d7 : a'.tmps.getD 23 undef = .pointer (some ⟨xb, 0, none⟩) := hd 7 (by rfl)
      have y : w'.cell? ⟨xb, 0, none⟩ = some (.string nm) := (hb.cell (p := ⟨xb, 0, none⟩) HLX.out).trans HX0.out
      refine wpOp_on (j := 2) (dj := 18) rfl rfl rfl d2 ?_
      refine op_run (v := .string nm) (w' := w') ?_ ⟨_, rfl, ?_, ?_⟩
      · simp only [execOp, Act.eval, d2, d7, y]; first | (go_simp; done) | rfl
      · try dsimp only
        exact (slots_put (ns := 96) (hsa.size.trans rfl) (by decide))
      · exact Below.refl _ _
    | 9, ho =>
      obtain rfl := Option.some.inj ho
      try dsimp only at hd
      have d2 : a'.tmps.getD 18 undef = .bool false := hd 2 (by rfl)
      have d4 : a'.tmps.getD 20 undef = .string xt := hd 4 (by rfl)
      have d8 : a'.tmps.getD 24 undef = .string nm := hd 8 (by rfl)
      have y := HN.out
      refine wpOp_on (j := 2) (dj := 18) rfl rfl rfl d2 ?_
      refine op_run (v := .bool false) (w' := w') ?_ ⟨_, rfl, ?_, ?_⟩
      · simp only [execOp, Act.eval, d2, d4, d8, y]; first | (go_simp; done) | rfl
      · try dsimp only
        exact (slots_put (ns := 96) (hsa.size.trans rfl) (by decide))
      · exact Below.refl _ _
    | 10, ho =>
      obtain rfl := Option.some.inj ho
      try dsimp only at hd
      have d2 : a'.tmps.getD 18 undef = .bool false := hd 2 (by rfl)
      have d9 : a'.tmps.getD 25 undef = .bool false := hd 9 (by rfl)
      refine wpOp_of rfl rfl ?_
      refine op_run (v := .bool false) (w' := w') ?_ ⟨_, rfl, ?_, ?_⟩
      · simp only [execOp, Act.eval, d2, d9]; first | (go_simp; done) | rfl
      · try dsimp only
        exact (slots_put (ns := 96) (hsa.size.trans rfl) (by decide))
      · exact Below.refl _ _
    | 11, ho =>
      obtain rfl := Option.some.inj ho
      try dsimp only at hd
      have d10 : a'.tmps.getD 26 undef = .bool false := hd 10 (by rfl)
      refine wpOp_of rfl rfl ?_
      refine op_run (v := .bool false) (w' := w') ?_ ⟨_, rfl, ?_, ?_⟩
      · simp only [execOp, Act.eval, d10]; first | (go_simp; done) | rfl
      · try dsimp only
        exact (slots_put (ns := 96) (hsa.size.trans rfl) (by decide))
      · exact Below.refl _ _
    | 12, ho =>
      obtain rfl := Option.some.inj ho
      try dsimp only at hd
      have d11 : a'.tmps.getD 27 undef = .bool false := hd 11 (by rfl)
      have g3 : a'.tmps.getD 3 undef = .pointer (some ⟨sb, 0, none⟩) := hsa.rest 3 (by rfl)
      refine wpOp_on (j := 11) (dj := 27) rfl rfl rfl d11 ?_
      refine op_run (v := .pointer (some ⟨sb, 3, none⟩)) (w' := w') ?_ ⟨_, rfl, ?_, ?_⟩
      · simp only [execOp, Act.eval, d11, g3]; first | (go_simp; done) | rfl
      · try dsimp only
        exact (slots_put (ns := 96) (hsa.size.trans rfl) (by decide))
      · exact Below.refl _ _
    | 13, ho =>
      obtain rfl := Option.some.inj ho
      try dsimp only at hd
      have d11 : a'.tmps.getD 27 undef = .bool false := hd 11 (by rfl)
      have d12 : a'.tmps.getD 28 undef = .pointer (some ⟨sb, 3, none⟩) := hd 12 (by rfl)
      have y : w'.cell? ⟨sb, 3, none⟩ = some (.int .i64 xx) := (hb.cell (p := ⟨sb, 3, none⟩) HLS.out).trans (box_cell HSS.out 3 rfl)
      refine wpOp_on (j := 11) (dj := 27) rfl rfl rfl d11 ?_
      refine op_run (v := .int .i64 xx) (w' := w') ?_ ⟨_, rfl, ?_, ?_⟩
      · simp only [execOp, Act.eval, d11, d12, y]; first | (go_simp; done) | rfl
      · try dsimp only
        exact (slots_put (ns := 96) (hsa.size.trans rfl) (by decide))
      · exact Below.refl _ _
    | 14, ho =>
      obtain rfl := Option.some.inj ho
      try dsimp only at hd
      have d11 : a'.tmps.getD 27 undef = .bool false := hd 11 (by rfl)
      have g1 : a'.tmps.getD 1 undef = .pointer (some ⟨xb, 0, none⟩) := hsa.rest 1 (by rfl)
      refine wpOp_on (j := 11) (dj := 27) rfl rfl rfl d11 ?_
      refine op_run (v := .pointer (some ⟨xb, 0, none⟩)) (w' := w') ?_ ⟨_, rfl, ?_, ?_⟩
      · simp only [execOp, Act.eval, d11, g1]; first | (go_simp; done) | rfl
      · try dsimp only
        exact (slots_put (ns := 96) (hsa.size.trans rfl) (by decide))
      · exact Below.refl _ _
    | 15, ho =>
      obtain rfl := Option.some.inj ho
      try dsimp only at hd
      have d11 : a'.tmps.getD 27 undef = .bool false := hd 11 (by rfl)
      have d14 : a'.tmps.getD 30 undef = .pointer (some ⟨xb, 0, none⟩) := hd 14 (by rfl)
      refine wpOp_on (j := 11) (dj := 27) rfl rfl rfl d11 ?_
      refine op_run (v := .pointer (some ⟨xb, 0, none⟩)) (w' := w') ?_ ⟨_, rfl, ?_, ?_⟩
      · simp only [execOp, Act.eval, d11, d14]; first | (go_simp; done) | rfl
      · try dsimp only
        exact (slots_put (ns := 96) (hsa.size.trans rfl) (by decide))
      · exact Below.refl _ _
    | 16, ho =>
      obtain rfl := Option.some.inj ho
      try dsimp only at hd
      have d11 : a'.tmps.getD 27 undef = .bool false := hd 11 (by rfl)
      have d15 : a'.tmps.getD 31 undef = .pointer (some ⟨xb, 0, none⟩) := hd 15 (by rfl)
      refine wpOp_on (j := 11) (dj := 27) rfl rfl rfl d11 ?_
      refine op_run (v := .pointer (some ⟨xb, 2, none⟩)) (w' := w') ?_ ⟨_, rfl, ?_, ?_⟩
      · simp only [execOp, Act.eval, d11, d15]; first | (go_simp; done) | rfl
      · try dsimp only
        exact (slots_put (ns := 96) (hsa.size.trans rfl) (by decide))
      · exact Below.refl _ _
    | 17, ho =>
      obtain rfl := Option.some.inj ho
      try dsimp only at hd
      have d11 : a'.tmps.getD 27 undef = .bool false := hd 11 (by rfl)
      have d16 : a'.tmps.getD 32 undef = .pointer (some ⟨xb, 2, none⟩) := hd 16 (by rfl)
      have y : w'.cell? ⟨xb, 2, none⟩ = some (.int .i64 fi) := (hb.cell (p := ⟨xb, 2, none⟩) HLX.out).trans HX2.out
      refine wpOp_on (j := 11) (dj := 27) rfl rfl rfl d11 ?_
      refine op_run (v := .int .i64 fi) (w' := w') ?_ ⟨_, rfl, ?_, ?_⟩
      · simp only [execOp, Act.eval, d11, d16, y]; first | (go_simp; done) | rfl
      · try dsimp only
        exact (slots_put (ns := 96) (hsa.size.trans rfl) (by decide))
      · exact Below.refl _ _
    | 18, ho =>
      obtain rfl := Option.some.inj ho
      try dsimp only at hd
      have d11 : a'.tmps.getD 27 undef = .bool false := hd 11 (by rfl)
      have d13 : a'.tmps.getD 29 undef = .int .i64 xx := hd 13 (by rfl)
      have d17 : a'.tmps.getD 33 undef = .int .i64 fi := hd 17 (by rfl)
      have y := H2.out
      have y2 := H2b.out
      refine wpOp_on (j := 11) (dj := 27) rfl rfl rfl d11 ?_
      refine op_run (v := .bool false) (w' := w') ?_ ⟨_, rfl, ?_, ?_⟩
      · simp only [execOp, Act.eval, d11, d13, d17, y, y2]; first | (go_simp; done) | rfl
      · try dsimp only
        exact (slots_put (ns := 96) (hsa.size.trans rfl) (by decide))
      · exact Below.refl _ _
    | 19, ho =>
      obtain rfl := Option.some.inj ho
      try dsimp only at hd
      have d11 : a'.tmps.getD 27 undef = .bool false := hd 11 (by rfl)
      have d18 : a'.tmps.getD 34 undef = .bool false := hd 18 (by rfl)
      refine wpOp_of rfl rfl ?_
      refine op_run (v := .bool false) (w' := w') ?_ ⟨_, rfl, ?_, ?_⟩
      · simp only [execOp, Act.eval, d11, d18]; first | (go_simp; done) | rfl
      · try dsimp only
        exact (slots_put (ns := 96) (hsa.size.trans rfl) (by decide))
      · exact Below.refl _ _
    | 20, ho =>
      obtain rfl := Option.some.inj ho
      try dsimp only at hd
      have d19 : a'.tmps.getD 35 undef = .bool false := hd 19 (by rfl)
      refine wpOp_of rfl rfl ?_
      refine op_run (v := .bool false) (w' := w') ?_ ⟨_, rfl, ?_, ?_⟩
      · simp only [execOp, Act.eval, d19]; first | (go_simp; done) | rfl
      · try dsimp only
        exact (slots_put (ns := 96) (hsa.size.trans rfl) (by decide))
      · exact Below.refl _ _
    | 21, ho =>
      obtain rfl := Option.some.inj ho
      try dsimp only at hd
      have d20 : a'.tmps.getD 36 undef = .bool false := hd 20 (by rfl)
      have g2 : a'.tmps.getD 2 undef = .int .i64 n := hsa.rest 2 (by rfl)
      refine wpOp_on (j := 20) (dj := 36) rfl rfl rfl d20 ?_
      refine op_run (v := .int .i64 n) (w' := w') ?_ ⟨_, rfl, ?_, ?_⟩
      · simp only [execOp, Act.eval, d20, g2]; first | (go_simp; done) | rfl
      · try dsimp only
        exact (slots_put (ns := 96) (hsa.size.trans rfl) (by decide))
      · exact Below.refl _ _
    | 22, ho =>
      obtain rfl := Option.some.inj ho
      try dsimp only at hd
      have d20 : a'.tmps.getD 36 undef = .bool false := hd 20 (by rfl)
      have d21 : a'.tmps.getD 37 undef = .int .i64 n := hd 21 (by rfl)
      have y := H3.out
      refine wpOp_on (j := 20) (dj := 36) rfl rfl rfl d20 ?_
      refine op_run (v := .bool true) (w' := w') ?_ ⟨_, rfl, ?_, ?_⟩
      · simp only [execOp, Act.eval, d20, d21, y]; first | (go_simp; done) | rfl
      · try dsimp only
        exact (slots_put (ns := 96) (hsa.size.trans rfl) (by decide))
      · exact Below.refl _ _
    | 23, ho =>
      obtain rfl := Option.some.inj ho
      try dsimp only at hd
      have d20 : a'.tmps.getD 36 undef = .bool false := hd 20 (by rfl)
      have d22 : a'.tmps.getD 38 undef = .bool true := hd 22 (by rfl)
      refine wpOp_of rfl rfl ?_
      refine op_run (v := .bool true) (w' := w') ?_ ⟨_, rfl, ?_, ?_⟩
      · simp only [execOp, Act.eval, d20, d22]; first | (go_simp; done) | rfl
      · try dsimp only
        exact (slots_put (ns := 96) (hsa.size.trans rfl) (by decide))
      · exact Below.refl _ _
    | 24, ho =>
      obtain rfl := Option.some.inj ho
      try dsimp only at hd
      have d23 : a'.tmps.getD 39 undef = .bool true := hd 23 (by rfl)
      refine wpOp_of rfl rfl ?_
      refine op_run (v := .bool true) (w' := w') ?_ ⟨_, rfl, ?_, ?_⟩
      · simp only [execOp, Act.eval, d23]; first | (go_simp; done) | rfl
      · try dsimp only
        exact (slots_put (ns := 96) (hsa.size.trans rfl) (by decide))
      · exact Below.refl _ _
    | 25, ho =>
      obtain rfl := Option.some.inj ho
      try dsimp only at hd
      have d24 : a'.tmps.getD 40 undef = .bool true := hd 24 (by rfl)
      refine wpOp_off (j := 24) (dj := 40) rfl rfl rfl d24 (by simp [undef]) ⟨undef, rfl, ?_, ?_⟩
      · exact (slots_put (ns := 96) (hsa.size.trans rfl) (by decide))
      · exact Below.refl _ _
    | 26, ho =>
      obtain rfl := Option.some.inj ho
      try dsimp only at hd
      have d24 : a'.tmps.getD 40 undef = .bool true := hd 24 (by rfl)
      refine wpOp_off (j := 24) (dj := 40) rfl rfl rfl d24 (by simp [undef]) ⟨undef, rfl, ?_, ?_⟩
      · exact (slots_put (ns := 96) (hsa.size.trans rfl) (by decide))
      · exact Below.refl _ _
    | 27, ho =>
      obtain rfl := Option.some.inj ho
      try dsimp only at hd
      have d24 : a'.tmps.getD 40 undef = .bool true := hd 24 (by rfl)
      have d26 : a'.tmps.getD 42 undef = undef := hd 26 (by rfl)
      refine wpOp_of rfl rfl ?_
      refine op_run (v := .bool true) (w' := w') ?_ ⟨_, rfl, ?_, ?_⟩
      · simp only [execOp, Act.eval, d24, d26]; first | (go_simp; done) | rfl
      · try dsimp only
        exact (slots_put (ns := 96) (hsa.size.trans rfl) (by decide))
      · exact Below.refl _ _
    | (n + 28), ho => exact absurd ho (by simp)
  case pdone =>
    intro a' w' hsa hb hd
    have d0 : a'.tmps.getD 16 undef = .bool true := hd 0 (by decide)
    have d1 : a'.tmps.getD 17 undef = .bool false := hd 1 (by decide)
    have d2 : a'.tmps.getD 18 undef = .bool false := hd 2 (by decide)
    have d3 : a'.tmps.getD 19 undef = .pointer (some ⟨sb, 1, none⟩) := hd 3 (by decide)
    have d4 : a'.tmps.getD 20 undef = .string xt := hd 4 (by decide)
    have d5 : a'.tmps.getD 21 undef = .pointer (some ⟨xb, 0, none⟩) := hd 5 (by decide)
    have d6 : a'.tmps.getD 22 undef = .pointer (some ⟨xb, 0, none⟩) := hd 6 (by decide)
    have d7 : a'.tmps.getD 23 undef = .pointer (some ⟨xb, 0, none⟩) := hd 7 (by decide)
    have d8 : a'.tmps.getD 24 undef = .string nm := hd 8 (by decide)
    have d9 : a'.tmps.getD 25 undef = .bool false := hd 9 (by decide)
    have d10 : a'.tmps.getD 26 undef = .bool false := hd 10 (by decide)
    have d11 : a'.tmps.getD 27 undef = .bool false := hd 11 (by decide)
    have d12 : a'.tmps.getD 28 undef = .pointer (some ⟨sb, 3, none⟩) := hd 12 (by decide)
    have d13 : a'.tmps.getD 29 undef = .int .i64 xx := hd 13 (by decide)
    have d14 : a'.tmps.getD 30 undef = .pointer (some ⟨xb, 0, none⟩) := hd 14 (by decide)
    have d15 : a'.tmps.getD 31 undef = .pointer (some ⟨xb, 0, none⟩) := hd 15 (by decide)
    have d16 : a'.tmps.getD 32 undef = .pointer (some ⟨xb, 2, none⟩) := hd 16 (by decide)
    have d17 : a'.tmps.getD 33 undef = .int .i64 fi := hd 17 (by decide)
    have d18 : a'.tmps.getD 34 undef = .bool false := hd 18 (by decide)
    have d19 : a'.tmps.getD 35 undef = .bool false := hd 19 (by decide)
    have d20 : a'.tmps.getD 36 undef = .bool false := hd 20 (by decide)
    have d21 : a'.tmps.getD 37 undef = .int .i64 n := hd 21 (by decide)
    have d22 : a'.tmps.getD 38 undef = .bool true := hd 22 (by decide)
    have d23 : a'.tmps.getD 39 undef = .bool true := hd 23 (by decide)
    have d24 : a'.tmps.getD 40 undef = .bool true := hd 24 (by decide)
    have d25 : a'.tmps.getD 41 undef = undef := hd 25 (by decide)
    have d26 : a'.tmps.getD 42 undef = undef := hd 26 (by decide)
    have d27 : a'.tmps.getD 43 undef = .bool true := hd 27 (by decide)
    exact HQ.out _ _ ⟨hsa.size.trans rfl, hsa.defers.trans rfl, hsa.rest 0 (by rfl), hsa.rest 1 (by rfl), hsa.rest 2 (by rfl), hsa.rest 3 (by rfl), hsa.rest 6 (by rfl), hsa.rest 7 (by rfl), hsa.rest 8 (by rfl), hsa.rest 9 (by rfl), hsa.rest 10 (by rfl), hsa.rest 11 (by rfl), hsa.rest 12 (by rfl), hsa.rest 13 (by rfl)⟩ d27 hb
set_option maxHeartbeats 8000000 in
set_option maxRecDepth 100000 in
theorem zp_r2c4 {K : Act → World → Prop} {c : Code} (hc : regOf (Try.f17.body.getD .skip) 2 = some c) (a : Act) {v : Vzp} {wq : World} {sb xb : Nat} {nm : ByteArray} {n fi : Int} {xn xt : ByteArray} {xc xx : Int} (hF : Fzp a v) (h1v : v.v1 = .pointer (some ⟨xb, 0, none⟩)) (h2v : v.v2 = .int .i64 n) (h3v : v.v3 = .pointer (some ⟨sb, 0, none⟩)) (h9v : v.v9 = .bool true) (hSs : wq.heap[sb]? = some (.cells #[.string xn, .string xt, .int .i64 xc, .int .i64 xx] 37 (0, 0))) (hlx : xb < wq.heap.size) (hx0 : wq.cell? ⟨xb, 0, none⟩ = some (.string nm)) (hx2 : wq.cell? ⟨xb, 2, none⟩ = some (.int .i64 fi)) (hn : (xt.toList == nm.toList) = true) (h2 : ¬ fi < xx) (h3 : ¬ n < 1) (h4 : 50 < n)
    (hQ : ∀ a' w', Fzp a' v → a'.tmps.getD 43 undef = .bool true → Below wq.heap.size wq w' → K a' w') :
    Code.wp Try.prog c (Exit.then K fun _ _ _ => False) a wq := by
  have HQ := hide hQ
  clear hQ
  obtain ⟨t', d'⟩ := a
  obtain ⟨v0, v1, v2, v3, v6, v7, v8, v9, v10, v11, v12, v13⟩ := v
  simp only at h1v h2v h3v h9v HQ
  subst h1v h2v h3v h9v
  obtain ⟨hs1, hd1, q0, q1, q2, q3, q6, q7, q8, q9, q10, q11, q12, q13⟩ := hF
  obtain ⟨u, hu⟩ := frame_zp t' hs1
  simp only at hd1 q0 q1 q2 q3 q6 q7 q8 q9 q10 q11 q12 q13
  subst hu hd1
  have e0 : u 0 = v0 := q0
  have e1 : u 1 = .pointer (some ⟨xb, 0, none⟩) := q1
  have e2 : u 2 = .int .i64 n := q2
  have e3 : u 3 = .pointer (some ⟨sb, 0, none⟩) := q3
  have e6 : u 6 = v6 := q6
  have e7 : u 7 = v7 := q7
  have e8 : u 8 = v8 := q8
  have e9 : u 9 = .bool true := q9
  have e10 : u 10 = v10 := q10
  have e11 : u 11 = v11 := q11
  have e12 : u 12 = v12 := q12
  have e13 : u 13 = v13 := q13
  rw [e0, e1, e2, e3, e6, e7, e8, e9, e10, e11, e12, e13]
  clear q0 e0 q1 e1 q2 e2 q3 e3 q6 e6 q7 e7 q8 e8 q9 e9 q10 e10 q11 e11 q12 e12 q13 e13 hs1
  simp only [Try.f17, Option.getD_some, regOf] at hc
  injection hc with hc
  subst hc
  have HSS := hide hSs
  have HLS := hide (heap_lt hSs)
  have HLX := hide hlx
  have HX0 := hide hx0
  have HX2 := hide hx2
  clear hSs hlx hx0 hx2
  have HN := hide hn
  clear hn
  have H2 := hide h2
  have H2b : Hid (¬ xx > fi) := h2
  clear h2
  have H3 := hide h3
  clear h3
  have H4 := hide h4
  have H4b : Hid (n > 50) := h4
  clear h4
  refine wp_region_phi (by kernel_rfl) (ns := 96) (uses := (fun i => match i with | 0 => [16] | 1 => [17] | 2 => [18] | 3 => [19] | 4 => [20] | 5 => [21] | 6 => [22] | 7 => [23] | 8 => [24] | 9 => [25] | 10 => [26] | 11 => [27] | 12 => [28] | 13 => [29] | 14 => [30] | 15 => [31] | 16 => [32] | 17 => [33] | 18 => [34] | 19 => [35] | 20 => [36] | 21 => [37] | 22 => [38] | 23 => [39] | 24 => [40] | 25 => [41] | 26 => [42] | 27 => [43] | _ => [])) (by kernel_rfl) (by kernel_rfl) (fun _ w w' => Below w.heap.size w w') (fun w => Below wq.heap.size wq w) (fun _ _ _ h r => h.trans (r.mono h.size)) ((Below.refl _ _).drew) (fun i => match i with | 0 => fun s w => s 16 = .bool true | 1 => fun s w => s 17 = .bool false | 2 => fun s w => s 18 = .bool false | 3 => fun s w => s 19 = .pointer (some ⟨sb, 1, none⟩) | 4 => fun s w => s 20 = .string xt | 5 => fun s w => s 21 = .pointer (some ⟨xb, 0, none⟩) | 6 => fun s w => s 22 = .pointer (some ⟨xb, 0, none⟩) | 7 => fun s w => s 23 = .pointer (some ⟨xb, 0, none⟩) | 8 => fun s w => s 24 = .string nm | 9 => fun s w => s 25 = .bool false | 10 => fun s w => s 26 = .bool false | 11 => fun s w => s 27 = .bool false | 12 => fun s w => s 28 = .pointer (some ⟨sb, 3, none⟩) | 13 => fun s w => s 29 = .int .i64 xx | 14 => fun s w => s 30 = .pointer (some ⟨xb, 0, none⟩) | 15 => fun s w => s 31 = .pointer (some ⟨xb, 0, none⟩) | 16 => fun s w => s 32 = .pointer (some ⟨xb, 2, none⟩) | 17 => fun s w => s 33 = .int .i64 fi | 18 => fun s w => s 34 = .bool false | 19 => fun s w => s 35 = .bool false | 20 => fun s w => s 36 = .bool false | 21 => fun s w => s 37 = .int .i64 n | 22 => fun s w => s 38 = .bool false | 23 => fun s w => s 39 = .bool false | 24 => fun s w => s 40 = .bool false | 25 => fun s w => s 41 = .int .i64 n | 26 => fun s w => s 42 = .bool true | 27 => fun s w => s 43 = .bool true | _ => fun _ _ => True) ?phc ?phh ?pstep ?pdone
  case phc =>
    intro i s s' w hx h
    match i, hx, h with
    | 0, hx, h => exact (hx 16 (by simp)).symm.trans h
    | 1, hx, h => exact (hx 17 (by simp)).symm.trans h
    | 2, hx, h => exact (hx 18 (by simp)).symm.trans h
    | 3, hx, h => exact (hx 19 (by simp)).symm.trans h
    | 4, hx, h => exact (hx 20 (by simp)).symm.trans h
    | 5, hx, h => exact (hx 21 (by simp)).symm.trans h
    | 6, hx, h => exact (hx 22 (by simp)).symm.trans h
    | 7, hx, h => exact (hx 23 (by simp)).symm.trans h
    | 8, hx, h => exact (hx 24 (by simp)).symm.trans h
    | 9, hx, h => exact (hx 25 (by simp)).symm.trans h
    | 10, hx, h => exact (hx 26 (by simp)).symm.trans h
    | 11, hx, h => exact (hx 27 (by simp)).symm.trans h
    | 12, hx, h => exact (hx 28 (by simp)).symm.trans h
    | 13, hx, h => exact (hx 29 (by simp)).symm.trans h
    | 14, hx, h => exact (hx 30 (by simp)).symm.trans h
    | 15, hx, h => exact (hx 31 (by simp)).symm.trans h
    | 16, hx, h => exact (hx 32 (by simp)).symm.trans h
    | 17, hx, h => exact (hx 33 (by simp)).symm.trans h
    | 18, hx, h => exact (hx 34 (by simp)).symm.trans h
    | 19, hx, h => exact (hx 35 (by simp)).symm.trans h
    | 20, hx, h => exact (hx 36 (by simp)).symm.trans h
    | 21, hx, h => exact (hx 37 (by simp)).symm.trans h
    | 22, hx, h => exact (hx 38 (by simp)).symm.trans h
    | 23, hx, h => exact (hx 39 (by simp)).symm.trans h
    | 24, hx, h => exact (hx 40 (by simp)).symm.trans h
    | 25, hx, h => exact (hx 41 (by simp)).symm.trans h
    | 26, hx, h => exact (hx 42 (by simp)).symm.trans h
    | 27, hx, h => exact (hx 43 (by simp)).symm.trans h
    | (n + 28), _, h => exact h
  case phh =>
    intro i j s w w' hij h hb r
    match i, hij, h with
    | 0, hij, h =>
      exact h
    | 1, hij, h =>
      exact h
    | 2, hij, h =>
      exact h
    | 3, hij, h =>
      exact h
    | 4, hij, h =>
      exact h
    | 5, hij, h =>
      exact h
    | 6, hij, h =>
      exact h
    | 7, hij, h =>
      exact h
    | 8, hij, h =>
      exact h
    | 9, hij, h =>
      exact h
    | 10, hij, h =>
      exact h
    | 11, hij, h =>
      exact h
    | 12, hij, h =>
      exact h
    | 13, hij, h =>
      exact h
    | 14, hij, h =>
      exact h
    | 15, hij, h =>
      exact h
    | 16, hij, h =>
      exact h
    | 17, hij, h =>
      exact h
    | 18, hij, h =>
      exact h
    | 19, hij, h =>
      exact h
    | 20, hij, h =>
      exact h
    | 21, hij, h =>
      exact h
    | 22, hij, h =>
      exact h
    | 23, hij, h =>
      exact h
    | 24, hij, h =>
      exact h
    | 25, hij, h =>
      exact h
    | 26, hij, h =>
      exact h
    | 27, hij, h =>
      exact h
    | (n + 28), _, h => exact h
  case pstep =>
    intro i o ho a' w' hsa hb hd
    match i, ho with
    | 0, ho =>
      obtain rfl := Option.some.inj ho
      try dsimp only at hd
      have g9 : a'.tmps.getD 9 undef = .bool true := hsa.rest 9 (by rfl)
      refine wpOp_of rfl rfl ?_
      refine op_run (v := .bool true) (w' := w') ?_ ⟨_, rfl, ?_, ?_⟩
      · simp only [execOp, Act.eval, g9]; first | (go_simp; done) | rfl
      · try dsimp only
        exact (slots_put (ns := 96) (hsa.size.trans rfl) (by decide))
      · exact Below.refl _ _
    | 1, ho =>
      obtain rfl := Option.some.inj ho
      try dsimp only at hd
      have d0 : a'.tmps.getD 16 undef = .bool true := hd 0 (by rfl)
      refine wpOp_of rfl rfl ?_
      refine op_run (v := .bool false) (w' := w') ?_ ⟨_, rfl, ?_, ?_⟩
      · simp only [execOp, Act.eval, d0]; first | (go_simp; done) | rfl
      · try dsimp only
        exact (slots_put (ns := 96) (hsa.size.trans rfl) (by decide))
      · exact Below.refl _ _
    | 2, ho =>
      obtain rfl := Option.some.inj ho
      try dsimp only at hd
      have d1 : a'.tmps.getD 17 undef = .bool false := hd 1 (by rfl)
      refine wpOp_of rfl rfl ?_
      refine op_run (v := .bool false) (w' := w') ?_ ⟨_, rfl, ?_, ?_⟩
      · simp only [execOp, Act.eval, d1]; first | (go_simp; done) | rfl
      · try dsimp only
        exact (slots_put (ns := 96) (hsa.size.trans rfl) (by decide))
      · exact Below.refl _ _
    | 3, ho =>
      obtain rfl := Option.some.inj ho
      try dsimp only at hd
      have d2 : a'.tmps.getD 18 undef = .bool false := hd 2 (by rfl)
      have g3 : a'.tmps.getD 3 undef = .pointer (some ⟨sb, 0, none⟩) := hsa.rest 3 (by rfl)
      refine wpOp_on (j := 2) (dj := 18) rfl rfl rfl d2 ?_
      refine op_run (v := .pointer (some ⟨sb, 1, none⟩)) (w' := w') ?_ ⟨_, rfl, ?_, ?_⟩
      · simp only [execOp, Act.eval, d2, g3]; first | (go_simp; done) | rfl
      · try dsimp only
        exact (slots_put (ns := 96) (hsa.size.trans rfl) (by decide))
      · exact Below.refl _ _
    | 4, ho =>
      obtain rfl := Option.some.inj ho
      try dsimp only at hd
      have d2 : a'.tmps.getD 18 undef = .bool false := hd 2 (by rfl)
      have d3 : a'.tmps.getD 19 undef = .pointer (some ⟨sb, 1, none⟩) := hd 3 (by rfl)
      have y : w'.cell? ⟨sb, 1, none⟩ = some (.string xt) := (hb.cell (p := ⟨sb, 1, none⟩) HLS.out).trans (box_cell HSS.out 1 rfl)
      refine wpOp_on (j := 2) (dj := 18) rfl rfl rfl d2 ?_
      refine op_run (v := .string xt) (w' := w') ?_ ⟨_, rfl, ?_, ?_⟩
      · simp only [execOp, Act.eval, d2, d3, y]; first | (go_simp; done) | rfl
      · try dsimp only
        exact (slots_put (ns := 96) (hsa.size.trans rfl) (by decide))
      · exact Below.refl _ _
    | 5, ho =>
      obtain rfl := Option.some.inj ho
      try dsimp only at hd
      have d2 : a'.tmps.getD 18 undef = .bool false := hd 2 (by rfl)
      have g1 : a'.tmps.getD 1 undef = .pointer (some ⟨xb, 0, none⟩) := hsa.rest 1 (by rfl)
      refine wpOp_on (j := 2) (dj := 18) rfl rfl rfl d2 ?_
      refine op_run (v := .pointer (some ⟨xb, 0, none⟩)) (w' := w') ?_ ⟨_, rfl, ?_, ?_⟩
      · simp only [execOp, Act.eval, d2, g1]; first | (go_simp; done) | rfl
      · try dsimp only
        exact (slots_put (ns := 96) (hsa.size.trans rfl) (by decide))
      · exact Below.refl _ _
    | 6, ho =>
      obtain rfl := Option.some.inj ho
      try dsimp only at hd
      have d2 : a'.tmps.getD 18 undef = .bool false := hd 2 (by rfl)
      have d5 : a'.tmps.getD 21 undef = .pointer (some ⟨xb, 0, none⟩) := hd 5 (by rfl)
      refine wpOp_on (j := 2) (dj := 18) rfl rfl rfl d2 ?_
      refine op_run (v := .pointer (some ⟨xb, 0, none⟩)) (w' := w') ?_ ⟨_, rfl, ?_, ?_⟩
      · simp only [execOp, Act.eval, d2, d5]; first | (go_simp; done) | rfl
      · try dsimp only
        exact (slots_put (ns := 96) (hsa.size.trans rfl) (by decide))
      · exact Below.refl _ _
    | 7, ho =>
      obtain rfl := Option.some.inj ho
      try dsimp only at hd
      have d2 : a'.tmps.getD 18 undef = .bool false := hd 2 (by rfl)
      have d6 : a'.tmps.getD 22 undef = .pointer (some ⟨xb, 0, none⟩) := hd 6 (by rfl)
      refine wpOp_on (j := 2) (dj := 18) rfl rfl rfl d2 ?_
      refine op_run (v := .pointer (some ⟨xb, 0, none⟩)) (w' := w') ?_ ⟨_, rfl, ?_, ?_⟩
      · simp only [execOp, Act.eval, d2, d6]; first | (go_simp; done) | rfl
      · try dsimp only
        exact (slots_put (ns := 96) (hsa.size.trans rfl) (by decide))
      · exact Below.refl _ _
    | 8, ho =>
      obtain rfl := Option.some.inj ho
      try dsimp only at hd
      have d2 : a'.tmps.getD 18 undef = .bool false := hd 2 (by rfl)
      have d7 : a'.tmps.getD 23 undef = .pointer (some ⟨xb, 0, none⟩) := hd 7 (by rfl)
      have y : w'.cell? ⟨xb, 0, none⟩ = some (.string nm) := (hb.cell (p := ⟨xb, 0, none⟩) HLX.out).trans HX0.out
      refine wpOp_on (j := 2) (dj := 18) rfl rfl rfl d2 ?_
      refine op_run (v := .string nm) (w' := w') ?_ ⟨_, rfl, ?_, ?_⟩
      · simp only [execOp, Act.eval, d2, d7, y]; first | (go_simp; done) | rfl
      · try dsimp only
        exact (slots_put (ns := 96) (hsa.size.trans rfl) (by decide))
      · exact Below.refl _ _
    | 9, ho =>
      obtain rfl := Option.some.inj ho
      try dsimp only at hd
      have d2 : a'.tmps.getD 18 undef = .bool false := hd 2 (by rfl)
      have d4 : a'.tmps.getD 20 undef = .string xt := hd 4 (by rfl)
      have d8 : a'.tmps.getD 24 undef = .string nm := hd 8 (by rfl)
      have y := HN.out
      refine wpOp_on (j := 2) (dj := 18) rfl rfl rfl d2 ?_
      refine op_run (v := .bool false) (w' := w') ?_ ⟨_, rfl, ?_, ?_⟩
      · simp only [execOp, Act.eval, d2, d4, d8, y]; first | (go_simp; done) | rfl
      · try dsimp only
        exact (slots_put (ns := 96) (hsa.size.trans rfl) (by decide))
      · exact Below.refl _ _
    | 10, ho =>
      obtain rfl := Option.some.inj ho
      try dsimp only at hd
      have d2 : a'.tmps.getD 18 undef = .bool false := hd 2 (by rfl)
      have d9 : a'.tmps.getD 25 undef = .bool false := hd 9 (by rfl)
      refine wpOp_of rfl rfl ?_
      refine op_run (v := .bool false) (w' := w') ?_ ⟨_, rfl, ?_, ?_⟩
      · simp only [execOp, Act.eval, d2, d9]; first | (go_simp; done) | rfl
      · try dsimp only
        exact (slots_put (ns := 96) (hsa.size.trans rfl) (by decide))
      · exact Below.refl _ _
    | 11, ho =>
      obtain rfl := Option.some.inj ho
      try dsimp only at hd
      have d10 : a'.tmps.getD 26 undef = .bool false := hd 10 (by rfl)
      refine wpOp_of rfl rfl ?_
      refine op_run (v := .bool false) (w' := w') ?_ ⟨_, rfl, ?_, ?_⟩
      · simp only [execOp, Act.eval, d10]; first | (go_simp; done) | rfl
      · try dsimp only
        exact (slots_put (ns := 96) (hsa.size.trans rfl) (by decide))
      · exact Below.refl _ _
    | 12, ho =>
      obtain rfl := Option.some.inj ho
      try dsimp only at hd
      have d11 : a'.tmps.getD 27 undef = .bool false := hd 11 (by rfl)
      have g3 : a'.tmps.getD 3 undef = .pointer (some ⟨sb, 0, none⟩) := hsa.rest 3 (by rfl)
      refine wpOp_on (j := 11) (dj := 27) rfl rfl rfl d11 ?_
      refine op_run (v := .pointer (some ⟨sb, 3, none⟩)) (w' := w') ?_ ⟨_, rfl, ?_, ?_⟩
      · simp only [execOp, Act.eval, d11, g3]; first | (go_simp; done) | rfl
      · try dsimp only
        exact (slots_put (ns := 96) (hsa.size.trans rfl) (by decide))
      · exact Below.refl _ _
    | 13, ho =>
      obtain rfl := Option.some.inj ho
      try dsimp only at hd
      have d11 : a'.tmps.getD 27 undef = .bool false := hd 11 (by rfl)
      have d12 : a'.tmps.getD 28 undef = .pointer (some ⟨sb, 3, none⟩) := hd 12 (by rfl)
      have y : w'.cell? ⟨sb, 3, none⟩ = some (.int .i64 xx) := (hb.cell (p := ⟨sb, 3, none⟩) HLS.out).trans (box_cell HSS.out 3 rfl)
      refine wpOp_on (j := 11) (dj := 27) rfl rfl rfl d11 ?_
      refine op_run (v := .int .i64 xx) (w' := w') ?_ ⟨_, rfl, ?_, ?_⟩
      · simp only [execOp, Act.eval, d11, d12, y]; first | (go_simp; done) | rfl
      · try dsimp only
        exact (slots_put (ns := 96) (hsa.size.trans rfl) (by decide))
      · exact Below.refl _ _
    | 14, ho =>
      obtain rfl := Option.some.inj ho
      try dsimp only at hd
      have d11 : a'.tmps.getD 27 undef = .bool false := hd 11 (by rfl)
      have g1 : a'.tmps.getD 1 undef = .pointer (some ⟨xb, 0, none⟩) := hsa.rest 1 (by rfl)
      refine wpOp_on (j := 11) (dj := 27) rfl rfl rfl d11 ?_
      refine op_run (v := .pointer (some ⟨xb, 0, none⟩)) (w' := w') ?_ ⟨_, rfl, ?_, ?_⟩
      · simp only [execOp, Act.eval, d11, g1]; first | (go_simp; done) | rfl
      · try dsimp only
        exact (slots_put (ns := 96) (hsa.size.trans rfl) (by decide))
      · exact Below.refl _ _
    | 15, ho =>
      obtain rfl := Option.some.inj ho
      try dsimp only at hd
      have d11 : a'.tmps.getD 27 undef = .bool false := hd 11 (by rfl)
      have d14 : a'.tmps.getD 30 undef = .pointer (some ⟨xb, 0, none⟩) := hd 14 (by rfl)
      refine wpOp_on (j := 11) (dj := 27) rfl rfl rfl d11 ?_
      refine op_run (v := .pointer (some ⟨xb, 0, none⟩)) (w' := w') ?_ ⟨_, rfl, ?_, ?_⟩
      · simp only [execOp, Act.eval, d11, d14]; first | (go_simp; done) | rfl
      · try dsimp only
        exact (slots_put (ns := 96) (hsa.size.trans rfl) (by decide))
      · exact Below.refl _ _
    | 16, ho =>
      obtain rfl := Option.some.inj ho
      try dsimp only at hd
      have d11 : a'.tmps.getD 27 undef = .bool false := hd 11 (by rfl)
      have d15 : a'.tmps.getD 31 undef = .pointer (some ⟨xb, 0, none⟩) := hd 15 (by rfl)
      refine wpOp_on (j := 11) (dj := 27) rfl rfl rfl d11 ?_
      refine op_run (v := .pointer (some ⟨xb, 2, none⟩)) (w' := w') ?_ ⟨_, rfl, ?_, ?_⟩
      · simp only [execOp, Act.eval, d11, d15]; first | (go_simp; done) | rfl
      · try dsimp only
        exact (slots_put (ns := 96) (hsa.size.trans rfl) (by decide))
      · exact Below.refl _ _
    | 17, ho =>
      obtain rfl := Option.some.inj ho
      try dsimp only at hd
      have d11 : a'.tmps.getD 27 undef = .bool false := hd 11 (by rfl)
      have d16 : a'.tmps.getD 32 undef = .pointer (some ⟨xb, 2, none⟩) := hd 16 (by rfl)
      have y : w'.cell? ⟨xb, 2, none⟩ = some (.int .i64 fi) := (hb.cell (p := ⟨xb, 2, none⟩) HLX.out).trans HX2.out
      refine wpOp_on (j := 11) (dj := 27) rfl rfl rfl d11 ?_
      refine op_run (v := .int .i64 fi) (w' := w') ?_ ⟨_, rfl, ?_, ?_⟩
      · simp only [execOp, Act.eval, d11, d16, y]; first | (go_simp; done) | rfl
      · try dsimp only
        exact (slots_put (ns := 96) (hsa.size.trans rfl) (by decide))
      · exact Below.refl _ _
    | 18, ho =>
      obtain rfl := Option.some.inj ho
      try dsimp only at hd
      have d11 : a'.tmps.getD 27 undef = .bool false := hd 11 (by rfl)
      have d13 : a'.tmps.getD 29 undef = .int .i64 xx := hd 13 (by rfl)
      have d17 : a'.tmps.getD 33 undef = .int .i64 fi := hd 17 (by rfl)
      have y := H2.out
      have y2 := H2b.out
      refine wpOp_on (j := 11) (dj := 27) rfl rfl rfl d11 ?_
      refine op_run (v := .bool false) (w' := w') ?_ ⟨_, rfl, ?_, ?_⟩
      · simp only [execOp, Act.eval, d11, d13, d17, y, y2]; first | (go_simp; done) | rfl
      · try dsimp only
        exact (slots_put (ns := 96) (hsa.size.trans rfl) (by decide))
      · exact Below.refl _ _
    | 19, ho =>
      obtain rfl := Option.some.inj ho
      try dsimp only at hd
      have d11 : a'.tmps.getD 27 undef = .bool false := hd 11 (by rfl)
      have d18 : a'.tmps.getD 34 undef = .bool false := hd 18 (by rfl)
      refine wpOp_of rfl rfl ?_
      refine op_run (v := .bool false) (w' := w') ?_ ⟨_, rfl, ?_, ?_⟩
      · simp only [execOp, Act.eval, d11, d18]; first | (go_simp; done) | rfl
      · try dsimp only
        exact (slots_put (ns := 96) (hsa.size.trans rfl) (by decide))
      · exact Below.refl _ _
    | 20, ho =>
      obtain rfl := Option.some.inj ho
      try dsimp only at hd
      have d19 : a'.tmps.getD 35 undef = .bool false := hd 19 (by rfl)
      refine wpOp_of rfl rfl ?_
      refine op_run (v := .bool false) (w' := w') ?_ ⟨_, rfl, ?_, ?_⟩
      · simp only [execOp, Act.eval, d19]; first | (go_simp; done) | rfl
      · try dsimp only
        exact (slots_put (ns := 96) (hsa.size.trans rfl) (by decide))
      · exact Below.refl _ _
    | 21, ho =>
      obtain rfl := Option.some.inj ho
      try dsimp only at hd
      have d20 : a'.tmps.getD 36 undef = .bool false := hd 20 (by rfl)
      have g2 : a'.tmps.getD 2 undef = .int .i64 n := hsa.rest 2 (by rfl)
      refine wpOp_on (j := 20) (dj := 36) rfl rfl rfl d20 ?_
      refine op_run (v := .int .i64 n) (w' := w') ?_ ⟨_, rfl, ?_, ?_⟩
      · simp only [execOp, Act.eval, d20, g2]; first | (go_simp; done) | rfl
      · try dsimp only
        exact (slots_put (ns := 96) (hsa.size.trans rfl) (by decide))
      · exact Below.refl _ _
    | 22, ho =>
      obtain rfl := Option.some.inj ho
      try dsimp only at hd
      have d20 : a'.tmps.getD 36 undef = .bool false := hd 20 (by rfl)
      have d21 : a'.tmps.getD 37 undef = .int .i64 n := hd 21 (by rfl)
      have y := H3.out
      refine wpOp_on (j := 20) (dj := 36) rfl rfl rfl d20 ?_
      refine op_run (v := .bool false) (w' := w') ?_ ⟨_, rfl, ?_, ?_⟩
      · simp only [execOp, Act.eval, d20, d21, y]; first | (go_simp; done) | rfl
      · try dsimp only
        exact (slots_put (ns := 96) (hsa.size.trans rfl) (by decide))
      · exact Below.refl _ _
    | 23, ho =>
      obtain rfl := Option.some.inj ho
      try dsimp only at hd
      have d20 : a'.tmps.getD 36 undef = .bool false := hd 20 (by rfl)
      have d22 : a'.tmps.getD 38 undef = .bool false := hd 22 (by rfl)
      refine wpOp_of rfl rfl ?_
      refine op_run (v := .bool false) (w' := w') ?_ ⟨_, rfl, ?_, ?_⟩
      · simp only [execOp, Act.eval, d20, d22]; first | (go_simp; done) | rfl
      · try dsimp only
        exact (slots_put (ns := 96) (hsa.size.trans rfl) (by decide))
      · exact Below.refl _ _
    | 24, ho =>
      obtain rfl := Option.some.inj ho
      try dsimp only at hd
      have d23 : a'.tmps.getD 39 undef = .bool false := hd 23 (by rfl)
      refine wpOp_of rfl rfl ?_
      refine op_run (v := .bool false) (w' := w') ?_ ⟨_, rfl, ?_, ?_⟩
      · simp only [execOp, Act.eval, d23]; first | (go_simp; done) | rfl
      · try dsimp only
        exact (slots_put (ns := 96) (hsa.size.trans rfl) (by decide))
      · exact Below.refl _ _
    | 25, ho =>
      obtain rfl := Option.some.inj ho
      try dsimp only at hd
      have d24 : a'.tmps.getD 40 undef = .bool false := hd 24 (by rfl)
      have g2 : a'.tmps.getD 2 undef = .int .i64 n := hsa.rest 2 (by rfl)
      refine wpOp_on (j := 24) (dj := 40) rfl rfl rfl d24 ?_
      refine op_run (v := .int .i64 n) (w' := w') ?_ ⟨_, rfl, ?_, ?_⟩
      · simp only [execOp, Act.eval, d24, g2]; first | (go_simp; done) | rfl
      · try dsimp only
        exact (slots_put (ns := 96) (hsa.size.trans rfl) (by decide))
      · exact Below.refl _ _
    | 26, ho =>
      obtain rfl := Option.some.inj ho
      try dsimp only at hd
      have d24 : a'.tmps.getD 40 undef = .bool false := hd 24 (by rfl)
      have d25 : a'.tmps.getD 41 undef = .int .i64 n := hd 25 (by rfl)
      have y := H4.out
      have y2 := H4b.out
      refine wpOp_on (j := 24) (dj := 40) rfl rfl rfl d24 ?_
      refine op_run (v := .bool true) (w' := w') ?_ ⟨_, rfl, ?_, ?_⟩
      · simp only [execOp, Act.eval, d24, d25, y, y2]; first | (go_simp; done) | rfl
      · try dsimp only
        exact (slots_put (ns := 96) (hsa.size.trans rfl) (by decide))
      · exact Below.refl _ _
    | 27, ho =>
      obtain rfl := Option.some.inj ho
      try dsimp only at hd
      have d24 : a'.tmps.getD 40 undef = .bool false := hd 24 (by rfl)
      have d26 : a'.tmps.getD 42 undef = .bool true := hd 26 (by rfl)
      refine wpOp_of rfl rfl ?_
      refine op_run (v := .bool true) (w' := w') ?_ ⟨_, rfl, ?_, ?_⟩
      · simp only [execOp, Act.eval, d24, d26]; first | (go_simp; done) | rfl
      · try dsimp only
        exact (slots_put (ns := 96) (hsa.size.trans rfl) (by decide))
      · exact Below.refl _ _
    | (n + 28), ho => exact absurd ho (by simp)
  case pdone =>
    intro a' w' hsa hb hd
    have d0 : a'.tmps.getD 16 undef = .bool true := hd 0 (by decide)
    have d1 : a'.tmps.getD 17 undef = .bool false := hd 1 (by decide)
    have d2 : a'.tmps.getD 18 undef = .bool false := hd 2 (by decide)
    have d3 : a'.tmps.getD 19 undef = .pointer (some ⟨sb, 1, none⟩) := hd 3 (by decide)
    have d4 : a'.tmps.getD 20 undef = .string xt := hd 4 (by decide)
    have d5 : a'.tmps.getD 21 undef = .pointer (some ⟨xb, 0, none⟩) := hd 5 (by decide)
    have d6 : a'.tmps.getD 22 undef = .pointer (some ⟨xb, 0, none⟩) := hd 6 (by decide)
    have d7 : a'.tmps.getD 23 undef = .pointer (some ⟨xb, 0, none⟩) := hd 7 (by decide)
    have d8 : a'.tmps.getD 24 undef = .string nm := hd 8 (by decide)
    have d9 : a'.tmps.getD 25 undef = .bool false := hd 9 (by decide)
    have d10 : a'.tmps.getD 26 undef = .bool false := hd 10 (by decide)
    have d11 : a'.tmps.getD 27 undef = .bool false := hd 11 (by decide)
    have d12 : a'.tmps.getD 28 undef = .pointer (some ⟨sb, 3, none⟩) := hd 12 (by decide)
    have d13 : a'.tmps.getD 29 undef = .int .i64 xx := hd 13 (by decide)
    have d14 : a'.tmps.getD 30 undef = .pointer (some ⟨xb, 0, none⟩) := hd 14 (by decide)
    have d15 : a'.tmps.getD 31 undef = .pointer (some ⟨xb, 0, none⟩) := hd 15 (by decide)
    have d16 : a'.tmps.getD 32 undef = .pointer (some ⟨xb, 2, none⟩) := hd 16 (by decide)
    have d17 : a'.tmps.getD 33 undef = .int .i64 fi := hd 17 (by decide)
    have d18 : a'.tmps.getD 34 undef = .bool false := hd 18 (by decide)
    have d19 : a'.tmps.getD 35 undef = .bool false := hd 19 (by decide)
    have d20 : a'.tmps.getD 36 undef = .bool false := hd 20 (by decide)
    have d21 : a'.tmps.getD 37 undef = .int .i64 n := hd 21 (by decide)
    have d22 : a'.tmps.getD 38 undef = .bool false := hd 22 (by decide)
    have d23 : a'.tmps.getD 39 undef = .bool false := hd 23 (by decide)
    have d24 : a'.tmps.getD 40 undef = .bool false := hd 24 (by decide)
    have d25 : a'.tmps.getD 41 undef = .int .i64 n := hd 25 (by decide)
    have d26 : a'.tmps.getD 42 undef = .bool true := hd 26 (by decide)
    have d27 : a'.tmps.getD 43 undef = .bool true := hd 27 (by decide)
    exact HQ.out _ _ ⟨hsa.size.trans rfl, hsa.defers.trans rfl, hsa.rest 0 (by rfl), hsa.rest 1 (by rfl), hsa.rest 2 (by rfl), hsa.rest 3 (by rfl), hsa.rest 6 (by rfl), hsa.rest 7 (by rfl), hsa.rest 8 (by rfl), hsa.rest 9 (by rfl), hsa.rest 10 (by rfl), hsa.rest 11 (by rfl), hsa.rest 12 (by rfl), hsa.rest 13 (by rfl)⟩ d27 hb
set_option maxHeartbeats 8000000 in
set_option maxRecDepth 100000 in
theorem zp_r2c5 {K : Act → World → Prop} {c : Code} (hc : regOf (Try.f17.body.getD .skip) 2 = some c) (a : Act) {v : Vzp} {wq : World} {sb xb : Nat} {nm : ByteArray} {n fi : Int} {xn xt : ByteArray} {xc xx : Int} (hF : Fzp a v) (h1v : v.v1 = .pointer (some ⟨xb, 0, none⟩)) (h2v : v.v2 = .int .i64 n) (h3v : v.v3 = .pointer (some ⟨sb, 0, none⟩)) (h9v : v.v9 = .bool true) (hSs : wq.heap[sb]? = some (.cells #[.string xn, .string xt, .int .i64 xc, .int .i64 xx] 37 (0, 0))) (hlx : xb < wq.heap.size) (hx0 : wq.cell? ⟨xb, 0, none⟩ = some (.string nm)) (hx2 : wq.cell? ⟨xb, 2, none⟩ = some (.int .i64 fi)) (hn : (xt.toList == nm.toList) = true) (h2 : ¬ fi < xx) (h3 : ¬ n < 1) (h4 : ¬ 50 < n)
    (hQ : ∀ a' w', Fzp a' v → a'.tmps.getD 43 undef = .bool false → Below wq.heap.size wq w' → K a' w') :
    Code.wp Try.prog c (Exit.then K fun _ _ _ => False) a wq := by
  have HQ := hide hQ
  clear hQ
  obtain ⟨t', d'⟩ := a
  obtain ⟨v0, v1, v2, v3, v6, v7, v8, v9, v10, v11, v12, v13⟩ := v
  simp only at h1v h2v h3v h9v HQ
  subst h1v h2v h3v h9v
  obtain ⟨hs1, hd1, q0, q1, q2, q3, q6, q7, q8, q9, q10, q11, q12, q13⟩ := hF
  obtain ⟨u, hu⟩ := frame_zp t' hs1
  simp only at hd1 q0 q1 q2 q3 q6 q7 q8 q9 q10 q11 q12 q13
  subst hu hd1
  have e0 : u 0 = v0 := q0
  have e1 : u 1 = .pointer (some ⟨xb, 0, none⟩) := q1
  have e2 : u 2 = .int .i64 n := q2
  have e3 : u 3 = .pointer (some ⟨sb, 0, none⟩) := q3
  have e6 : u 6 = v6 := q6
  have e7 : u 7 = v7 := q7
  have e8 : u 8 = v8 := q8
  have e9 : u 9 = .bool true := q9
  have e10 : u 10 = v10 := q10
  have e11 : u 11 = v11 := q11
  have e12 : u 12 = v12 := q12
  have e13 : u 13 = v13 := q13
  rw [e0, e1, e2, e3, e6, e7, e8, e9, e10, e11, e12, e13]
  clear q0 e0 q1 e1 q2 e2 q3 e3 q6 e6 q7 e7 q8 e8 q9 e9 q10 e10 q11 e11 q12 e12 q13 e13 hs1
  simp only [Try.f17, Option.getD_some, regOf] at hc
  injection hc with hc
  subst hc
  have HSS := hide hSs
  have HLS := hide (heap_lt hSs)
  have HLX := hide hlx
  have HX0 := hide hx0
  have HX2 := hide hx2
  clear hSs hlx hx0 hx2
  have HN := hide hn
  clear hn
  have H2 := hide h2
  have H2b : Hid (¬ xx > fi) := h2
  clear h2
  have H3 := hide h3
  clear h3
  have H4 := hide h4
  have H4b : Hid (¬ n > 50) := h4
  clear h4
  refine wp_region_phi (by kernel_rfl) (ns := 96) (uses := (fun i => match i with | 0 => [16] | 1 => [17] | 2 => [18] | 3 => [19] | 4 => [20] | 5 => [21] | 6 => [22] | 7 => [23] | 8 => [24] | 9 => [25] | 10 => [26] | 11 => [27] | 12 => [28] | 13 => [29] | 14 => [30] | 15 => [31] | 16 => [32] | 17 => [33] | 18 => [34] | 19 => [35] | 20 => [36] | 21 => [37] | 22 => [38] | 23 => [39] | 24 => [40] | 25 => [41] | 26 => [42] | 27 => [43] | _ => [])) (by kernel_rfl) (by kernel_rfl) (fun _ w w' => Below w.heap.size w w') (fun w => Below wq.heap.size wq w) (fun _ _ _ h r => h.trans (r.mono h.size)) ((Below.refl _ _).drew) (fun i => match i with | 0 => fun s w => s 16 = .bool true | 1 => fun s w => s 17 = .bool false | 2 => fun s w => s 18 = .bool false | 3 => fun s w => s 19 = .pointer (some ⟨sb, 1, none⟩) | 4 => fun s w => s 20 = .string xt | 5 => fun s w => s 21 = .pointer (some ⟨xb, 0, none⟩) | 6 => fun s w => s 22 = .pointer (some ⟨xb, 0, none⟩) | 7 => fun s w => s 23 = .pointer (some ⟨xb, 0, none⟩) | 8 => fun s w => s 24 = .string nm | 9 => fun s w => s 25 = .bool false | 10 => fun s w => s 26 = .bool false | 11 => fun s w => s 27 = .bool false | 12 => fun s w => s 28 = .pointer (some ⟨sb, 3, none⟩) | 13 => fun s w => s 29 = .int .i64 xx | 14 => fun s w => s 30 = .pointer (some ⟨xb, 0, none⟩) | 15 => fun s w => s 31 = .pointer (some ⟨xb, 0, none⟩) | 16 => fun s w => s 32 = .pointer (some ⟨xb, 2, none⟩) | 17 => fun s w => s 33 = .int .i64 fi | 18 => fun s w => s 34 = .bool false | 19 => fun s w => s 35 = .bool false | 20 => fun s w => s 36 = .bool false | 21 => fun s w => s 37 = .int .i64 n | 22 => fun s w => s 38 = .bool false | 23 => fun s w => s 39 = .bool false | 24 => fun s w => s 40 = .bool false | 25 => fun s w => s 41 = .int .i64 n | 26 => fun s w => s 42 = .bool false | 27 => fun s w => s 43 = .bool false | _ => fun _ _ => True) ?phc ?phh ?pstep ?pdone
  case phc =>
    intro i s s' w hx h
    match i, hx, h with
    | 0, hx, h => exact (hx 16 (by simp)).symm.trans h
    | 1, hx, h => exact (hx 17 (by simp)).symm.trans h
    | 2, hx, h => exact (hx 18 (by simp)).symm.trans h
    | 3, hx, h => exact (hx 19 (by simp)).symm.trans h
    | 4, hx, h => exact (hx 20 (by simp)).symm.trans h
    | 5, hx, h => exact (hx 21 (by simp)).symm.trans h
    | 6, hx, h => exact (hx 22 (by simp)).symm.trans h
    | 7, hx, h => exact (hx 23 (by simp)).symm.trans h
    | 8, hx, h => exact (hx 24 (by simp)).symm.trans h
    | 9, hx, h => exact (hx 25 (by simp)).symm.trans h
    | 10, hx, h => exact (hx 26 (by simp)).symm.trans h
    | 11, hx, h => exact (hx 27 (by simp)).symm.trans h
    | 12, hx, h => exact (hx 28 (by simp)).symm.trans h
    | 13, hx, h => exact (hx 29 (by simp)).symm.trans h
    | 14, hx, h => exact (hx 30 (by simp)).symm.trans h
    | 15, hx, h => exact (hx 31 (by simp)).symm.trans h
    | 16, hx, h => exact (hx 32 (by simp)).symm.trans h
    | 17, hx, h => exact (hx 33 (by simp)).symm.trans h
    | 18, hx, h => exact (hx 34 (by simp)).symm.trans h
    | 19, hx, h => exact (hx 35 (by simp)).symm.trans h
    | 20, hx, h => exact (hx 36 (by simp)).symm.trans h
    | 21, hx, h => exact (hx 37 (by simp)).symm.trans h
    | 22, hx, h => exact (hx 38 (by simp)).symm.trans h
    | 23, hx, h => exact (hx 39 (by simp)).symm.trans h
    | 24, hx, h => exact (hx 40 (by simp)).symm.trans h
    | 25, hx, h => exact (hx 41 (by simp)).symm.trans h
    | 26, hx, h => exact (hx 42 (by simp)).symm.trans h
    | 27, hx, h => exact (hx 43 (by simp)).symm.trans h
    | (n + 28), _, h => exact h
  case phh =>
    intro i j s w w' hij h hb r
    match i, hij, h with
    | 0, hij, h =>
      exact h
    | 1, hij, h =>
      exact h
    | 2, hij, h =>
      exact h
    | 3, hij, h =>
      exact h
    | 4, hij, h =>
      exact h
    | 5, hij, h =>
      exact h
    | 6, hij, h =>
      exact h
    | 7, hij, h =>
      exact h
    | 8, hij, h =>
      exact h
    | 9, hij, h =>
      exact h
    | 10, hij, h =>
      exact h
    | 11, hij, h =>
      exact h
    | 12, hij, h =>
      exact h
    | 13, hij, h =>
      exact h
    | 14, hij, h =>
      exact h
    | 15, hij, h =>
      exact h
    | 16, hij, h =>
      exact h
    | 17, hij, h =>
      exact h
    | 18, hij, h =>
      exact h
    | 19, hij, h =>
      exact h
    | 20, hij, h =>
      exact h
    | 21, hij, h =>
      exact h
    | 22, hij, h =>
      exact h
    | 23, hij, h =>
      exact h
    | 24, hij, h =>
      exact h
    | 25, hij, h =>
      exact h
    | 26, hij, h =>
      exact h
    | 27, hij, h =>
      exact h
    | (n + 28), _, h => exact h
  case pstep =>
    intro i o ho a' w' hsa hb hd
    match i, ho with
    | 0, ho =>
      obtain rfl := Option.some.inj ho
      try dsimp only at hd
      have g9 : a'.tmps.getD 9 undef = .bool true := hsa.rest 9 (by rfl)
      refine wpOp_of rfl rfl ?_
      refine op_run (v := .bool true) (w' := w') ?_ ⟨_, rfl, ?_, ?_⟩
      · simp only [execOp, Act.eval, g9]; first | (go_simp; done) | rfl
      · try dsimp only
        exact (slots_put (ns := 96) (hsa.size.trans rfl) (by decide))
      · exact Below.refl _ _
    | 1, ho =>
      obtain rfl := Option.some.inj ho
      try dsimp only at hd
      have d0 : a'.tmps.getD 16 undef = .bool true := hd 0 (by rfl)
      refine wpOp_of rfl rfl ?_
      refine op_run (v := .bool false) (w' := w') ?_ ⟨_, rfl, ?_, ?_⟩
      · simp only [execOp, Act.eval, d0]; first | (go_simp; done) | rfl
      · try dsimp only
        exact (slots_put (ns := 96) (hsa.size.trans rfl) (by decide))
      · exact Below.refl _ _
    | 2, ho =>
      obtain rfl := Option.some.inj ho
      try dsimp only at hd
      have d1 : a'.tmps.getD 17 undef = .bool false := hd 1 (by rfl)
      refine wpOp_of rfl rfl ?_
      refine op_run (v := .bool false) (w' := w') ?_ ⟨_, rfl, ?_, ?_⟩
      · simp only [execOp, Act.eval, d1]; first | (go_simp; done) | rfl
      · try dsimp only
        exact (slots_put (ns := 96) (hsa.size.trans rfl) (by decide))
      · exact Below.refl _ _
    | 3, ho =>
      obtain rfl := Option.some.inj ho
      try dsimp only at hd
      have d2 : a'.tmps.getD 18 undef = .bool false := hd 2 (by rfl)
      have g3 : a'.tmps.getD 3 undef = .pointer (some ⟨sb, 0, none⟩) := hsa.rest 3 (by rfl)
      refine wpOp_on (j := 2) (dj := 18) rfl rfl rfl d2 ?_
      refine op_run (v := .pointer (some ⟨sb, 1, none⟩)) (w' := w') ?_ ⟨_, rfl, ?_, ?_⟩
      · simp only [execOp, Act.eval, d2, g3]; first | (go_simp; done) | rfl
      · try dsimp only
        exact (slots_put (ns := 96) (hsa.size.trans rfl) (by decide))
      · exact Below.refl _ _
    | 4, ho =>
      obtain rfl := Option.some.inj ho
      try dsimp only at hd
      have d2 : a'.tmps.getD 18 undef = .bool false := hd 2 (by rfl)
      have d3 : a'.tmps.getD 19 undef = .pointer (some ⟨sb, 1, none⟩) := hd 3 (by rfl)
      have y : w'.cell? ⟨sb, 1, none⟩ = some (.string xt) := (hb.cell (p := ⟨sb, 1, none⟩) HLS.out).trans (box_cell HSS.out 1 rfl)
      refine wpOp_on (j := 2) (dj := 18) rfl rfl rfl d2 ?_
      refine op_run (v := .string xt) (w' := w') ?_ ⟨_, rfl, ?_, ?_⟩
      · simp only [execOp, Act.eval, d2, d3, y]; first | (go_simp; done) | rfl
      · try dsimp only
        exact (slots_put (ns := 96) (hsa.size.trans rfl) (by decide))
      · exact Below.refl _ _
    | 5, ho =>
      obtain rfl := Option.some.inj ho
      try dsimp only at hd
      have d2 : a'.tmps.getD 18 undef = .bool false := hd 2 (by rfl)
      have g1 : a'.tmps.getD 1 undef = .pointer (some ⟨xb, 0, none⟩) := hsa.rest 1 (by rfl)
      refine wpOp_on (j := 2) (dj := 18) rfl rfl rfl d2 ?_
      refine op_run (v := .pointer (some ⟨xb, 0, none⟩)) (w' := w') ?_ ⟨_, rfl, ?_, ?_⟩
      · simp only [execOp, Act.eval, d2, g1]; first | (go_simp; done) | rfl
      · try dsimp only
        exact (slots_put (ns := 96) (hsa.size.trans rfl) (by decide))
      · exact Below.refl _ _
    | 6, ho =>
      obtain rfl := Option.some.inj ho
      try dsimp only at hd
      have d2 : a'.tmps.getD 18 undef = .bool false := hd 2 (by rfl)
      have d5 : a'.tmps.getD 21 undef = .pointer (some ⟨xb, 0, none⟩) := hd 5 (by rfl)
      refine wpOp_on (j := 2) (dj := 18) rfl rfl rfl d2 ?_
      refine op_run (v := .pointer (some ⟨xb, 0, none⟩)) (w' := w') ?_ ⟨_, rfl, ?_, ?_⟩
      · simp only [execOp, Act.eval, d2, d5]; first | (go_simp; done) | rfl
      · try dsimp only
        exact (slots_put (ns := 96) (hsa.size.trans rfl) (by decide))
      · exact Below.refl _ _
    | 7, ho =>
      obtain rfl := Option.some.inj ho
      try dsimp only at hd
      have d2 : a'.tmps.getD 18 undef = .bool false := hd 2 (by rfl)
      have d6 : a'.tmps.getD 22 undef = .pointer (some ⟨xb, 0, none⟩) := hd 6 (by rfl)
      refine wpOp_on (j := 2) (dj := 18) rfl rfl rfl d2 ?_
      refine op_run (v := .pointer (some ⟨xb, 0, none⟩)) (w' := w') ?_ ⟨_, rfl, ?_, ?_⟩
      · simp only [execOp, Act.eval, d2, d6]; first | (go_simp; done) | rfl
      · try dsimp only
        exact (slots_put (ns := 96) (hsa.size.trans rfl) (by decide))
      · exact Below.refl _ _
    | 8, ho =>
      obtain rfl := Option.some.inj ho
      try dsimp only at hd
      have d2 : a'.tmps.getD 18 undef = .bool false := hd 2 (by rfl)
      have d7 : a'.tmps.getD 23 undef = .pointer (some ⟨xb, 0, none⟩) := hd 7 (by rfl)
      have y : w'.cell? ⟨xb, 0, none⟩ = some (.string nm) := (hb.cell (p := ⟨xb, 0, none⟩) HLX.out).trans HX0.out
      refine wpOp_on (j := 2) (dj := 18) rfl rfl rfl d2 ?_
      refine op_run (v := .string nm) (w' := w') ?_ ⟨_, rfl, ?_, ?_⟩
      · simp only [execOp, Act.eval, d2, d7, y]; first | (go_simp; done) | rfl
      · try dsimp only
        exact (slots_put (ns := 96) (hsa.size.trans rfl) (by decide))
      · exact Below.refl _ _
    | 9, ho =>
      obtain rfl := Option.some.inj ho
      try dsimp only at hd
      have d2 : a'.tmps.getD 18 undef = .bool false := hd 2 (by rfl)
      have d4 : a'.tmps.getD 20 undef = .string xt := hd 4 (by rfl)
      have d8 : a'.tmps.getD 24 undef = .string nm := hd 8 (by rfl)
      have y := HN.out
      refine wpOp_on (j := 2) (dj := 18) rfl rfl rfl d2 ?_
      refine op_run (v := .bool false) (w' := w') ?_ ⟨_, rfl, ?_, ?_⟩
      · simp only [execOp, Act.eval, d2, d4, d8, y]; first | (go_simp; done) | rfl
      · try dsimp only
        exact (slots_put (ns := 96) (hsa.size.trans rfl) (by decide))
      · exact Below.refl _ _
    | 10, ho =>
      obtain rfl := Option.some.inj ho
      try dsimp only at hd
      have d2 : a'.tmps.getD 18 undef = .bool false := hd 2 (by rfl)
      have d9 : a'.tmps.getD 25 undef = .bool false := hd 9 (by rfl)
      refine wpOp_of rfl rfl ?_
      refine op_run (v := .bool false) (w' := w') ?_ ⟨_, rfl, ?_, ?_⟩
      · simp only [execOp, Act.eval, d2, d9]; first | (go_simp; done) | rfl
      · try dsimp only
        exact (slots_put (ns := 96) (hsa.size.trans rfl) (by decide))
      · exact Below.refl _ _
    | 11, ho =>
      obtain rfl := Option.some.inj ho
      try dsimp only at hd
      have d10 : a'.tmps.getD 26 undef = .bool false := hd 10 (by rfl)
      refine wpOp_of rfl rfl ?_
      refine op_run (v := .bool false) (w' := w') ?_ ⟨_, rfl, ?_, ?_⟩
      · simp only [execOp, Act.eval, d10]; first | (go_simp; done) | rfl
      · try dsimp only
        exact (slots_put (ns := 96) (hsa.size.trans rfl) (by decide))
      · exact Below.refl _ _
    | 12, ho =>
      obtain rfl := Option.some.inj ho
      try dsimp only at hd
      have d11 : a'.tmps.getD 27 undef = .bool false := hd 11 (by rfl)
      have g3 : a'.tmps.getD 3 undef = .pointer (some ⟨sb, 0, none⟩) := hsa.rest 3 (by rfl)
      refine wpOp_on (j := 11) (dj := 27) rfl rfl rfl d11 ?_
      refine op_run (v := .pointer (some ⟨sb, 3, none⟩)) (w' := w') ?_ ⟨_, rfl, ?_, ?_⟩
      · simp only [execOp, Act.eval, d11, g3]; first | (go_simp; done) | rfl
      · try dsimp only
        exact (slots_put (ns := 96) (hsa.size.trans rfl) (by decide))
      · exact Below.refl _ _
    | 13, ho =>
      obtain rfl := Option.some.inj ho
      try dsimp only at hd
      have d11 : a'.tmps.getD 27 undef = .bool false := hd 11 (by rfl)
      have d12 : a'.tmps.getD 28 undef = .pointer (some ⟨sb, 3, none⟩) := hd 12 (by rfl)
      have y : w'.cell? ⟨sb, 3, none⟩ = some (.int .i64 xx) := (hb.cell (p := ⟨sb, 3, none⟩) HLS.out).trans (box_cell HSS.out 3 rfl)
      refine wpOp_on (j := 11) (dj := 27) rfl rfl rfl d11 ?_
      refine op_run (v := .int .i64 xx) (w' := w') ?_ ⟨_, rfl, ?_, ?_⟩
      · simp only [execOp, Act.eval, d11, d12, y]; first | (go_simp; done) | rfl
      · try dsimp only
        exact (slots_put (ns := 96) (hsa.size.trans rfl) (by decide))
      · exact Below.refl _ _
    | 14, ho =>
      obtain rfl := Option.some.inj ho
      try dsimp only at hd
      have d11 : a'.tmps.getD 27 undef = .bool false := hd 11 (by rfl)
      have g1 : a'.tmps.getD 1 undef = .pointer (some ⟨xb, 0, none⟩) := hsa.rest 1 (by rfl)
      refine wpOp_on (j := 11) (dj := 27) rfl rfl rfl d11 ?_
      refine op_run (v := .pointer (some ⟨xb, 0, none⟩)) (w' := w') ?_ ⟨_, rfl, ?_, ?_⟩
      · simp only [execOp, Act.eval, d11, g1]; first | (go_simp; done) | rfl
      · try dsimp only
        exact (slots_put (ns := 96) (hsa.size.trans rfl) (by decide))
      · exact Below.refl _ _
    | 15, ho =>
      obtain rfl := Option.some.inj ho
      try dsimp only at hd
      have d11 : a'.tmps.getD 27 undef = .bool false := hd 11 (by rfl)
      have d14 : a'.tmps.getD 30 undef = .pointer (some ⟨xb, 0, none⟩) := hd 14 (by rfl)
      refine wpOp_on (j := 11) (dj := 27) rfl rfl rfl d11 ?_
      refine op_run (v := .pointer (some ⟨xb, 0, none⟩)) (w' := w') ?_ ⟨_, rfl, ?_, ?_⟩
      · simp only [execOp, Act.eval, d11, d14]; first | (go_simp; done) | rfl
      · try dsimp only
        exact (slots_put (ns := 96) (hsa.size.trans rfl) (by decide))
      · exact Below.refl _ _
    | 16, ho =>
      obtain rfl := Option.some.inj ho
      try dsimp only at hd
      have d11 : a'.tmps.getD 27 undef = .bool false := hd 11 (by rfl)
      have d15 : a'.tmps.getD 31 undef = .pointer (some ⟨xb, 0, none⟩) := hd 15 (by rfl)
      refine wpOp_on (j := 11) (dj := 27) rfl rfl rfl d11 ?_
      refine op_run (v := .pointer (some ⟨xb, 2, none⟩)) (w' := w') ?_ ⟨_, rfl, ?_, ?_⟩
      · simp only [execOp, Act.eval, d11, d15]; first | (go_simp; done) | rfl
      · try dsimp only
        exact (slots_put (ns := 96) (hsa.size.trans rfl) (by decide))
      · exact Below.refl _ _
    | 17, ho =>
      obtain rfl := Option.some.inj ho
      try dsimp only at hd
      have d11 : a'.tmps.getD 27 undef = .bool false := hd 11 (by rfl)
      have d16 : a'.tmps.getD 32 undef = .pointer (some ⟨xb, 2, none⟩) := hd 16 (by rfl)
      have y : w'.cell? ⟨xb, 2, none⟩ = some (.int .i64 fi) := (hb.cell (p := ⟨xb, 2, none⟩) HLX.out).trans HX2.out
      refine wpOp_on (j := 11) (dj := 27) rfl rfl rfl d11 ?_
      refine op_run (v := .int .i64 fi) (w' := w') ?_ ⟨_, rfl, ?_, ?_⟩
      · simp only [execOp, Act.eval, d11, d16, y]; first | (go_simp; done) | rfl
      · try dsimp only
        exact (slots_put (ns := 96) (hsa.size.trans rfl) (by decide))
      · exact Below.refl _ _
    | 18, ho =>
      obtain rfl := Option.some.inj ho
      try dsimp only at hd
      have d11 : a'.tmps.getD 27 undef = .bool false := hd 11 (by rfl)
      have d13 : a'.tmps.getD 29 undef = .int .i64 xx := hd 13 (by rfl)
      have d17 : a'.tmps.getD 33 undef = .int .i64 fi := hd 17 (by rfl)
      have y := H2.out
      have y2 := H2b.out
      refine wpOp_on (j := 11) (dj := 27) rfl rfl rfl d11 ?_
      refine op_run (v := .bool false) (w' := w') ?_ ⟨_, rfl, ?_, ?_⟩
      · simp only [execOp, Act.eval, d11, d13, d17, y, y2]; first | (go_simp; done) | rfl
      · try dsimp only
        exact (slots_put (ns := 96) (hsa.size.trans rfl) (by decide))
      · exact Below.refl _ _
    | 19, ho =>
      obtain rfl := Option.some.inj ho
      try dsimp only at hd
      have d11 : a'.tmps.getD 27 undef = .bool false := hd 11 (by rfl)
      have d18 : a'.tmps.getD 34 undef = .bool false := hd 18 (by rfl)
      refine wpOp_of rfl rfl ?_
      refine op_run (v := .bool false) (w' := w') ?_ ⟨_, rfl, ?_, ?_⟩
      · simp only [execOp, Act.eval, d11, d18]; first | (go_simp; done) | rfl
      · try dsimp only
        exact (slots_put (ns := 96) (hsa.size.trans rfl) (by decide))
      · exact Below.refl _ _
    | 20, ho =>
      obtain rfl := Option.some.inj ho
      try dsimp only at hd
      have d19 : a'.tmps.getD 35 undef = .bool false := hd 19 (by rfl)
      refine wpOp_of rfl rfl ?_
      refine op_run (v := .bool false) (w' := w') ?_ ⟨_, rfl, ?_, ?_⟩
      · simp only [execOp, Act.eval, d19]; first | (go_simp; done) | rfl
      · try dsimp only
        exact (slots_put (ns := 96) (hsa.size.trans rfl) (by decide))
      · exact Below.refl _ _
    | 21, ho =>
      obtain rfl := Option.some.inj ho
      try dsimp only at hd
      have d20 : a'.tmps.getD 36 undef = .bool false := hd 20 (by rfl)
      have g2 : a'.tmps.getD 2 undef = .int .i64 n := hsa.rest 2 (by rfl)
      refine wpOp_on (j := 20) (dj := 36) rfl rfl rfl d20 ?_
      refine op_run (v := .int .i64 n) (w' := w') ?_ ⟨_, rfl, ?_, ?_⟩
      · simp only [execOp, Act.eval, d20, g2]; first | (go_simp; done) | rfl
      · try dsimp only
        exact (slots_put (ns := 96) (hsa.size.trans rfl) (by decide))
      · exact Below.refl _ _
    | 22, ho =>
      obtain rfl := Option.some.inj ho
      try dsimp only at hd
      have d20 : a'.tmps.getD 36 undef = .bool false := hd 20 (by rfl)
      have d21 : a'.tmps.getD 37 undef = .int .i64 n := hd 21 (by rfl)
      have y := H3.out
      refine wpOp_on (j := 20) (dj := 36) rfl rfl rfl d20 ?_
      refine op_run (v := .bool false) (w' := w') ?_ ⟨_, rfl, ?_, ?_⟩
      · simp only [execOp, Act.eval, d20, d21, y]; first | (go_simp; done) | rfl
      · try dsimp only
        exact (slots_put (ns := 96) (hsa.size.trans rfl) (by decide))
      · exact Below.refl _ _
    | 23, ho =>
      obtain rfl := Option.some.inj ho
      try dsimp only at hd
      have d20 : a'.tmps.getD 36 undef = .bool false := hd 20 (by rfl)
      have d22 : a'.tmps.getD 38 undef = .bool false := hd 22 (by rfl)
      refine wpOp_of rfl rfl ?_
      refine op_run (v := .bool false) (w' := w') ?_ ⟨_, rfl, ?_, ?_⟩
      · simp only [execOp, Act.eval, d20, d22]; first | (go_simp; done) | rfl
      · try dsimp only
        exact (slots_put (ns := 96) (hsa.size.trans rfl) (by decide))
      · exact Below.refl _ _
    | 24, ho =>
      obtain rfl := Option.some.inj ho
      try dsimp only at hd
      have d23 : a'.tmps.getD 39 undef = .bool false := hd 23 (by rfl)
      refine wpOp_of rfl rfl ?_
      refine op_run (v := .bool false) (w' := w') ?_ ⟨_, rfl, ?_, ?_⟩
      · simp only [execOp, Act.eval, d23]; first | (go_simp; done) | rfl
      · try dsimp only
        exact (slots_put (ns := 96) (hsa.size.trans rfl) (by decide))
      · exact Below.refl _ _
    | 25, ho =>
      obtain rfl := Option.some.inj ho
      try dsimp only at hd
      have d24 : a'.tmps.getD 40 undef = .bool false := hd 24 (by rfl)
      have g2 : a'.tmps.getD 2 undef = .int .i64 n := hsa.rest 2 (by rfl)
      refine wpOp_on (j := 24) (dj := 40) rfl rfl rfl d24 ?_
      refine op_run (v := .int .i64 n) (w' := w') ?_ ⟨_, rfl, ?_, ?_⟩
      · simp only [execOp, Act.eval, d24, g2]; first | (go_simp; done) | rfl
      · try dsimp only
        exact (slots_put (ns := 96) (hsa.size.trans rfl) (by decide))
      · exact Below.refl _ _
    | 26, ho =>
      obtain rfl := Option.some.inj ho
      try dsimp only at hd
      have d24 : a'.tmps.getD 40 undef = .bool false := hd 24 (by rfl)
      have d25 : a'.tmps.getD 41 undef = .int .i64 n := hd 25 (by rfl)
      have y := H4.out
      have y2 := H4b.out
      refine wpOp_on (j := 24) (dj := 40) rfl rfl rfl d24 ?_
      refine op_run (v := .bool false) (w' := w') ?_ ⟨_, rfl, ?_, ?_⟩
      · simp only [execOp, Act.eval, d24, d25, y, y2]; first | (go_simp; done) | rfl
      · try dsimp only
        exact (slots_put (ns := 96) (hsa.size.trans rfl) (by decide))
      · exact Below.refl _ _
    | 27, ho =>
      obtain rfl := Option.some.inj ho
      try dsimp only at hd
      have d24 : a'.tmps.getD 40 undef = .bool false := hd 24 (by rfl)
      have d26 : a'.tmps.getD 42 undef = .bool false := hd 26 (by rfl)
      refine wpOp_of rfl rfl ?_
      refine op_run (v := .bool false) (w' := w') ?_ ⟨_, rfl, ?_, ?_⟩
      · simp only [execOp, Act.eval, d24, d26]; first | (go_simp; done) | rfl
      · try dsimp only
        exact (slots_put (ns := 96) (hsa.size.trans rfl) (by decide))
      · exact Below.refl _ _
    | (n + 28), ho => exact absurd ho (by simp)
  case pdone =>
    intro a' w' hsa hb hd
    have d0 : a'.tmps.getD 16 undef = .bool true := hd 0 (by decide)
    have d1 : a'.tmps.getD 17 undef = .bool false := hd 1 (by decide)
    have d2 : a'.tmps.getD 18 undef = .bool false := hd 2 (by decide)
    have d3 : a'.tmps.getD 19 undef = .pointer (some ⟨sb, 1, none⟩) := hd 3 (by decide)
    have d4 : a'.tmps.getD 20 undef = .string xt := hd 4 (by decide)
    have d5 : a'.tmps.getD 21 undef = .pointer (some ⟨xb, 0, none⟩) := hd 5 (by decide)
    have d6 : a'.tmps.getD 22 undef = .pointer (some ⟨xb, 0, none⟩) := hd 6 (by decide)
    have d7 : a'.tmps.getD 23 undef = .pointer (some ⟨xb, 0, none⟩) := hd 7 (by decide)
    have d8 : a'.tmps.getD 24 undef = .string nm := hd 8 (by decide)
    have d9 : a'.tmps.getD 25 undef = .bool false := hd 9 (by decide)
    have d10 : a'.tmps.getD 26 undef = .bool false := hd 10 (by decide)
    have d11 : a'.tmps.getD 27 undef = .bool false := hd 11 (by decide)
    have d12 : a'.tmps.getD 28 undef = .pointer (some ⟨sb, 3, none⟩) := hd 12 (by decide)
    have d13 : a'.tmps.getD 29 undef = .int .i64 xx := hd 13 (by decide)
    have d14 : a'.tmps.getD 30 undef = .pointer (some ⟨xb, 0, none⟩) := hd 14 (by decide)
    have d15 : a'.tmps.getD 31 undef = .pointer (some ⟨xb, 0, none⟩) := hd 15 (by decide)
    have d16 : a'.tmps.getD 32 undef = .pointer (some ⟨xb, 2, none⟩) := hd 16 (by decide)
    have d17 : a'.tmps.getD 33 undef = .int .i64 fi := hd 17 (by decide)
    have d18 : a'.tmps.getD 34 undef = .bool false := hd 18 (by decide)
    have d19 : a'.tmps.getD 35 undef = .bool false := hd 19 (by decide)
    have d20 : a'.tmps.getD 36 undef = .bool false := hd 20 (by decide)
    have d21 : a'.tmps.getD 37 undef = .int .i64 n := hd 21 (by decide)
    have d22 : a'.tmps.getD 38 undef = .bool false := hd 22 (by decide)
    have d23 : a'.tmps.getD 39 undef = .bool false := hd 23 (by decide)
    have d24 : a'.tmps.getD 40 undef = .bool false := hd 24 (by decide)
    have d25 : a'.tmps.getD 41 undef = .int .i64 n := hd 25 (by decide)
    have d26 : a'.tmps.getD 42 undef = .bool false := hd 26 (by decide)
    have d27 : a'.tmps.getD 43 undef = .bool false := hd 27 (by decide)
    exact HQ.out _ _ ⟨hsa.size.trans rfl, hsa.defers.trans rfl, hsa.rest 0 (by rfl), hsa.rest 1 (by rfl), hsa.rest 2 (by rfl), hsa.rest 3 (by rfl), hsa.rest 6 (by rfl), hsa.rest 7 (by rfl), hsa.rest 8 (by rfl), hsa.rest 9 (by rfl), hsa.rest 10 (by rfl), hsa.rest 11 (by rfl), hsa.rest 12 (by rfl), hsa.rest 13 (by rfl)⟩ d27 hb
set_option maxHeartbeats 8000000 in
set_option maxRecDepth 100000 in
theorem zp_r3 {K : Act → World → Prop} {c : Code} (hc : regOf (Try.f17.body.getD .skip) 3 = some c) (a : Act) {v : Vzp} {wq : World} {sb rb : Nat} {y0 y1 y2 y3 : Value} {xn xt : ByteArray} {xc xx : Int} (hF : Fzp a v) (h3v : v.v3 = .pointer (some ⟨sb, 0, none⟩)) (h6v : v.v6 = .pointer (some ⟨rb, 0, none⟩)) (hSs : wq.heap[sb]? = some (.cells #[.string xn, .string xt, .int .i64 xc, .int .i64 xx] 37 (0, 0))) (hSr : wq.heap[rb]? = some (.cells #[y0, y1, y2, y3] 37 (0, 0)))
    (hQ : ∀ a', Fzp a' { v with v7 := .slice none 0 0, v8 := .int .i64 7 } → K a' (set4 wq rb (.string xn) (.string xt) (.int .i64 xc) (.int .i64 xx))) :
    Code.wp Try.prog c (Exit.then K fun _ _ _ => False) a wq := by
  have HQ := hide hQ
  clear hQ
  obtain ⟨t', d'⟩ := a
  obtain ⟨v0, v1, v2, v3, v6, v7, v8, v9, v10, v11, v12, v13⟩ := v
  simp only at h3v h6v HQ
  subst h3v h6v
  obtain ⟨hs1, hd1, q0, q1, q2, q3, q6, q7, q8, q9, q10, q11, q12, q13⟩ := hF
  obtain ⟨u, hu⟩ := frame_zp t' hs1
  simp only at hd1 q0 q1 q2 q3 q6 q7 q8 q9 q10 q11 q12 q13
  subst hu hd1
  have e0 : u 0 = v0 := q0
  have e1 : u 1 = v1 := q1
  have e2 : u 2 = v2 := q2
  have e3 : u 3 = .pointer (some ⟨sb, 0, none⟩) := q3
  have e6 : u 6 = .pointer (some ⟨rb, 0, none⟩) := q6
  have e7 : u 7 = v7 := q7
  have e8 : u 8 = v8 := q8
  have e9 : u 9 = v9 := q9
  have e10 : u 10 = v10 := q10
  have e11 : u 11 = v11 := q11
  have e12 : u 12 = v12 := q12
  have e13 : u 13 = v13 := q13
  rw [e0, e1, e2, e3, e6, e7, e8, e9, e10, e11, e12, e13]
  clear q0 e0 q1 e1 q2 e2 q3 e3 q6 e6 q7 e7 q8 e8 q9 e9 q10 e10 q11 e11 q12 e12 q13 e13 hs1
  simp only [Try.f17, Option.getD_some, regOf] at hc
  injection hc with hc
  subst hc
  obtain ⟨⟨c0, c1, c2, c3⟩, _⟩ := box4 hSs
  obtain ⟨⟨d0, d1, d2, d3⟩, f0, f1, f2, f3⟩ := box4 hSr
  clear hSs hSr
  unfold set4 at HQ
  go_wp2
  exact HQ.out _ ⟨rfl, rfl, rfl, rfl, rfl, rfl, rfl, rfl, rfl, rfl, rfl, rfl, rfl, rfl⟩
set_option maxHeartbeats 8000000 in
set_option maxRecDepth 100000 in
theorem zp_r4 {K : Act → World → Prop} {c : Code} (hc : regOf (Try.f17.body.getD .skip) 4 = some c) (a : Act) {v : Vzp} {wq : World} {sb xb : Nat} {lo mm : Int} {xn xt : ByteArray} {xc xx : Int} (hF : Fzp a v) (h1v : v.v1 = .pointer (some ⟨xb, 0, none⟩)) (h3v : v.v3 = .pointer (some ⟨sb, 0, none⟩)) (hSs : wq.heap[sb]? = some (.cells #[.string xn, .string xt, .int .i64 xc, .int .i64 xx] 37 (0, 0))) (hlx : xb < wq.heap.size) (hx1 : wq.cell? ⟨xb, 1, none⟩ = some (.int .i64 lo)) (hm : max xc lo = mm) (m0 : 0 ≤ mm) (m1 : mm ≤ 100000000000000000)
    (hQ : ∀ a' w', Fzp a' { v with v10 := .int .i64 (mm + 100) } → Below wq.heap.size wq w' → K a' w') :
    Code.wp Try.prog c (Exit.then K fun _ _ _ => False) a wq := by
  have HQ := hide hQ
  clear hQ
  obtain ⟨t', d'⟩ := a
  obtain ⟨v0, v1, v2, v3, v6, v7, v8, v9, v10, v11, v12, v13⟩ := v
  simp only at h1v h3v HQ
  subst h1v h3v
  obtain ⟨hs1, hd1, q0, q1, q2, q3, q6, q7, q8, q9, q10, q11, q12, q13⟩ := hF
  obtain ⟨u, hu⟩ := frame_zp t' hs1
  simp only at hd1 q0 q1 q2 q3 q6 q7 q8 q9 q10 q11 q12 q13
  subst hu hd1
  have e0 : u 0 = v0 := q0
  have e1 : u 1 = .pointer (some ⟨xb, 0, none⟩) := q1
  have e2 : u 2 = v2 := q2
  have e3 : u 3 = .pointer (some ⟨sb, 0, none⟩) := q3
  have e6 : u 6 = v6 := q6
  have e7 : u 7 = v7 := q7
  have e8 : u 8 = v8 := q8
  have e9 : u 9 = v9 := q9
  have e10 : u 10 = v10 := q10
  have e11 : u 11 = v11 := q11
  have e12 : u 12 = v12 := q12
  have e13 : u 13 = v13 := q13
  rw [e0, e1, e2, e3, e6, e7, e8, e9, e10, e11, e12, e13]
  clear q0 e0 q1 e1 q2 e2 q3 e3 q6 e6 q7 e7 q8 e8 q9 e9 q10 e10 q11 e11 q12 e12 q13 e13 hs1
  simp only [Try.f17, Option.getD_some, regOf] at hc
  injection hc with hc
  subst hc
  have HSS := hide hSs
  have HLS := hide (heap_lt hSs)
  have HLX := hide hlx
  have HX1 := hide hx1
  have HM := hide hm
  have HY : Hid (IntKind.i64.wrap (mm + 100) = mm + 100) := by
    show _ = _
    rw [IntKind.wrap_i64]
    omega
  clear hSs hlx hx1 hm m0 m1
  refine wp_region_phi (by kernel_rfl) (ns := 96) (uses := (fun i => match i with | 0 => [45] | 1 => [46] | 2 => [47] | 3 => [48] | 4 => [49] | 5 => [50] | 6 => [51] | 7 => [52] | 8 => [10] | _ => [])) (by kernel_rfl) (by kernel_rfl) (fun _ w w' => Below w.heap.size w w') (fun w => Below wq.heap.size wq w) (fun _ _ _ h r => h.trans (r.mono h.size)) ((Below.refl _ _).drew) (fun i => match i with | 0 => fun s w => s 45 = .pointer (some ⟨sb, 2, none⟩) | 1 => fun s w => s 46 = .int .i64 xc | 2 => fun s w => s 47 = .pointer (some ⟨xb, 0, none⟩) | 3 => fun s w => s 48 = .pointer (some ⟨xb, 0, none⟩) | 4 => fun s w => s 49 = .pointer (some ⟨xb, 1, none⟩) | 5 => fun s w => s 50 = .int .i64 lo | 6 => fun s w => s 51 = .int .i64 mm | 7 => fun s w => s 52 = .int .i64 (mm + 100) | 8 => fun s w => s 10 = .int .i64 (mm + 100) | _ => fun _ _ => True) ?phc ?phh ?pstep ?pdone
  case phc =>
    intro i s s' w hx h
    match i, hx, h with
    | 0, hx, h => exact (hx 45 (by simp)).symm.trans h
    | 1, hx, h => exact (hx 46 (by simp)).symm.trans h
    | 2, hx, h => exact (hx 47 (by simp)).symm.trans h
    | 3, hx, h => exact (hx 48 (by simp)).symm.trans h
    | 4, hx, h => exact (hx 49 (by simp)).symm.trans h
    | 5, hx, h => exact (hx 50 (by simp)).symm.trans h
    | 6, hx, h => exact (hx 51 (by simp)).symm.trans h
    | 7, hx, h => exact (hx 52 (by simp)).symm.trans h
    | 8, hx, h => exact (hx 10 (by simp)).symm.trans h
    | (n + 9), _, h => exact h
  case phh =>
    intro i j s w w' hij h hb r
    match i, hij, h with
    | 0, hij, h =>
      exact h
    | 1, hij, h =>
      exact h
    | 2, hij, h =>
      exact h
    | 3, hij, h =>
      exact h
    | 4, hij, h =>
      exact h
    | 5, hij, h =>
      exact h
    | 6, hij, h =>
      exact h
    | 7, hij, h =>
      exact h
    | 8, hij, h =>
      exact h
    | (n + 9), _, h => exact h
  case pstep =>
    intro i o ho a' w' hsa hb hd
    match i, ho with
    | 0, ho =>
      obtain rfl := Option.some.inj ho
      try dsimp only at hd
      have g3 : a'.tmps.getD 3 undef = .pointer (some ⟨sb, 0, none⟩) := hsa.rest 3 (by rfl)
      refine wpOp_of rfl rfl ?_
      refine op_run (v := .pointer (some ⟨sb, 2, none⟩)) (w' := w') ?_ ⟨_, rfl, ?_, ?_⟩
      · simp only [execOp, Act.eval, g3]; first | (go_simp; done) | rfl
      · try dsimp only
        exact (slots_put (ns := 96) (hsa.size.trans rfl) (by decide))
      · exact Below.refl _ _
    | 1, ho =>
      obtain rfl := Option.some.inj ho
      try dsimp only at hd
      have d0 : a'.tmps.getD 45 undef = .pointer (some ⟨sb, 2, none⟩) := hd 0 (by rfl)
      have y : w'.cell? ⟨sb, 2, none⟩ = some (.int .i64 xc) := (hb.cell (p := ⟨sb, 2, none⟩) HLS.out).trans (box_cell HSS.out 2 rfl)
      refine wpOp_of rfl rfl ?_
      refine op_run (v := .int .i64 xc) (w' := w') ?_ ⟨_, rfl, ?_, ?_⟩
      · simp only [execOp, Act.eval, d0, y]; first | (go_simp; done) | rfl
      · try dsimp only
        exact (slots_put (ns := 96) (hsa.size.trans rfl) (by decide))
      · exact Below.refl _ _
    | 2, ho =>
      obtain rfl := Option.some.inj ho
      try dsimp only at hd
      have g1 : a'.tmps.getD 1 undef = .pointer (some ⟨xb, 0, none⟩) := hsa.rest 1 (by rfl)
      refine wpOp_of rfl rfl ?_
      refine op_run (v := .pointer (some ⟨xb, 0, none⟩)) (w' := w') ?_ ⟨_, rfl, ?_, ?_⟩
      · simp only [execOp, Act.eval, g1]; first | (go_simp; done) | rfl
      · try dsimp only
        exact (slots_put (ns := 96) (hsa.size.trans rfl) (by decide))
      · exact Below.refl _ _
    | 3, ho =>
      obtain rfl := Option.some.inj ho
      try dsimp only at hd
      have d2 : a'.tmps.getD 47 undef = .pointer (some ⟨xb, 0, none⟩) := hd 2 (by rfl)
      refine wpOp_of rfl rfl ?_
      refine op_run (v := .pointer (some ⟨xb, 0, none⟩)) (w' := w') ?_ ⟨_, rfl, ?_, ?_⟩
      · simp only [execOp, Act.eval, d2]; first | (go_simp; done) | rfl
      · try dsimp only
        exact (slots_put (ns := 96) (hsa.size.trans rfl) (by decide))
      · exact Below.refl _ _
    | 4, ho =>
      obtain rfl := Option.some.inj ho
      try dsimp only at hd
      have d3 : a'.tmps.getD 48 undef = .pointer (some ⟨xb, 0, none⟩) := hd 3 (by rfl)
      refine wpOp_of rfl rfl ?_
      refine op_run (v := .pointer (some ⟨xb, 1, none⟩)) (w' := w') ?_ ⟨_, rfl, ?_, ?_⟩
      · simp only [execOp, Act.eval, d3]; first | (go_simp; done) | rfl
      · try dsimp only
        exact (slots_put (ns := 96) (hsa.size.trans rfl) (by decide))
      · exact Below.refl _ _
    | 5, ho =>
      obtain rfl := Option.some.inj ho
      try dsimp only at hd
      have d4 : a'.tmps.getD 49 undef = .pointer (some ⟨xb, 1, none⟩) := hd 4 (by rfl)
      have y : w'.cell? ⟨xb, 1, none⟩ = some (.int .i64 lo) := (hb.cell (p := ⟨xb, 1, none⟩) HLX.out).trans HX1.out
      refine wpOp_of rfl rfl ?_
      refine op_run (v := .int .i64 lo) (w' := w') ?_ ⟨_, rfl, ?_, ?_⟩
      · simp only [execOp, Act.eval, d4, y]; first | (go_simp; done) | rfl
      · try dsimp only
        exact (slots_put (ns := 96) (hsa.size.trans rfl) (by decide))
      · exact Below.refl _ _
    | 6, ho =>
      obtain rfl := Option.some.inj ho
      try dsimp only at hd
      have d1 : a'.tmps.getD 46 undef = .int .i64 xc := hd 1 (by rfl)
      have d5 : a'.tmps.getD 50 undef = .int .i64 lo := hd 5 (by rfl)
      have y := HM.out
      refine wpOp_of rfl rfl ?_
      refine op_run (v := .int .i64 mm) (w' := w') ?_ ⟨_, rfl, ?_, ?_⟩
      · simp only [execOp, Act.eval, List.map_toArray, List.map_cons, List.map_nil, d1, d5, y]; first | (go_simp; done) | rfl
      · try dsimp only
        exact (slots_put (ns := 96) (hsa.size.trans rfl) (by decide))
      · exact Below.refl _ _
    | 7, ho =>
      obtain rfl := Option.some.inj ho
      try dsimp only at hd
      have d6 : a'.tmps.getD 51 undef = .int .i64 mm := hd 6 (by rfl)
      have y := HY.out
      refine wpOp_of rfl rfl ?_
      refine op_run (v := .int .i64 (mm + 100)) (w' := w') ?_ ⟨_, rfl, ?_, ?_⟩
      · simp only [execOp, Act.eval, d6, y]; first | (go_simp; done) | rfl
      · try dsimp only
        exact (slots_put (ns := 96) (hsa.size.trans rfl) (by decide))
      · exact Below.refl _ _
    | 8, ho =>
      obtain rfl := Option.some.inj ho
      try dsimp only at hd
      have d7 : a'.tmps.getD 52 undef = .int .i64 (mm + 100) := hd 7 (by rfl)
      refine wpOp_of rfl rfl ?_
      refine op_run (v := .int .i64 (mm + 100)) (w' := w') ?_ ⟨_, rfl, ?_, ?_⟩
      · simp only [execOp, Act.eval, d7]; first | (go_simp; done) | rfl
      · try dsimp only
        exact (slots_put (ns := 96) (hsa.size.trans rfl) (by decide))
      · exact Below.refl _ _
    | (n + 9), ho => exact absurd ho (by simp)
  case pdone =>
    intro a' w' hsa hb hd
    have d0 : a'.tmps.getD 45 undef = .pointer (some ⟨sb, 2, none⟩) := hd 0 (by decide)
    have d1 : a'.tmps.getD 46 undef = .int .i64 xc := hd 1 (by decide)
    have d2 : a'.tmps.getD 47 undef = .pointer (some ⟨xb, 0, none⟩) := hd 2 (by decide)
    have d3 : a'.tmps.getD 48 undef = .pointer (some ⟨xb, 0, none⟩) := hd 3 (by decide)
    have d4 : a'.tmps.getD 49 undef = .pointer (some ⟨xb, 1, none⟩) := hd 4 (by decide)
    have d5 : a'.tmps.getD 50 undef = .int .i64 lo := hd 5 (by decide)
    have d6 : a'.tmps.getD 51 undef = .int .i64 mm := hd 6 (by decide)
    have d7 : a'.tmps.getD 52 undef = .int .i64 (mm + 100) := hd 7 (by decide)
    have d8 : a'.tmps.getD 10 undef = .int .i64 (mm + 100) := hd 8 (by decide)
    exact HQ.out _ _ ⟨hsa.size.trans rfl, hsa.defers.trans rfl, hsa.rest 0 (by rfl), hsa.rest 1 (by rfl), hsa.rest 2 (by rfl), hsa.rest 3 (by rfl), hsa.rest 6 (by rfl), hsa.rest 7 (by rfl), hsa.rest 8 (by rfl), hsa.rest 9 (by rfl), d8, hsa.rest 11 (by rfl), hsa.rest 12 (by rfl), hsa.rest 13 (by rfl)⟩ hb
set_option maxHeartbeats 8000000 in
set_option maxRecDepth 100000 in
theorem zp_r5 {K : Act → World → Prop} {c : Code} (hc : regOf (Try.f17.body.getD .skip) 5 = some c) (a : Act) {v : Vzp} {wq : World}  (hF : Fzp a v) (hQ : ∀ a', Fzp a' { v with v11 := .slice none 0 0 } → K a' wq) :
    Code.wp Try.prog c (Exit.then K fun _ _ _ => False) a wq := by
  have HQ := hide hQ
  clear hQ
  obtain ⟨t', d'⟩ := a
  obtain ⟨v0, v1, v2, v3, v6, v7, v8, v9, v10, v11, v12, v13⟩ := v
  obtain ⟨hs1, hd1, q0, q1, q2, q3, q6, q7, q8, q9, q10, q11, q12, q13⟩ := hF
  obtain ⟨u, hu⟩ := frame_zp t' hs1
  simp only at hd1 q0 q1 q2 q3 q6 q7 q8 q9 q10 q11 q12 q13
  subst hu hd1
  have e0 : u 0 = v0 := q0
  have e1 : u 1 = v1 := q1
  have e2 : u 2 = v2 := q2
  have e3 : u 3 = v3 := q3
  have e6 : u 6 = v6 := q6
  have e7 : u 7 = v7 := q7
  have e8 : u 8 = v8 := q8
  have e9 : u 9 = v9 := q9
  have e10 : u 10 = v10 := q10
  have e11 : u 11 = v11 := q11
  have e12 : u 12 = v12 := q12
  have e13 : u 13 = v13 := q13
  rw [e0, e1, e2, e3, e6, e7, e8, e9, e10, e11, e12, e13]
  clear q0 e0 q1 e1 q2 e2 q3 e3 q6 e6 q7 e7 q8 e8 q9 e9 q10 e10 q11 e11 q12 e12 q13 e13 hs1
  simp only [Try.f17, Option.getD_some, regOf] at hc
  injection hc with hc
  subst hc
  go_wp2
  exact HQ.out _ ⟨rfl, rfl, rfl, rfl, rfl, rfl, rfl, rfl, rfl, rfl, rfl, rfl, rfl, rfl⟩
set_option maxHeartbeats 8000000 in
set_option maxRecDepth 100000 in
theorem zp_r6 {K : Act → World → Prop} {c : Code} (hc : regOf (Try.f17.body.getD .skip) 6 = some c) (a : Act) {v : Vzp} {wq : World}  (hF : Fzp a v) (hQ : ∀ a', Fzp a' { v with v12 := .int .i64 0 } → K a' wq) :
    Code.wp Try.prog c (Exit.then K fun _ _ _ => False) a wq := by
  have HQ := hide hQ
  clear hQ
  obtain ⟨t', d'⟩ := a
  obtain ⟨v0, v1, v2, v3, v6, v7, v8, v9, v10, v11, v12, v13⟩ := v
  obtain ⟨hs1, hd1, q0, q1, q2, q3, q6, q7, q8, q9, q10, q11, q12, q13⟩ := hF
  obtain ⟨u, hu⟩ := frame_zp t' hs1
  simp only at hd1 q0 q1 q2 q3 q6 q7 q8 q9 q10 q11 q12 q13
  subst hu hd1
  have e0 : u 0 = v0 := q0
  have e1 : u 1 = v1 := q1
  have e2 : u 2 = v2 := q2
  have e3 : u 3 = v3 := q3
  have e6 : u 6 = v6 := q6
  have e7 : u 7 = v7 := q7
  have e8 : u 8 = v8 := q8
  have e9 : u 9 = v9 := q9
  have e10 : u 10 = v10 := q10
  have e11 : u 11 = v11 := q11
  have e12 : u 12 = v12 := q12
  have e13 : u 13 = v13 := q13
  rw [e0, e1, e2, e3, e6, e7, e8, e9, e10, e11, e12, e13]
  clear q0 e0 q1 e1 q2 e2 q3 e3 q6 e6 q7 e7 q8 e8 q9 e9 q10 e10 q11 e11 q12 e12 q13 e13 hs1
  simp only [Try.f17, Option.getD_some, regOf] at hc
  injection hc with hc
  subst hc
  go_wp2
  exact HQ.out _ ⟨rfl, rfl, rfl, rfl, rfl, rfl, rfl, rfl, rfl, rfl, rfl, rfl, rfl, rfl⟩
set_option maxHeartbeats 8000000 in
set_option maxRecDepth 100000 in
theorem zp_r8 {K : Act → World → Prop} {c : Code} (hc : regOf (Try.f17.body.getD .skip) 8 = some c) (a : Act) {v : Vzp} {wq : World} {i : Nat} (hF : Fzp a v) (h12v : v.v12 = .int .i64 (i : Int)) (hi : i ≤ 1000000)
    (hQ : ∀ a', Fzp a' { v with v12 := .int .i64 ((i + 1 : Nat) : Int) } → K a' wq) :
    Code.wp Try.prog c (Exit.then K fun _ _ _ => False) a wq := by
  have HQ := hide hQ
  clear hQ
  obtain ⟨t', d'⟩ := a
  obtain ⟨v0, v1, v2, v3, v6, v7, v8, v9, v10, v11, v12, v13⟩ := v
  simp only at h12v HQ
  subst h12v
  obtain ⟨hs1, hd1, q0, q1, q2, q3, q6, q7, q8, q9, q10, q11, q12, q13⟩ := hF
  obtain ⟨u, hu⟩ := frame_zp t' hs1
  simp only at hd1 q0 q1 q2 q3 q6 q7 q8 q9 q10 q11 q12 q13
  subst hu hd1
  have e0 : u 0 = v0 := q0
  have e1 : u 1 = v1 := q1
  have e2 : u 2 = v2 := q2
  have e3 : u 3 = v3 := q3
  have e6 : u 6 = v6 := q6
  have e7 : u 7 = v7 := q7
  have e8 : u 8 = v8 := q8
  have e9 : u 9 = v9 := q9
  have e10 : u 10 = v10 := q10
  have e11 : u 11 = v11 := q11
  have e12 : u 12 = .int .i64 (i : Int) := q12
  have e13 : u 13 = v13 := q13
  rw [e0, e1, e2, e3, e6, e7, e8, e9, e10, e11, e12, e13]
  clear q0 e0 q1 e1 q2 e2 q3 e3 q6 e6 q7 e7 q8 e8 q9 e9 q10 e10 q11 e11 q12 e12 q13 e13 hs1
  simp only [Try.f17, Option.getD_some, regOf] at hc
  injection hc with hc
  subst hc
  go_wp2
  exact HQ.out _ ⟨rfl, rfl, rfl, rfl, rfl, rfl, rfl, rfl, rfl, rfl, rfl, rfl, (by first | rfl | (simp; done) | (go_num; done)), rfl⟩
set_option maxHeartbeats 8000000 in
set_option maxRecDepth 100000 in
theorem zp_r7a {K : Act → World → Prop} {c : Code} (hc : regOf (Try.f17.body.getD .skip) 7 = some c) (a : Act) {v : Vzp} {wq : World} {xb n rc i m oc : Nat} {ro oo : Option Addr} {ms : Int} (hF : Fzp a v) (h1v : v.v1 = .pointer (some ⟨xb, 0, none⟩)) (h2v : v.v2 = .int .i64 ms) (h11v : v.v11 = .slice oo m oc) (h12v : v.v12 = .int .i64 (i : Int)) (hi : i < n) (hcb : wq.cell? ⟨xb, 4, none⟩ = some (.slice ro n rc))
    (hQ : ∀ a', Fzp a' v → a'.tmps.getD 65 undef = .bool (decide ((m : Int) < ms)) → K a' wq) :
    Code.wp Try.prog c (Exit.then K fun _ _ _ => False) a wq := by
  have HQ := hide hQ
  clear hQ
  obtain ⟨t', d'⟩ := a
  obtain ⟨v0, v1, v2, v3, v6, v7, v8, v9, v10, v11, v12, v13⟩ := v
  simp only at h1v h2v h11v h12v HQ
  subst h1v h2v h11v h12v
  obtain ⟨hs1, hd1, q0, q1, q2, q3, q6, q7, q8, q9, q10, q11, q12, q13⟩ := hF
  obtain ⟨u, hu⟩ := frame_zp t' hs1
  simp only at hd1 q0 q1 q2 q3 q6 q7 q8 q9 q10 q11 q12 q13
  subst hu hd1
  have e0 : u 0 = v0 := q0
  have e1 : u 1 = .pointer (some ⟨xb, 0, none⟩) := q1
  have e2 : u 2 = .int .i64 ms := q2
  have e3 : u 3 = v3 := q3
  have e6 : u 6 = v6 := q6
  have e7 : u 7 = v7 := q7
  have e8 : u 8 = v8 := q8
  have e9 : u 9 = v9 := q9
  have e10 : u 10 = v10 := q10
  have e11 : u 11 = .slice oo m oc := q11
  have e12 : u 12 = .int .i64 (i : Int) := q12
  have e13 : u 13 = v13 := q13
  rw [e0, e1, e2, e3, e6, e7, e8, e9, e10, e11, e12, e13]
  clear q0 e0 q1 e1 q2 e2 q3 e3 q6 e6 q7 e7 q8 e8 q9 e9 q10 e10 q11 e11 q12 e12 q13 e13 hs1
  simp only [Try.f17, Option.getD_some, regOf] at hc
  injection hc with hc
  subst hc
  have e1 : (i : Int) < (n : Int) := by omega
  by_cases h : (m : Int) < ms
  · rw [decide_eq_true h] at HQ
    go_wp2
    exact HQ.out _ ⟨rfl, rfl, rfl, rfl, rfl, rfl, rfl, rfl, rfl, rfl, rfl, rfl, rfl, rfl⟩ (by first | rfl | (simp; done) | (simp; omega))
  · rw [decide_eq_false h] at HQ
    go_wp2
    exact HQ.out _ ⟨rfl, rfl, rfl, rfl, rfl, rfl, rfl, rfl, rfl, rfl, rfl, rfl, rfl, rfl⟩ (by first | rfl | (simp; done) | (simp; omega))
set_option maxHeartbeats 8000000 in
set_option maxRecDepth 100000 in
theorem zp_r7b {K : Act → World → Prop} {c : Code} (hc : regOf (Try.f17.body.getD .skip) 7 = some c) (a : Act) {v : Vzp} {wq : World} {xb n rc : Nat} {ro : Option Addr} (hF : Fzp a v) (h1v : v.v1 = .pointer (some ⟨xb, 0, none⟩)) (h12v : v.v12 = .int .i64 (n : Int)) (hcb : wq.cell? ⟨xb, 4, none⟩ = some (.slice ro n rc))
    (hQ : ∀ a', Fzp a' v → a'.tmps.getD 65 undef = .bool false → K a' wq) :
    Code.wp Try.prog c (Exit.then K fun _ _ _ => False) a wq := by
  have HQ := hide hQ
  clear hQ
  obtain ⟨t', d'⟩ := a
  obtain ⟨v0, v1, v2, v3, v6, v7, v8, v9, v10, v11, v12, v13⟩ := v
  simp only at h1v h12v HQ
  subst h1v h12v
  obtain ⟨hs1, hd1, q0, q1, q2, q3, q6, q7, q8, q9, q10, q11, q12, q13⟩ := hF
  obtain ⟨u, hu⟩ := frame_zp t' hs1
  simp only at hd1 q0 q1 q2 q3 q6 q7 q8 q9 q10 q11 q12 q13
  subst hu hd1
  have e0 : u 0 = v0 := q0
  have e1 : u 1 = .pointer (some ⟨xb, 0, none⟩) := q1
  have e2 : u 2 = v2 := q2
  have e3 : u 3 = v3 := q3
  have e6 : u 6 = v6 := q6
  have e7 : u 7 = v7 := q7
  have e8 : u 8 = v8 := q8
  have e9 : u 9 = v9 := q9
  have e10 : u 10 = v10 := q10
  have e11 : u 11 = v11 := q11
  have e12 : u 12 = .int .i64 (n : Int) := q12
  have e13 : u 13 = v13 := q13
  rw [e0, e1, e2, e3, e6, e7, e8, e9, e10, e11, e12, e13]
  clear q0 e0 q1 e1 q2 e2 q3 e3 q6 e6 q7 e7 q8 e8 q9 e9 q10 e10 q11 e11 q12 e12 q13 e13 hs1
  simp only [Try.f17, Option.getD_some, regOf] at hc
  injection hc with hc
  subst hc
  go_wp2
  exact HQ.out _ ⟨rfl, rfl, rfl, rfl, rfl, rfl, rfl, rfl, rfl, rfl, rfl, rfl, rfl, rfl⟩ (by first | rfl | (simp; done))
set_option maxHeartbeats 8000000 in
set_option maxRecDepth 100000 in
theorem zp_r9 {K : Act → World → Prop} {c : Code} (hc : regOf (Try.f17.body.getD .skip) 9 = some c) (a : Act) {v : Vzp} {wq : World} {xb rb ro n rc i : Nat} {x0 x2 : Int} {x1 x3 x4 : ByteArray} (hF : Fzp a v) (h1v : v.v1 = .pointer (some ⟨xb, 0, none⟩)) (h12v : v.v12 = .int .i64 (i : Int)) (hi : i < n) (hcb : wq.cell? ⟨xb, 4, none⟩ = some (.slice (some ⟨rb, ro, none⟩) n rc)) (hx0 : wq.cell? ⟨rb, ro + i * 5, none⟩ = some (.int .i64 x0)) (hx1 : wq.cell? ⟨rb, ro + i * 5 + 1, none⟩ = some (.string x1)) (hx2 : wq.cell? ⟨rb, ro + i * 5 + 2, none⟩ = some (.int .i64 x2)) (hx3 : wq.cell? ⟨rb, ro + i * 5 + 3, none⟩ = some (.string x3)) (hx4 : wq.cell? ⟨rb, ro + i * 5 + 4, none⟩ = some (.string x4))
    (hQ : ∀ a', Fzp a' { v with v13 := .pointer (some ⟨wq.heap.size, 0, none⟩) } → K a' (wq.alloc (.cells #[.int .i64 x0, .string x1, .int .i64 x2, .string x3, .string x4] 63))) :
    Code.wp Try.prog c (Exit.then K fun _ _ _ => False) a wq := by
  have HQ := hide hQ
  clear hQ
  obtain ⟨t', d'⟩ := a
  obtain ⟨v0, v1, v2, v3, v6, v7, v8, v9, v10, v11, v12, v13⟩ := v
  simp only at h1v h12v HQ
  subst h1v h12v
  obtain ⟨hs1, hd1, q0, q1, q2, q3, q6, q7, q8, q9, q10, q11, q12, q13⟩ := hF
  obtain ⟨u, hu⟩ := frame_zp t' hs1
  simp only at hd1 q0 q1 q2 q3 q6 q7 q8 q9 q10 q11 q12 q13
  subst hu hd1
  have e0 : u 0 = v0 := q0
  have e1 : u 1 = .pointer (some ⟨xb, 0, none⟩) := q1
  have e2 : u 2 = v2 := q2
  have e3 : u 3 = v3 := q3
  have e6 : u 6 = v6 := q6
  have e7 : u 7 = v7 := q7
  have e8 : u 8 = v8 := q8
  have e9 : u 9 = v9 := q9
  have e10 : u 10 = v10 := q10
  have e11 : u 11 = v11 := q11
  have e12 : u 12 = .int .i64 (i : Int) := q12
  have e13 : u 13 = v13 := q13
  rw [e0, e1, e2, e3, e6, e7, e8, e9, e10, e11, e12, e13]
  clear q0 e0 q1 e1 q2 e2 q3 e3 q6 e6 q7 e7 q8 e8 q9 e9 q10 e10 q11 e11 q12 e12 q13 e13 hs1
  simp only [Try.f17, Option.getD_some, regOf] at hc
  injection hc with hc
  subst hc
  have e1 : (i : Int) < (n : Int) := by omega
  go_wp2
  exact HQ.out _ ⟨rfl, rfl, rfl, rfl, rfl, rfl, rfl, rfl, rfl, rfl, rfl, rfl, rfl, rfl⟩
set_option maxHeartbeats 8000000 in
set_option maxRecDepth 100000 in
theorem zp_r10t {K : Act → World → Prop} {c : Code} (hc : regOf (Try.f17.body.getD .skip) 10 = some c) (a : Act) {v : Vzp} {wq : World} {sb db : Nat} {x0 ed : Int} {xn xt : ByteArray} {xc xx : Int} (hF : Fzp a v) (h3v : v.v3 = .pointer (some ⟨sb, 0, none⟩)) (h10v : v.v10 = .int .i64 ed) (h13v : v.v13 = .pointer (some ⟨db, 0, none⟩)) (hSs : wq.heap[sb]? = some (.cells #[.string xn, .string xt, .int .i64 xc, .int .i64 xx] 37 (0, 0))) (hd0 : wq.cell? ⟨db, 0, none⟩ = some (.int .i64 x0)) (h1 : xx ≤ x0) (h2 : x0 < ed)
    (hQ : ∀ a', Fzp a' v → a'.tmps.getD 85 undef = .bool true → K a' wq) :
    Code.wp Try.prog c (Exit.then K fun _ _ _ => False) a wq := by
  have HQ := hide hQ
  clear hQ
  obtain ⟨t', d'⟩ := a
  obtain ⟨v0, v1, v2, v3, v6, v7, v8, v9, v10, v11, v12, v13⟩ := v
  simp only at h3v h10v h13v HQ
  subst h3v h10v h13v
  obtain ⟨hs1, hd1, q0, q1, q2, q3, q6, q7, q8, q9, q10, q11, q12, q13⟩ := hF
  obtain ⟨u, hu⟩ := frame_zp t' hs1
  simp only at hd1 q0 q1 q2 q3 q6 q7 q8 q9 q10 q11 q12 q13
  subst hu hd1
  have e0 : u 0 = v0 := q0
  have e1 : u 1 = v1 := q1
  have e2 : u 2 = v2 := q2
  have e3 : u 3 = .pointer (some ⟨sb, 0, none⟩) := q3
  have e6 : u 6 = v6 := q6
  have e7 : u 7 = v7 := q7
  have e8 : u 8 = v8 := q8
  have e9 : u 9 = v9 := q9
  have e10 : u 10 = .int .i64 ed := q10
  have e11 : u 11 = v11 := q11
  have e12 : u 12 = v12 := q12
  have e13 : u 13 = .pointer (some ⟨db, 0, none⟩) := q13
  rw [e0, e1, e2, e3, e6, e7, e8, e9, e10, e11, e12, e13]
  clear q0 e0 q1 e1 q2 e2 q3 e3 q6 e6 q7 e7 q8 e8 q9 e9 q10 e10 q11 e11 q12 e12 q13 e13 hs1
  simp only [Try.f17, Option.getD_some, regOf] at hc
  injection hc with hc
  subst hc
  obtain ⟨⟨c0, c1, c2, c3⟩, _⟩ := box4 hSs
  clear hSs
  have g1 : x0 ≥ xx := h1
  have g3 : decide (xx ≤ x0) = true := decide_eq_true h1
  have g4 : decide (x0 < ed) = true := decide_eq_true h2
  go_wp2
  exact HQ.out _ ⟨rfl, rfl, rfl, rfl, rfl, rfl, rfl, rfl, rfl, rfl, rfl, rfl, rfl, rfl⟩ (by first | rfl | (simp; done) | (simp; omega))
set_option maxHeartbeats 8000000 in
set_option maxRecDepth 100000 in
theorem zp_r10f {K : Act → World → Prop} {c : Code} (hc : regOf (Try.f17.body.getD .skip) 10 = some c) (a : Act) {v : Vzp} {wq : World} {sb db : Nat} {x0 ed : Int} {xn xt : ByteArray} {xc xx : Int} (hF : Fzp a v) (h3v : v.v3 = .pointer (some ⟨sb, 0, none⟩)) (h10v : v.v10 = .int .i64 ed) (h13v : v.v13 = .pointer (some ⟨db, 0, none⟩)) (hSs : wq.heap[sb]? = some (.cells #[.string xn, .string xt, .int .i64 xc, .int .i64 xx] 37 (0, 0))) (hd0 : wq.cell? ⟨db, 0, none⟩ = some (.int .i64 x0)) (h1 : ¬ xx ≤ x0)
    (hQ : ∀ a', Fzp a' v → a'.tmps.getD 85 undef = .bool false → K a' wq) :
    Code.wp Try.prog c (Exit.then K fun _ _ _ => False) a wq := by
  have HQ := hide hQ
  clear hQ
  obtain ⟨t', d'⟩ := a
  obtain ⟨v0, v1, v2, v3, v6, v7, v8, v9, v10, v11, v12, v13⟩ := v
  simp only at h3v h10v h13v HQ
  subst h3v h10v h13v
  obtain ⟨hs1, hd1, q0, q1, q2, q3, q6, q7, q8, q9, q10, q11, q12, q13⟩ := hF
  obtain ⟨u, hu⟩ := frame_zp t' hs1
  simp only at hd1 q0 q1 q2 q3 q6 q7 q8 q9 q10 q11 q12 q13
  subst hu hd1
  have e0 : u 0 = v0 := q0
  have e1 : u 1 = v1 := q1
  have e2 : u 2 = v2 := q2
  have e3 : u 3 = .pointer (some ⟨sb, 0, none⟩) := q3
  have e6 : u 6 = v6 := q6
  have e7 : u 7 = v7 := q7
  have e8 : u 8 = v8 := q8
  have e9 : u 9 = v9 := q9
  have e10 : u 10 = .int .i64 ed := q10
  have e11 : u 11 = v11 := q11
  have e12 : u 12 = v12 := q12
  have e13 : u 13 = .pointer (some ⟨db, 0, none⟩) := q13
  rw [e0, e1, e2, e3, e6, e7, e8, e9, e10, e11, e12, e13]
  clear q0 e0 q1 e1 q2 e2 q3 e3 q6 e6 q7 e7 q8 e8 q9 e9 q10 e10 q11 e11 q12 e12 q13 e13 hs1
  simp only [Try.f17, Option.getD_some, regOf] at hc
  injection hc with hc
  subst hc
  obtain ⟨⟨c0, c1, c2, c3⟩, _⟩ := box4 hSs
  clear hSs
  have g1 : ¬ x0 ≥ xx := h1
  have g3 : decide (xx ≤ x0) = false := decide_eq_false h1
  go_wp2
  exact HQ.out _ ⟨rfl, rfl, rfl, rfl, rfl, rfl, rfl, rfl, rfl, rfl, rfl, rfl, rfl, rfl⟩ (by first | rfl | (simp; done) | (simp; omega))
set_option maxHeartbeats 8000000 in
set_option maxRecDepth 100000 in
theorem zp_r10g {K : Act → World → Prop} {c : Code} (hc : regOf (Try.f17.body.getD .skip) 10 = some c) (a : Act) {v : Vzp} {wq : World} {sb db : Nat} {x0 ed : Int} {xn xt : ByteArray} {xc xx : Int} (hF : Fzp a v) (h3v : v.v3 = .pointer (some ⟨sb, 0, none⟩)) (h10v : v.v10 = .int .i64 ed) (h13v : v.v13 = .pointer (some ⟨db, 0, none⟩)) (hSs : wq.heap[sb]? = some (.cells #[.string xn, .string xt, .int .i64 xc, .int .i64 xx] 37 (0, 0))) (hd0 : wq.cell? ⟨db, 0, none⟩ = some (.int .i64 x0)) (h1 : xx ≤ x0) (h2 : ¬ x0 < ed)
    (hQ : ∀ a', Fzp a' v → a'.tmps.getD 85 undef = .bool false → K a' wq) :
    Code.wp Try.prog c (Exit.then K fun _ _ _ => False) a wq := by
  have HQ := hide hQ
  clear hQ
  obtain ⟨t', d'⟩ := a
  obtain ⟨v0, v1, v2, v3, v6, v7, v8, v9, v10, v11, v12, v13⟩ := v
  simp only at h3v h10v h13v HQ
  subst h3v h10v h13v
  obtain ⟨hs1, hd1, q0, q1, q2, q3, q6, q7, q8, q9, q10, q11, q12, q13⟩ := hF
  obtain ⟨u, hu⟩ := frame_zp t' hs1
  simp only at hd1 q0 q1 q2 q3 q6 q7 q8 q9 q10 q11 q12 q13
  subst hu hd1
  have e0 : u 0 = v0 := q0
  have e1 : u 1 = v1 := q1
  have e2 : u 2 = v2 := q2
  have e3 : u 3 = .pointer (some ⟨sb, 0, none⟩) := q3
  have e6 : u 6 = v6 := q6
  have e7 : u 7 = v7 := q7
  have e8 : u 8 = v8 := q8
  have e9 : u 9 = v9 := q9
  have e10 : u 10 = .int .i64 ed := q10
  have e11 : u 11 = v11 := q11
  have e12 : u 12 = v12 := q12
  have e13 : u 13 = .pointer (some ⟨db, 0, none⟩) := q13
  rw [e0, e1, e2, e3, e6, e7, e8, e9, e10, e11, e12, e13]
  clear q0 e0 q1 e1 q2 e2 q3 e3 q6 e6 q7 e7 q8 e8 q9 e9 q10 e10 q11 e11 q12 e12 q13 e13 hs1
  simp only [Try.f17, Option.getD_some, regOf] at hc
  injection hc with hc
  subst hc
  obtain ⟨⟨c0, c1, c2, c3⟩, _⟩ := box4 hSs
  clear hSs
  have g1 : x0 ≥ xx := h1
  have g3 : decide (xx ≤ x0) = true := decide_eq_true h1
  have g4 : decide (x0 < ed) = false := decide_eq_false h2
  go_wp2
  exact HQ.out _ ⟨rfl, rfl, rfl, rfl, rfl, rfl, rfl, rfl, rfl, rfl, rfl, rfl, rfl, rfl⟩ (by first | rfl | (simp; done) | (simp; omega))
set_option maxHeartbeats 8000000 in
set_option maxRecDepth 100000 in
theorem zp_r11 {K : Act → World → Prop} {c : Code} (hc : regOf (Try.f17.body.getD .skip) 11 = some c) (a : Act) {v : Vzp} {wq : World} {db m oc m2 oc2 : Nat} {oo oo2 : Option Addr} {x0 x2 : Int} {x1 x3 x4 : ByteArray} {w1 : World} (hF : Fzp a v) (h11v : v.v11 = .slice oo m oc) (h13v : v.v13 = .pointer (some ⟨db, 0, none⟩)) (hd0 : wq.cell? ⟨db, 0, none⟩ = some (.int .i64 x0)) (hd1 : wq.cell? ⟨db, 1, none⟩ = some (.string x1)) (hd2 : wq.cell? ⟨db, 2, none⟩ = some (.int .i64 x2)) (hd3 : wq.cell? ⟨db, 3, none⟩ = some (.string x3)) (hd4 : wq.cell? ⟨db, 4, none⟩ = some (.string x4)) (hA : (Builtin.append_ #[43, 43] 43 #[.slice oo m oc, .slice (some ⟨wq.heap.size, 0, none⟩) 1 1]).run Try.prog (wq.alloc (.cells #[.int .i64 x0, .string x1, .int .i64 x2, .string x3, .string x4] 63)) = .ok (.slice oo2 m2 oc2) w1)
    (hQ : ∀ a', Fzp a' { v with v11 := .slice oo2 m2 oc2 } → K a' w1) :
    Code.wp Try.prog c (Exit.then K fun _ _ _ => False) a wq := by
  have HQ := hide hQ
  clear hQ
  obtain ⟨t', d'⟩ := a
  obtain ⟨v0, v1, v2, v3, v6, v7, v8, v9, v10, v11, v12, v13⟩ := v
  simp only at h11v h13v HQ
  subst h11v h13v
  obtain ⟨hs1, hd1, q0, q1, q2, q3, q6, q7, q8, q9, q10, q11, q12, q13⟩ := hF
  obtain ⟨u, hu⟩ := frame_zp t' hs1
  simp only at hd1 q0 q1 q2 q3 q6 q7 q8 q9 q10 q11 q12 q13
  subst hu hd1
  have e0 : u 0 = v0 := q0
  have e1 : u 1 = v1 := q1
  have e2 : u 2 = v2 := q2
  have e3 : u 3 = v3 := q3
  have e6 : u 6 = v6 := q6
  have e7 : u 7 = v7 := q7
  have e8 : u 8 = v8 := q8
  have e9 : u 9 = v9 := q9
  have e10 : u 10 = v10 := q10
  have e11 : u 11 = .slice oo m oc := q11
  have e12 : u 12 = v12 := q12
  have e13 : u 13 = .pointer (some ⟨db, 0, none⟩) := q13
  rw [e0, e1, e2, e3, e6, e7, e8, e9, e10, e11, e12, e13]
  clear q0 e0 q1 e1 q2 e2 q3 e3 q6 e6 q7 e7 q8 e8 q9 e9 q10 e10 q11 e11 q12 e12 q13 e13 hs1
  simp only [Try.f17, Option.getD_some, regOf] at hc
  injection hc with hc
  subst hc
  have HA := hide hA
  clear hA
  go_wp2_with (at_builtin; refine wpList_append_run rfl _ _ 43 rfl _ _ _ rfl rfl HA.out ?_)
  exact HQ.out _ ⟨rfl, rfl, rfl, rfl, rfl, rfl, rfl, rfl, rfl, rfl, rfl, rfl, rfl, rfl⟩
set_option maxHeartbeats 8000000 in
set_option maxRecDepth 100000 in
theorem zp_r12 {K : Act → World → Prop} {c : Code} (hc : regOf (Try.f17.body.getD .skip) 12 = some c) (a : Act) {v : Vzp} {wq : World} {sb : Nat} {db : Nat} {x0 : Int} {xn xt : ByteArray} {xc xx : Int} (hF : Fzp a v) (h3v : v.v3 = .pointer (some ⟨sb, 0, none⟩)) (h13v : v.v13 = .pointer (some ⟨db, 0, none⟩)) (hSs : wq.heap[sb]? = some (.cells #[.string xn, .string xt, .int .i64 xc, .int .i64 xx] 37 (0, 0))) (hd0 : wq.cell? ⟨db, 0, none⟩ = some (.int .i64 x0)) (h0 : 0 ≤ x0) (h1 : x0 ≤ 100000000000000000)
    (hQ : ∀ a', Fzp a' v → K a' (wq.setCell ⟨sb, 3, none⟩ (.int .i64 (x0 + 1)))) :
    Code.wp Try.prog c (Exit.then K fun _ _ _ => False) a wq := by
  have HQ := hide hQ
  clear hQ
  obtain ⟨t', d'⟩ := a
  obtain ⟨v0, v1, v2, v3, v6, v7, v8, v9, v10, v11, v12, v13⟩ := v
  simp only at h3v h13v HQ
  subst h3v h13v
  obtain ⟨hs1, hd1, q0, q1, q2, q3, q6, q7, q8, q9, q10, q11, q12, q13⟩ := hF
  obtain ⟨u, hu⟩ := frame_zp t' hs1
  simp only at hd1 q0 q1 q2 q3 q6 q7 q8 q9 q10 q11 q12 q13
  subst hu hd1
  have e0 : u 0 = v0 := q0
  have e1 : u 1 = v1 := q1
  have e2 : u 2 = v2 := q2
  have e3 : u 3 = .pointer (some ⟨sb, 0, none⟩) := q3
  have e6 : u 6 = v6 := q6
  have e7 : u 7 = v7 := q7
  have e8 : u 8 = v8 := q8
  have e9 : u 9 = v9 := q9
  have e10 : u 10 = v10 := q10
  have e11 : u 11 = v11 := q11
  have e12 : u 12 = v12 := q12
  have e13 : u 13 = .pointer (some ⟨db, 0, none⟩) := q13
  rw [e0, e1, e2, e3, e6, e7, e8, e9, e10, e11, e12, e13]
  clear q0 e0 q1 e1 q2 e2 q3 e3 q6 e6 q7 e7 q8 e8 q9 e9 q10 e10 q11 e11 q12 e12 q13 e13 hs1
  simp only [Try.f17, Option.getD_some, regOf] at hc
  injection hc with hc
  subst hc
  obtain ⟨⟨c0, c1, c2, c3⟩, f0, f1, f2, f3⟩ := box4 hSs
  clear hSs
  go_wp2
  exact HQ.out _ ⟨rfl, rfl, rfl, rfl, rfl, rfl, rfl, rfl, rfl, rfl, rfl, rfl, rfl, rfl⟩
set_option maxHeartbeats 8000000 in
set_option maxRecDepth 100000 in
theorem zp_r13 {K : Act → World → Prop} {c : Code} (hc : regOf (Try.f17.body.getD .skip) 13 = some c) (a : Act) {v : Vzp} {wq : World} {sb rb m oc : Nat} {oo : Option Addr} {y0 y1 y2 y3 : Value} {xn xt : ByteArray} {xc xx : Int} (hF : Fzp a v) (h3v : v.v3 = .pointer (some ⟨sb, 0, none⟩)) (h6v : v.v6 = .pointer (some ⟨rb, 0, none⟩)) (h11v : v.v11 = .slice oo m oc) (hSs : wq.heap[sb]? = some (.cells #[.string xn, .string xt, .int .i64 xc, .int .i64 xx] 37 (0, 0))) (hSr : wq.heap[rb]? = some (.cells #[y0, y1, y2, y3] 37 (0, 0)))
    (hQ : ∀ a', Fzp a' { v with v7 := .slice oo m oc, v8 := .int .i64 0 } → K a' (set4 wq rb (.string xn) (.string xt) (.int .i64 xc) (.int .i64 xx))) :
    Code.wp Try.prog c (Exit.then K fun _ _ _ => False) a wq := by
  have HQ := hide hQ
  clear hQ
  obtain ⟨t', d'⟩ := a
  obtain ⟨v0, v1, v2, v3, v6, v7, v8, v9, v10, v11, v12, v13⟩ := v
  simp only at h3v h6v h11v HQ
  subst h3v h6v h11v
  obtain ⟨hs1, hd1, q0, q1, q2, q3, q6, q7, q8, q9, q10, q11, q12, q13⟩ := hF
  obtain ⟨u, hu⟩ := frame_zp t' hs1
  simp only at hd1 q0 q1 q2 q3 q6 q7 q8 q9 q10 q11 q12 q13
  subst hu hd1
  have e0 : u 0 = v0 := q0
  have e1 : u 1 = v1 := q1
  have e2 : u 2 = v2 := q2
  have e3 : u 3 = .pointer (some ⟨sb, 0, none⟩) := q3
  have e6 : u 6 = .pointer (some ⟨rb, 0, none⟩) := q6
  have e7 : u 7 = v7 := q7
  have e8 : u 8 = v8 := q8
  have e9 : u 9 = v9 := q9
  have e10 : u 10 = v10 := q10
  have e11 : u 11 = .slice oo m oc := q11
  have e12 : u 12 = v12 := q12
  have e13 : u 13 = v13 := q13
  rw [e0, e1, e2, e3, e6, e7, e8, e9, e10, e11, e12, e13]
  clear q0 e0 q1 e1 q2 e2 q3 e3 q6 e6 q7 e7 q8 e8 q9 e9 q10 e10 q11 e11 q12 e12 q13 e13 hs1
  simp only [Try.f17, Option.getD_some, regOf] at hc
  injection hc with hc
  subst hc
  obtain ⟨⟨c0, c1, c2, c3⟩, _⟩ := box4 hSs
  obtain ⟨⟨d0, d1, d2, d3⟩, f0, f1, f2, f3⟩ := box4 hSr
  clear hSs hSr
  unfold set4 at HQ
  go_wp2
  exact HQ.out _ ⟨rfl, rfl, rfl, rfl, rfl, rfl, rfl, rfl, rfl, rfl, rfl, rfl, rfl, rfl⟩
theorem zp_ret {W : World} {a : Act} {v : Vzp} {rb : Nat} {T : SB} {y0 : Value} {y1 : Int} {R : Ending → World → Prop} (hF : Fzp a v) (h0 : v.v6 = .pointer (some ⟨rb, 0, none⟩)) (hB : W.heap[rb]? = some (.cells #[.string T.name, .string T.top, .int .i64 T.cur, .int .i64 T.next] 37 (0, 0))) (hy0 : v.v7 = y0) (hy1 : v.v8 = .int .i64 y1) (h : R (.returned (.tuple #[T.v, y0, .int .i64 y1])) W) :
    bodyPost Try.prog Try.f17 R .ret a W := by
  have g0 := slot_get (hF.s6.trans h0)
  have gy0 := slot_get (hF.s7.trans hy0)
  have gy1 := slot_get (hF.s8.trans hy1)
  obtain ⟨⟨e0, e1, e2, e3⟩, _⟩ := box4 hB
  refine bodyPost_ret (v := (.tuple #[T.v, y0, .int .i64 y1])) ?_ hF.defers h
  simp [results, Try.results17, go_sem, g0, gy0, gy1, e0, e1, e2, e3, SB.v]
end Go.Proofs.Ytominplelmbecaa.Y
