/-
  What Learn, Add, Has do where they leave by goto (mkod.py).
-/
import Derived.Test.YtjgbgbgajadgnaaZOC
namespace Go.Proofs.Ytjgbgbgajadgnaa
open Go.RowKit

attribute [local go_sem ↓] Go.wp_at_zero Go.wp_at_succ
set_option linter.unusedSimpArgs false
set_option linter.unusedVariables false
set_option maxRecDepth 100000 in
theorem frame_le (t : Array Value) (h : t.size = 26) : ∃ u : Nat → Value, t = List.toArray (u 0 :: u 1 :: u 2 :: u 3 :: u 4 :: u 5 :: u 6 :: u 7 :: u 8 :: u 9 :: u 10 :: u 11 :: u 12 :: u 13 :: u 14 :: u 15 :: u 16 :: u 17 :: u 18 :: u 19 :: u 20 :: u 21 :: u 22 :: u 23 :: u 24 :: u 25 :: []) := by
  refine ⟨fun i => t.getD i undef, ?_⟩
  have e : (List.toArray ((fun i => t.getD i undef) 0 :: (fun i => t.getD i undef) 1 :: (fun i => t.getD i undef) 2 :: (fun i => t.getD i undef) 3 :: (fun i => t.getD i undef) 4 :: (fun i => t.getD i undef) 5 :: (fun i => t.getD i undef) 6 :: (fun i => t.getD i undef) 7 :: (fun i => t.getD i undef) 8 :: (fun i => t.getD i undef) 9 :: (fun i => t.getD i undef) 10 :: (fun i => t.getD i undef) 11 :: (fun i => t.getD i undef) 12 :: (fun i => t.getD i undef) 13 :: (fun i => t.getD i undef) 14 :: (fun i => t.getD i undef) 15 :: (fun i => t.getD i undef) 16 :: (fun i => t.getD i undef) 17 :: (fun i => t.getD i undef) 18 :: (fun i => t.getD i undef) 19 :: (fun i => t.getD i undef) 20 :: (fun i => t.getD i undef) 21 :: (fun i => t.getD i undef) 22 :: (fun i => t.getD i undef) 23 :: (fun i => t.getD i undef) 24 :: (fun i => t.getD i undef) 25 :: []) : Array Value) = ((List.range 26).map fun i => t.getD i undef).toArray := rfl
  refine Eq.trans ?_ e.symm
  apply Array.ext
  · simp [h]
  · intro k h1 h2
    simp [Array.getD, h1]
/-- The slots that matter. -/
structure Vle where
  v4 : Value
structure Fle (a : Act) (v : Vle) : Prop where
  size : a.tmps.size = 26
  defers : a.defers = []
  s4 : a.tmps.getD 4 undef = v.v4
set_option maxHeartbeats 8000000 in
set_option maxRecDepth 100000 in
theorem le_r5 {K : Act → World → Prop} {c : Code} (hc : regOf (Try.f19.body.getD .skip) 5 = some c) (a : Act) {v : Vle} {wq : World}  (hF : Fle a v) (hQ : ∀ a', Fle a' { v with v4 := .bool false } → K a' wq) :
    Code.wp Try.prog c (Exit.then K fun _ _ _ => False) a wq := by
  have HQ := hide hQ
  clear hQ
  obtain ⟨t', d'⟩ := a
  obtain ⟨v4⟩ := v
  obtain ⟨hs1, hd1, q4⟩ := hF
  obtain ⟨u, hu⟩ := frame_le t' hs1
  simp only at hd1 q4
  subst hu hd1
  have e4 : u 4 = v4 := q4
  rw [e4]
  clear q4 e4 hs1
  simp only [Try.f19, Option.getD_some, regOf] at hc
  injection hc with hc
  subst hc
  go_wp2
  exact HQ.out _ ⟨rfl, rfl, rfl⟩
theorem le_refused {c : Code} (hc : regOf (Try.f19.body.getD .skip) 5 = some c) {R : Ending → World → Prop} (a : Act) (w : World) (hs : a.tmps.size = 26) (hd : a.defers = []) (h : R (.returned (.bool false)) w) : (c.seq .ret).wp Try.prog (Exit.jump 0 (fun _ _ => False) (bodyPost Try.prog Try.f19 R)) a w := by
  refine wp_seq (reg_mono (le_r5 hc a (v := ⟨a.tmps.getD 4 undef⟩) ⟨hs, hd, rfl⟩ fun a' h' => wp_ret ?_))
  show bodyPost Try.prog Try.f19 R .ret a' w
  have g0 := slot_get h'.s4
  refine bodyPost_ret (v := .bool false) ?_ h'.defers h
  simp [results, Try.results19, go_sem, g0]
set_option maxRecDepth 100000 in
theorem frame_ad (t : Array Value) (h : t.size = 27) : ∃ u : Nat → Value, t = List.toArray (u 0 :: u 1 :: u 2 :: u 3 :: u 4 :: u 5 :: u 6 :: u 7 :: u 8 :: u 9 :: u 10 :: u 11 :: u 12 :: u 13 :: u 14 :: u 15 :: u 16 :: u 17 :: u 18 :: u 19 :: u 20 :: u 21 :: u 22 :: u 23 :: u 24 :: u 25 :: u 26 :: []) := by
  refine ⟨fun i => t.getD i undef, ?_⟩
  have e : (List.toArray ((fun i => t.getD i undef) 0 :: (fun i => t.getD i undef) 1 :: (fun i => t.getD i undef) 2 :: (fun i => t.getD i undef) 3 :: (fun i => t.getD i undef) 4 :: (fun i => t.getD i undef) 5 :: (fun i => t.getD i undef) 6 :: (fun i => t.getD i undef) 7 :: (fun i => t.getD i undef) 8 :: (fun i => t.getD i undef) 9 :: (fun i => t.getD i undef) 10 :: (fun i => t.getD i undef) 11 :: (fun i => t.getD i undef) 12 :: (fun i => t.getD i undef) 13 :: (fun i => t.getD i undef) 14 :: (fun i => t.getD i undef) 15 :: (fun i => t.getD i undef) 16 :: (fun i => t.getD i undef) 17 :: (fun i => t.getD i undef) 18 :: (fun i => t.getD i undef) 19 :: (fun i => t.getD i undef) 20 :: (fun i => t.getD i undef) 21 :: (fun i => t.getD i undef) 22 :: (fun i => t.getD i undef) 23 :: (fun i => t.getD i undef) 24 :: (fun i => t.getD i undef) 25 :: (fun i => t.getD i undef) 26 :: []) : Array Value) = ((List.range 27).map fun i => t.getD i undef).toArray := rfl
  refine Eq.trans ?_ e.symm
  apply Array.ext
  · simp [h]
  · intro k h1 h2
    simp [Array.getD, h1]
/-- The slots that matter. -/
structure Vad where
  v6 : Value
structure Fad (a : Act) (v : Vad) : Prop where
  size : a.tmps.size = 27
  defers : a.defers = []
  s6 : a.tmps.getD 6 undef = v.v6
set_option maxHeartbeats 8000000 in
set_option maxRecDepth 100000 in
theorem ad_r4 {K : Act → World → Prop} {c : Code} (hc : regOf (Try.f15.body.getD .skip) 4 = some c) (a : Act) {v : Vad} {wq : World}  (hF : Fad a v) (hQ : ∀ a', Fad a' { v with v6 := .bool false } → K a' wq) :
    Code.wp Try.prog c (Exit.then K fun _ _ _ => False) a wq := by
  have HQ := hide hQ
  clear hQ
  obtain ⟨t', d'⟩ := a
  obtain ⟨v6⟩ := v
  obtain ⟨hs1, hd1, q6⟩ := hF
  obtain ⟨u, hu⟩ := frame_ad t' hs1
  simp only at hd1 q6
  subst hu hd1
  have e6 : u 6 = v6 := q6
  rw [e6]
  clear q6 e6 hs1
  simp only [Try.f15, Option.getD_some, regOf] at hc
  injection hc with hc
  subst hc
  go_wp2
  exact HQ.out _ ⟨rfl, rfl, rfl⟩
theorem ad_refused {c : Code} (hc : regOf (Try.f15.body.getD .skip) 4 = some c) {R : Ending → World → Prop} (a : Act) (w : World) (hs : a.tmps.size = 27) (hd : a.defers = []) (h : R (.returned (.bool false)) w) : (c.seq .ret).wp Try.prog (Exit.jump 0 (fun _ _ => False) (bodyPost Try.prog Try.f15 R)) a w := by
  refine wp_seq (reg_mono (ad_r4 hc a (v := ⟨a.tmps.getD 6 undef⟩) ⟨hs, hd, rfl⟩ fun a' h' => wp_ret ?_))
  show bodyPost Try.prog Try.f15 R .ret a' w
  have g0 := slot_get h'.s6
  refine bodyPost_ret (v := .bool false) ?_ h'.defers h
  simp [results, Try.results15, go_sem, g0]
set_option maxRecDepth 100000 in
theorem frame_hs (t : Array Value) (h : t.size = 39) : ∃ u : Nat → Value, t = List.toArray (u 0 :: u 1 :: u 2 :: u 3 :: u 4 :: u 5 :: u 6 :: u 7 :: u 8 :: u 9 :: u 10 :: u 11 :: u 12 :: u 13 :: u 14 :: u 15 :: u 16 :: u 17 :: u 18 :: u 19 :: u 20 :: u 21 :: u 22 :: u 23 :: u 24 :: u 25 :: u 26 :: u 27 :: u 28 :: u 29 :: u 30 :: u 31 :: u 32 :: u 33 :: u 34 :: u 35 :: u 36 :: u 37 :: u 38 :: []) := by
  refine ⟨fun i => t.getD i undef, ?_⟩
  have e : (List.toArray ((fun i => t.getD i undef) 0 :: (fun i => t.getD i undef) 1 :: (fun i => t.getD i undef) 2 :: (fun i => t.getD i undef) 3 :: (fun i => t.getD i undef) 4 :: (fun i => t.getD i undef) 5 :: (fun i => t.getD i undef) 6 :: (fun i => t.getD i undef) 7 :: (fun i => t.getD i undef) 8 :: (fun i => t.getD i undef) 9 :: (fun i => t.getD i undef) 10 :: (fun i => t.getD i undef) 11 :: (fun i => t.getD i undef) 12 :: (fun i => t.getD i undef) 13 :: (fun i => t.getD i undef) 14 :: (fun i => t.getD i undef) 15 :: (fun i => t.getD i undef) 16 :: (fun i => t.getD i undef) 17 :: (fun i => t.getD i undef) 18 :: (fun i => t.getD i undef) 19 :: (fun i => t.getD i undef) 20 :: (fun i => t.getD i undef) 21 :: (fun i => t.getD i undef) 22 :: (fun i => t.getD i undef) 23 :: (fun i => t.getD i undef) 24 :: (fun i => t.getD i undef) 25 :: (fun i => t.getD i undef) 26 :: (fun i => t.getD i undef) 27 :: (fun i => t.getD i undef) 28 :: (fun i => t.getD i undef) 29 :: (fun i => t.getD i undef) 30 :: (fun i => t.getD i undef) 31 :: (fun i => t.getD i undef) 32 :: (fun i => t.getD i undef) 33 :: (fun i => t.getD i undef) 34 :: (fun i => t.getD i undef) 35 :: (fun i => t.getD i undef) 36 :: (fun i => t.getD i undef) 37 :: (fun i => t.getD i undef) 38 :: []) : Array Value) = ((List.range 39).map fun i => t.getD i undef).toArray := rfl
  refine Eq.trans ?_ e.symm
  apply Array.ext
  · simp [h]
  · intro k h1 h2
    simp [Array.getD, h1]
/-- The slots that matter. -/
structure Vhs where
  v6 : Value
structure Fhs (a : Act) (v : Vhs) : Prop where
  size : a.tmps.size = 39
  defers : a.defers = []
  s6 : a.tmps.getD 6 undef = v.v6
set_option maxHeartbeats 8000000 in
set_option maxRecDepth 100000 in
theorem hs_r5 {K : Act → World → Prop} {c : Code} (hc : regOf (Try.f17.body.getD .skip) 5 = some c) (a : Act) {v : Vhs} {wq : World}  (hF : Fhs a v) (hQ : ∀ a', Fhs a' { v with v6 := .bool false } → K a' wq) :
    Code.wp Try.prog c (Exit.then K fun _ _ _ => False) a wq := by
  have HQ := hide hQ
  clear hQ
  obtain ⟨t', d'⟩ := a
  obtain ⟨v6⟩ := v
  obtain ⟨hs1, hd1, q6⟩ := hF
  obtain ⟨u, hu⟩ := frame_hs t' hs1
  simp only at hd1 q6
  subst hu hd1
  have e6 : u 6 = v6 := q6
  rw [e6]
  clear q6 e6 hs1
  simp only [Try.f17, Option.getD_some, regOf] at hc
  injection hc with hc
  subst hc
  go_wp2
  exact HQ.out _ ⟨rfl, rfl, rfl⟩
theorem hs_refused {c : Code} (hc : regOf (Try.f17.body.getD .skip) 5 = some c) {R : Ending → World → Prop} (a : Act) (w : World) (hs : a.tmps.size = 39) (hd : a.defers = []) (h : R (.returned (.bool false)) w) : (c.seq .ret).wp Try.prog (Exit.jump 0 (fun _ _ => False) (bodyPost Try.prog Try.f17 R)) a w := by
  refine wp_seq (reg_mono (hs_r5 hc a (v := ⟨a.tmps.getD 6 undef⟩) ⟨hs, hd, rfl⟩ fun a' h' => wp_ret ?_))
  show bodyPost Try.prog Try.f17 R .ret a' w
  have g0 := slot_get h'.s6
  refine bodyPost_ret (v := .bool false) ?_ h'.defers h
  simp [results, Try.results17, go_sem, g0]
end Go.Proofs.Ytjgbgbgajadgnaa
