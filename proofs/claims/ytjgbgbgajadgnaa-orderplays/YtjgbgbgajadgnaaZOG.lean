/-
  Add, Has, Propose, as they run (mkog.py).
-/
import Derived.Test.YtjgbgbgajadgnaaZOF
namespace Go.Proofs.Ytjgbgbgajadgnaa
open Go.RowKit

attribute [local go_sem ↓] Go.wp_at_zero Go.wp_at_succ
set_option linter.unusedSimpArgs false
set_option linter.unusedVariables false
set_option maxRecDepth 100000 in
theorem frame_ha (t : Array Value) (h : t.size = 39) : ∃ u : Nat → Value, t = List.toArray (u 0 :: u 1 :: u 2 :: u 3 :: u 4 :: u 5 :: u 6 :: u 7 :: u 8 :: u 9 :: u 10 :: u 11 :: u 12 :: u 13 :: u 14 :: u 15 :: u 16 :: u 17 :: u 18 :: u 19 :: u 20 :: u 21 :: u 22 :: u 23 :: u 24 :: u 25 :: u 26 :: u 27 :: u 28 :: u 29 :: u 30 :: u 31 :: u 32 :: u 33 :: u 34 :: u 35 :: u 36 :: u 37 :: u 38 :: []) := by
  refine ⟨fun i => t.getD i undef, ?_⟩
  have e : (List.toArray ((fun i => t.getD i undef) 0 :: (fun i => t.getD i undef) 1 :: (fun i => t.getD i undef) 2 :: (fun i => t.getD i undef) 3 :: (fun i => t.getD i undef) 4 :: (fun i => t.getD i undef) 5 :: (fun i => t.getD i undef) 6 :: (fun i => t.getD i undef) 7 :: (fun i => t.getD i undef) 8 :: (fun i => t.getD i undef) 9 :: (fun i => t.getD i undef) 10 :: (fun i => t.getD i undef) 11 :: (fun i => t.getD i undef) 12 :: (fun i => t.getD i undef) 13 :: (fun i => t.getD i undef) 14 :: (fun i => t.getD i undef) 15 :: (fun i => t.getD i undef) 16 :: (fun i => t.getD i undef) 17 :: (fun i => t.getD i undef) 18 :: (fun i => t.getD i undef) 19 :: (fun i => t.getD i undef) 20 :: (fun i => t.getD i undef) 21 :: (fun i => t.getD i undef) 22 :: (fun i => t.getD i undef) 23 :: (fun i => t.getD i undef) 24 :: (fun i => t.getD i undef) 25 :: (fun i => t.getD i undef) 26 :: (fun i => t.getD i undef) 27 :: (fun i => t.getD i undef) 28 :: (fun i => t.getD i undef) 29 :: (fun i => t.getD i undef) 30 :: (fun i => t.getD i undef) 31 :: (fun i => t.getD i undef) 32 :: (fun i => t.getD i undef) 33 :: (fun i => t.getD i undef) 34 :: (fun i => t.getD i undef) 35 :: (fun i => t.getD i undef) 36 :: (fun i => t.getD i undef) 37 :: (fun i => t.getD i undef) 38 :: []) : Array Value) = ((List.range 39).map fun i => t.getD i undef).toArray := rfl
  refine Eq.trans ?_ e.symm
  apply Array.ext
  · simp [h]
  · intro k h1 h2
    simp [Array.getD, h1]
/-- The slots that matter. -/
structure Vha where
  v0 : Value
  v1 : Value
  v2 : Value
  v6 : Value
structure Fha (a : Act) (v : Vha) : Prop where
  size : a.tmps.size = 39
  defers : a.defers = []
  s0 : a.tmps.getD 0 undef = v.v0
  s1 : a.tmps.getD 1 undef = v.v1
  s2 : a.tmps.getD 2 undef = v.v2
  s6 : a.tmps.getD 6 undef = v.v6
set_option maxHeartbeats 8000000 in
set_option maxRecDepth 100000 in
theorem ha_r2 {K : Act → World → Prop} {c : Code} (hc : regOf (Try.f17.body.getD .skip) 2 = some c) (a : Act) {v : Vha} {wq : World} {b nd m hv : Nat} (hF : Fha a v) (h0v : v.v0 = .pointer (some ⟨b, 0, none⟩)) (h1v : v.v1 = .int .i64 (nd : Int)) (h2v : v.v2 = .int .i64 (m : Int)) (c5 : wq.cell? ⟨b, 5 + nd, none⟩ = some (.int .i64 (hv : Int))) (f5 : wq.frozen? ⟨b, 5 + nd, none⟩ = false) (hnd : nd < 7) (hm : m ≤ 4611686018427387904) (hh : hv ≤ 4611686018427387904)
    (hQ : ∀ a', Fha a' v → K a' (wq.drew.setCell ⟨b, 5 + nd, none⟩ (.int .i64 ((max hv m : Nat) : Int)))) :
    Code.wp Try.prog c (Exit.then K fun _ _ _ => False) a wq := by
  have HQ := hide hQ
  clear hQ
  obtain ⟨t', d'⟩ := a
  obtain ⟨v0, v1, v2, v6⟩ := v
  simp only at h0v h1v h2v HQ
  subst h0v h1v h2v
  obtain ⟨hs1, hd1, q0, q1, q2, q6⟩ := hF
  obtain ⟨u, hu⟩ := frame_ha t' hs1
  simp only at hd1 q0 q1 q2 q6
  subst hu hd1
  have e0 : u 0 = .pointer (some ⟨b, 0, none⟩) := q0
  have e1 : u 1 = .int .i64 (nd : Int) := q1
  have e2 : u 2 = .int .i64 (m : Int) := q2
  have e6 : u 6 = v6 := q6
  rw [e0, e1, e2, e6]
  clear q0 e0 q1 e1 q2 e2 q6 e6 hs1
  simp only [Try.f17, Option.getD_some, regOf] at hc
  injection hc with hc
  subst hc
  have i0 : (0 : Int) ≤ (nd : Int) := by omega
  have i1 : (nd : Int) < 7 := by omega
  have hmx : ((max hv m : Nat) : Int) = max (hv : Int) (m : Int) := by omega
  refine wp_region_any rfl ?_
  refine wpAny_staged (ns := 39) (uses := (fun i => match i with | 0 => [24] | 1 => [25] | 2 => [26] | 3 => [27] | 4 => [28] | 5 => [29] | 6 => [30] | 7 => [31] | 8 => [32] | 9 => [33] | 10 => [34] | 11 => [35] | 12 => [36] | _ => [])) (by kernel_rfl) (by kernel_rfl) (fun l a w => ((fun (x : Bool) (w : World) => (x = false → w = wq.drew) ∧ (x = true → w = wq.drew.setCell ⟨b, 5 + nd, none⟩ (.int .i64 ((max hv m : Nat) : Int))))) (l 13) w) ⟨fun _ => rfl, fun e => by cases e⟩ (fun i => match i with | 0 => fun σ => σ 24 = .pointer (some ⟨b, 0, none⟩) | 1 => fun σ => σ 25 = .int .i64 (nd : Int) | 2 => fun σ => σ 26 = .pointer (some ⟨b, 0, none⟩) | 3 => fun σ => σ 27 = .int .i64 (nd : Int) | 4 => fun σ => σ 28 = .pointer (some ⟨b, 0, none⟩) | 5 => fun σ => σ 29 = .pointer (some ⟨b, 5, none⟩) | 6 => fun σ => σ 30 = .pointer (some ⟨b, 5 + nd, none⟩) | 7 => fun σ => σ 31 = .int .i64 (hv : Int) | 8 => fun σ => σ 32 = .int .i64 (m : Int) | 9 => fun σ => σ 33 = .int .i64 ((max hv m : Nat) : Int) | 10 => fun σ => σ 34 = .pointer (some ⟨b, 0, none⟩) | 11 => fun σ => σ 35 = .pointer (some ⟨b, 5, none⟩) | 12 => fun σ => σ 36 = .pointer (some ⟨b, 5 + nd, none⟩) | 13 => fun _ => True | _ => fun _ => True) ?phc ?pstep ?pdone
  case phc =>
    intro i s s' hx h
    rcases i with _ | i; · exact (hx _ (List.mem_singleton.2 rfl)).symm.trans h
    rcases i with _ | i; · exact (hx _ (List.mem_singleton.2 rfl)).symm.trans h
    rcases i with _ | i; · exact (hx _ (List.mem_singleton.2 rfl)).symm.trans h
    rcases i with _ | i; · exact (hx _ (List.mem_singleton.2 rfl)).symm.trans h
    rcases i with _ | i; · exact (hx _ (List.mem_singleton.2 rfl)).symm.trans h
    rcases i with _ | i; · exact (hx _ (List.mem_singleton.2 rfl)).symm.trans h
    rcases i with _ | i; · exact (hx _ (List.mem_singleton.2 rfl)).symm.trans h
    rcases i with _ | i; · exact (hx _ (List.mem_singleton.2 rfl)).symm.trans h
    rcases i with _ | i; · exact (hx _ (List.mem_singleton.2 rfl)).symm.trans h
    rcases i with _ | i; · exact (hx _ (List.mem_singleton.2 rfl)).symm.trans h
    rcases i with _ | i; · exact (hx _ (List.mem_singleton.2 rfl)).symm.trans h
    rcases i with _ | i; · exact (hx _ (List.mem_singleton.2 rfl)).symm.trans h
    rcases i with _ | i; · exact (hx _ (List.mem_singleton.2 rfl)).symm.trans h
    rcases i with _ | i; · exact h
    exact h
  case pstep =>
    intro i o ho a' w' l hl hr hq hsa hS hd
    match i, ho, hl, hr, hq with
    | 0, ho, hl, hr, hq =>
      obtain rfl := Option.some.inj ho
      try dsimp only at hd
      have g0 : a'.tmps.getD 0 undef = .pointer (some ⟨b, 0, none⟩) := hsa.rest 0 (by rfl)
      have hT : ((fun (x : Bool) (w : World) => (x = false → w = wq.drew) ∧ (x = true → w = wq.drew.setCell ⟨b, 5 + nd, none⟩ (.int .i64 ((max hv m : Nat) : Int))))) false w' := by have h := hS; rw [hq 13 (by kernel_rfl)] at h; exact h
      refine wpOp_of rfl rfl ?_
      refine op_run (v := .pointer (some ⟨b, 0, none⟩)) (w' := w') ?_ ⟨_, rfl, ?_, (by show ((fun (x : Bool) (w : World) => (x = false → w = wq.drew) ∧ (x = true → w = wq.drew.setCell ⟨b, 5 + nd, none⟩ (.int .i64 ((max hv m : Nat) : Int))))) _ _; rw [updL_other l (show 13 ≠ 0 by decide)]; rw [hq 13 (by kernel_rfl)]; exact hT)⟩
      · simp only [execOp, Act.eval, g0]; first | (go_simp; done) | rfl
      · try dsimp only
        exact (slots_put (ns := 39) (hsa.size.trans rfl) (by decide))
    | 1, ho, hl, hr, hq =>
      obtain rfl := Option.some.inj ho
      try dsimp only at hd
      have g1 : a'.tmps.getD 1 undef = .int .i64 (nd : Int) := hsa.rest 1 (by rfl)
      have hT : ((fun (x : Bool) (w : World) => (x = false → w = wq.drew) ∧ (x = true → w = wq.drew.setCell ⟨b, 5 + nd, none⟩ (.int .i64 ((max hv m : Nat) : Int))))) false w' := by have h := hS; rw [hq 13 (by kernel_rfl)] at h; exact h
      refine wpOp_of rfl rfl ?_
      refine op_run (v := .int .i64 (nd : Int)) (w' := w') ?_ ⟨_, rfl, ?_, (by show ((fun (x : Bool) (w : World) => (x = false → w = wq.drew) ∧ (x = true → w = wq.drew.setCell ⟨b, 5 + nd, none⟩ (.int .i64 ((max hv m : Nat) : Int))))) _ _; rw [updL_other l (show 13 ≠ 1 by decide)]; rw [hq 13 (by kernel_rfl)]; exact hT)⟩
      · simp only [execOp, Act.eval, g1]; first | (go_simp; done) | rfl
      · try dsimp only
        exact (slots_put (ns := 39) (hsa.size.trans rfl) (by decide))
    | 2, ho, hl, hr, hq =>
      obtain rfl := Option.some.inj ho
      try dsimp only at hd
      have g0 : a'.tmps.getD 0 undef = .pointer (some ⟨b, 0, none⟩) := hsa.rest 0 (by rfl)
      have hT : ((fun (x : Bool) (w : World) => (x = false → w = wq.drew) ∧ (x = true → w = wq.drew.setCell ⟨b, 5 + nd, none⟩ (.int .i64 ((max hv m : Nat) : Int))))) false w' := by have h := hS; rw [hq 13 (by kernel_rfl)] at h; exact h
      refine wpOp_of rfl rfl ?_
      refine op_run (v := .pointer (some ⟨b, 0, none⟩)) (w' := w') ?_ ⟨_, rfl, ?_, (by show ((fun (x : Bool) (w : World) => (x = false → w = wq.drew) ∧ (x = true → w = wq.drew.setCell ⟨b, 5 + nd, none⟩ (.int .i64 ((max hv m : Nat) : Int))))) _ _; rw [updL_other l (show 13 ≠ 2 by decide)]; rw [hq 13 (by kernel_rfl)]; exact hT)⟩
      · simp only [execOp, Act.eval, g0]; first | (go_simp; done) | rfl
      · try dsimp only
        exact (slots_put (ns := 39) (hsa.size.trans rfl) (by decide))
    | 3, ho, hl, hr, hq =>
      obtain rfl := Option.some.inj ho
      try dsimp only at hd
      have g1 : a'.tmps.getD 1 undef = .int .i64 (nd : Int) := hsa.rest 1 (by rfl)
      have hT : ((fun (x : Bool) (w : World) => (x = false → w = wq.drew) ∧ (x = true → w = wq.drew.setCell ⟨b, 5 + nd, none⟩ (.int .i64 ((max hv m : Nat) : Int))))) false w' := by have h := hS; rw [hq 13 (by kernel_rfl)] at h; exact h
      refine wpOp_of rfl rfl ?_
      refine op_run (v := .int .i64 (nd : Int)) (w' := w') ?_ ⟨_, rfl, ?_, (by show ((fun (x : Bool) (w : World) => (x = false → w = wq.drew) ∧ (x = true → w = wq.drew.setCell ⟨b, 5 + nd, none⟩ (.int .i64 ((max hv m : Nat) : Int))))) _ _; rw [updL_other l (show 13 ≠ 3 by decide)]; rw [hq 13 (by kernel_rfl)]; exact hT)⟩
      · simp only [execOp, Act.eval, g1]; first | (go_simp; done) | rfl
      · try dsimp only
        exact (slots_put (ns := 39) (hsa.size.trans rfl) (by decide))
    | 4, ho, hl, hr, hq =>
      obtain rfl := Option.some.inj ho
      try dsimp only at hd
      have d2 : a'.tmps.getD 26 undef = .pointer (some ⟨b, 0, none⟩) := hd 2 (by rfl)
      have hT : ((fun (x : Bool) (w : World) => (x = false → w = wq.drew) ∧ (x = true → w = wq.drew.setCell ⟨b, 5 + nd, none⟩ (.int .i64 ((max hv m : Nat) : Int))))) false w' := by have h := hS; rw [hq 13 (by kernel_rfl)] at h; exact h
      refine wpOp_of rfl rfl ?_
      refine op_run (v := .pointer (some ⟨b, 0, none⟩)) (w' := w') ?_ ⟨_, rfl, ?_, (by show ((fun (x : Bool) (w : World) => (x = false → w = wq.drew) ∧ (x = true → w = wq.drew.setCell ⟨b, 5 + nd, none⟩ (.int .i64 ((max hv m : Nat) : Int))))) _ _; rw [updL_other l (show 13 ≠ 4 by decide)]; rw [hq 13 (by kernel_rfl)]; exact hT)⟩
      · simp only [execOp, Act.eval, d2]; first | (go_simp; done) | rfl
      · try dsimp only
        exact (slots_put (ns := 39) (hsa.size.trans rfl) (by decide))
    | 5, ho, hl, hr, hq =>
      obtain rfl := Option.some.inj ho
      try dsimp only at hd
      have d4 : a'.tmps.getD 28 undef = .pointer (some ⟨b, 0, none⟩) := hd 4 (by rfl)
      have hT : ((fun (x : Bool) (w : World) => (x = false → w = wq.drew) ∧ (x = true → w = wq.drew.setCell ⟨b, 5 + nd, none⟩ (.int .i64 ((max hv m : Nat) : Int))))) false w' := by have h := hS; rw [hq 13 (by kernel_rfl)] at h; exact h
      refine wpOp_of rfl rfl ?_
      refine op_run (v := .pointer (some ⟨b, 5, none⟩)) (w' := w') ?_ ⟨_, rfl, ?_, (by show ((fun (x : Bool) (w : World) => (x = false → w = wq.drew) ∧ (x = true → w = wq.drew.setCell ⟨b, 5 + nd, none⟩ (.int .i64 ((max hv m : Nat) : Int))))) _ _; rw [updL_other l (show 13 ≠ 5 by decide)]; rw [hq 13 (by kernel_rfl)]; exact hT)⟩
      · simp only [execOp, Act.eval, d4]; first | (go_simp; done) | rfl
      · try dsimp only
        exact (slots_put (ns := 39) (hsa.size.trans rfl) (by decide))
    | 6, ho, hl, hr, hq =>
      obtain rfl := Option.some.inj ho
      try dsimp only at hd
      have d3 : a'.tmps.getD 27 undef = .int .i64 (nd : Int) := hd 3 (by rfl)
      have d5 : a'.tmps.getD 29 undef = .pointer (some ⟨b, 5, none⟩) := hd 5 (by rfl)
      have hT : ((fun (x : Bool) (w : World) => (x = false → w = wq.drew) ∧ (x = true → w = wq.drew.setCell ⟨b, 5 + nd, none⟩ (.int .i64 ((max hv m : Nat) : Int))))) false w' := by have h := hS; rw [hq 13 (by kernel_rfl)] at h; exact h
      refine wpOp_of rfl rfl ?_
      refine op_run (v := .pointer (some ⟨b, 5 + nd, none⟩)) (w' := w') ?_ ⟨_, rfl, ?_, (by show ((fun (x : Bool) (w : World) => (x = false → w = wq.drew) ∧ (x = true → w = wq.drew.setCell ⟨b, 5 + nd, none⟩ (.int .i64 ((max hv m : Nat) : Int))))) _ _; rw [updL_other l (show 13 ≠ 6 by decide)]; rw [hq 13 (by kernel_rfl)]; exact hT)⟩
      · simp only [execOp, Act.eval, d3, d5]; first | (go_simp; done) | rfl
      · try dsimp only
        exact (slots_put (ns := 39) (hsa.size.trans rfl) (by decide))
    | 7, ho, hl, hr, hq =>
      obtain rfl := Option.some.inj ho
      try dsimp only at hd
      have d6 : a'.tmps.getD 30 undef = .pointer (some ⟨b, 5 + nd, none⟩) := hd 6 (by rfl)
      have hT : ((fun (x : Bool) (w : World) => (x = false → w = wq.drew) ∧ (x = true → w = wq.drew.setCell ⟨b, 5 + nd, none⟩ (.int .i64 ((max hv m : Nat) : Int))))) false w' := by have h := hS; rw [hq 13 (by kernel_rfl)] at h; exact h
      refine wpOp_of rfl rfl ?_
      have y : w'.cell? ⟨b, 5 + nd, none⟩ = some (.int .i64 (hv : Int)) := by rw [hT.1 rfl]; exact c5
      refine op_run (v := .int .i64 (hv : Int)) (w' := w') ?_ ⟨_, rfl, ?_, (by show ((fun (x : Bool) (w : World) => (x = false → w = wq.drew) ∧ (x = true → w = wq.drew.setCell ⟨b, 5 + nd, none⟩ (.int .i64 ((max hv m : Nat) : Int))))) _ _; rw [updL_other l (show 13 ≠ 7 by decide)]; rw [hq 13 (by kernel_rfl)]; exact hT)⟩
      · simp only [execOp, Act.eval, d6, y]; first | (go_simp; done) | rfl
      · try dsimp only
        exact (slots_put (ns := 39) (hsa.size.trans rfl) (by decide))
    | 8, ho, hl, hr, hq =>
      obtain rfl := Option.some.inj ho
      try dsimp only at hd
      have g2 : a'.tmps.getD 2 undef = .int .i64 (m : Int) := hsa.rest 2 (by rfl)
      have hT : ((fun (x : Bool) (w : World) => (x = false → w = wq.drew) ∧ (x = true → w = wq.drew.setCell ⟨b, 5 + nd, none⟩ (.int .i64 ((max hv m : Nat) : Int))))) false w' := by have h := hS; rw [hq 13 (by kernel_rfl)] at h; exact h
      refine wpOp_of rfl rfl ?_
      refine op_run (v := .int .i64 (m : Int)) (w' := w') ?_ ⟨_, rfl, ?_, (by show ((fun (x : Bool) (w : World) => (x = false → w = wq.drew) ∧ (x = true → w = wq.drew.setCell ⟨b, 5 + nd, none⟩ (.int .i64 ((max hv m : Nat) : Int))))) _ _; rw [updL_other l (show 13 ≠ 8 by decide)]; rw [hq 13 (by kernel_rfl)]; exact hT)⟩
      · simp only [execOp, Act.eval, g2]; first | (go_simp; done) | rfl
      · try dsimp only
        exact (slots_put (ns := 39) (hsa.size.trans rfl) (by decide))
    | 9, ho, hl, hr, hq =>
      obtain rfl := Option.some.inj ho
      try dsimp only at hd
      have d7 : a'.tmps.getD 31 undef = .int .i64 (hv : Int) := hd 7 (by rfl)
      have d8 : a'.tmps.getD 32 undef = .int .i64 (m : Int) := hd 8 (by rfl)
      have hT : ((fun (x : Bool) (w : World) => (x = false → w = wq.drew) ∧ (x = true → w = wq.drew.setCell ⟨b, 5 + nd, none⟩ (.int .i64 ((max hv m : Nat) : Int))))) false w' := by have h := hS; rw [hq 13 (by kernel_rfl)] at h; exact h
      refine wpOp_of rfl rfl ?_
      refine op_run (v := .int .i64 ((max hv m : Nat) : Int)) (w' := w') ?_ ⟨_, rfl, (slots_put (ns := 39) (hsa.size.trans rfl) (by decide)), (by show ((fun (x : Bool) (w : World) => (x = false → w = wq.drew) ∧ (x = true → w = wq.drew.setCell ⟨b, 5 + nd, none⟩ (.int .i64 ((max hv m : Nat) : Int))))) _ _; rw [updL_other l (show 13 ≠ 9 by decide)]; rw [hq 13 (by kernel_rfl)]; exact hT)⟩
      rw [hmx]
      simp only [execOp, Act.eval, List.map_toArray, List.map_cons, List.map_nil, d7, d8]; first | (go_simp; done) | rfl
    | 10, ho, hl, hr, hq =>
      obtain rfl := Option.some.inj ho
      try dsimp only at hd
      have d0 : a'.tmps.getD 24 undef = .pointer (some ⟨b, 0, none⟩) := hd 0 (by rfl)
      have hT : ((fun (x : Bool) (w : World) => (x = false → w = wq.drew) ∧ (x = true → w = wq.drew.setCell ⟨b, 5 + nd, none⟩ (.int .i64 ((max hv m : Nat) : Int))))) false w' := by have h := hS; rw [hq 13 (by kernel_rfl)] at h; exact h
      refine wpOp_of rfl rfl ?_
      refine op_run (v := .pointer (some ⟨b, 0, none⟩)) (w' := w') ?_ ⟨_, rfl, ?_, (by show ((fun (x : Bool) (w : World) => (x = false → w = wq.drew) ∧ (x = true → w = wq.drew.setCell ⟨b, 5 + nd, none⟩ (.int .i64 ((max hv m : Nat) : Int))))) _ _; rw [updL_other l (show 13 ≠ 10 by decide)]; rw [hq 13 (by kernel_rfl)]; exact hT)⟩
      · simp only [execOp, Act.eval, d0]; first | (go_simp; done) | rfl
      · try dsimp only
        exact (slots_put (ns := 39) (hsa.size.trans rfl) (by decide))
    | 11, ho, hl, hr, hq =>
      obtain rfl := Option.some.inj ho
      try dsimp only at hd
      have d10 : a'.tmps.getD 34 undef = .pointer (some ⟨b, 0, none⟩) := hd 10 (by rfl)
      have hT : ((fun (x : Bool) (w : World) => (x = false → w = wq.drew) ∧ (x = true → w = wq.drew.setCell ⟨b, 5 + nd, none⟩ (.int .i64 ((max hv m : Nat) : Int))))) false w' := by have h := hS; rw [hq 13 (by kernel_rfl)] at h; exact h
      refine wpOp_of rfl rfl ?_
      refine op_run (v := .pointer (some ⟨b, 5, none⟩)) (w' := w') ?_ ⟨_, rfl, ?_, (by show ((fun (x : Bool) (w : World) => (x = false → w = wq.drew) ∧ (x = true → w = wq.drew.setCell ⟨b, 5 + nd, none⟩ (.int .i64 ((max hv m : Nat) : Int))))) _ _; rw [updL_other l (show 13 ≠ 11 by decide)]; rw [hq 13 (by kernel_rfl)]; exact hT)⟩
      · simp only [execOp, Act.eval, d10]; first | (go_simp; done) | rfl
      · try dsimp only
        exact (slots_put (ns := 39) (hsa.size.trans rfl) (by decide))
    | 12, ho, hl, hr, hq =>
      obtain rfl := Option.some.inj ho
      try dsimp only at hd
      have d1 : a'.tmps.getD 25 undef = .int .i64 (nd : Int) := hd 1 (by rfl)
      have d11 : a'.tmps.getD 35 undef = .pointer (some ⟨b, 5, none⟩) := hd 11 (by rfl)
      have hT : ((fun (x : Bool) (w : World) => (x = false → w = wq.drew) ∧ (x = true → w = wq.drew.setCell ⟨b, 5 + nd, none⟩ (.int .i64 ((max hv m : Nat) : Int))))) false w' := by have h := hS; rw [hq 13 (by kernel_rfl)] at h; exact h
      refine wpOp_of rfl rfl ?_
      refine op_run (v := .pointer (some ⟨b, 5 + nd, none⟩)) (w' := w') ?_ ⟨_, rfl, ?_, (by show ((fun (x : Bool) (w : World) => (x = false → w = wq.drew) ∧ (x = true → w = wq.drew.setCell ⟨b, 5 + nd, none⟩ (.int .i64 ((max hv m : Nat) : Int))))) _ _; rw [updL_other l (show 13 ≠ 12 by decide)]; rw [hq 13 (by kernel_rfl)]; exact hT)⟩
      · simp only [execOp, Act.eval, d1, d11]; first | (go_simp; done) | rfl
      · try dsimp only
        exact (slots_put (ns := 39) (hsa.size.trans rfl) (by decide))
    | 13, ho, hl, hr, hq =>
      obtain rfl := Option.some.inj ho
      try dsimp only at hd
      have d9 : a'.tmps.getD 33 undef = .int .i64 ((max hv m : Nat) : Int) := hd 9 (by rfl)
      have d12 : a'.tmps.getD 36 undef = .pointer (some ⟨b, 5 + nd, none⟩) := hd 12 (by rfl)
      have hT : ((fun (x : Bool) (w : World) => (x = false → w = wq.drew) ∧ (x = true → w = wq.drew.setCell ⟨b, 5 + nd, none⟩ (.int .i64 ((max hv m : Nat) : Int))))) false w' := by have h := hS; rw [hl] at h; exact h
      refine wpOp_of rfl rfl ?_
      obtain rfl := hT.1 rfl
      have z : wq.drew.cell? ⟨b, 5 + nd, none⟩ = some (.int .i64 (hv : Int)) := c5
      have zf : wq.drew.frozen? ⟨b, 5 + nd, none⟩ = false := f5
      refine op_skip (w' := wq.drew.setCell ⟨b, 5 + nd, none⟩ (.int .i64 ((max hv m : Nat) : Int))) ?_ ⟨undef, rfl, trivial, (by show ((fun (x : Bool) (w : World) => (x = false → w = wq.drew) ∧ (x = true → w = wq.drew.setCell ⟨b, 5 + nd, none⟩ (.int .i64 ((max hv m : Nat) : Int))))) _ _; rw [updL_same]; exact ⟨(fun e => by cases e), fun _ => rfl⟩)⟩
      simp only [execOp, Act.eval, d9, d12]; first | (go_simp; done) | rfl
    | (n + 14), ho, _, _, _ => exact absurd ho (by simp)
  case pdone =>
    intro a' w' l hl hsa hS hd
    have hT : ((fun (x : Bool) (w : World) => (x = false → w = wq.drew) ∧ (x = true → w = wq.drew.setCell ⟨b, 5 + nd, none⟩ (.int .i64 ((max hv m : Nat) : Int))))) true w' := by have h := hS; rw [hl 13 (by decide)] at h; exact h
    have d0 : a'.tmps.getD 24 undef = .pointer (some ⟨b, 0, none⟩) := hd 0 (by decide)
    have d1 : a'.tmps.getD 25 undef = .int .i64 (nd : Int) := hd 1 (by decide)
    have d2 : a'.tmps.getD 26 undef = .pointer (some ⟨b, 0, none⟩) := hd 2 (by decide)
    have d3 : a'.tmps.getD 27 undef = .int .i64 (nd : Int) := hd 3 (by decide)
    have d4 : a'.tmps.getD 28 undef = .pointer (some ⟨b, 0, none⟩) := hd 4 (by decide)
    have d5 : a'.tmps.getD 29 undef = .pointer (some ⟨b, 5, none⟩) := hd 5 (by decide)
    have d6 : a'.tmps.getD 30 undef = .pointer (some ⟨b, 5 + nd, none⟩) := hd 6 (by decide)
    have d7 : a'.tmps.getD 31 undef = .int .i64 (hv : Int) := hd 7 (by decide)
    have d8 : a'.tmps.getD 32 undef = .int .i64 (m : Int) := hd 8 (by decide)
    have d9 : a'.tmps.getD 33 undef = .int .i64 ((max hv m : Nat) : Int) := hd 9 (by decide)
    have d10 : a'.tmps.getD 34 undef = .pointer (some ⟨b, 0, none⟩) := hd 10 (by decide)
    have d11 : a'.tmps.getD 35 undef = .pointer (some ⟨b, 5, none⟩) := hd 11 (by decide)
    have d12 : a'.tmps.getD 36 undef = .pointer (some ⟨b, 5 + nd, none⟩) := hd 12 (by decide)
    rw [hT.2 rfl]
    exact HQ.out a' ⟨hsa.size.trans rfl, hsa.defers.trans rfl, hsa.rest 0 (by rfl), hsa.rest 1 (by rfl), hsa.rest 2 (by rfl), hsa.rest 6 (by rfl)⟩
set_option maxHeartbeats 8000000 in
set_option maxRecDepth 100000 in
theorem ha_r0 {K : Act → World → Prop} {c : Code} (hc : regOf (Try.f17.body.getD .skip) 0 = some c) (a : Act) {v : Vha} {wq : World}  (hF : Fha a v) (hQ : ∀ a', Fha a' { v with v6 := .bool false } → K a' wq) :
    Code.wp Try.prog c (Exit.then K fun _ _ _ => False) a wq := by
  have HQ := hide hQ
  clear hQ
  obtain ⟨t', d'⟩ := a
  obtain ⟨v0, v1, v2, v6⟩ := v
  obtain ⟨hs1, hd1, q0, q1, q2, q6⟩ := hF
  obtain ⟨u, hu⟩ := frame_ha t' hs1
  simp only at hd1 q0 q1 q2 q6
  subst hu hd1
  have e0 : u 0 = v0 := q0
  have e1 : u 1 = v1 := q1
  have e2 : u 2 = v2 := q2
  have e6 : u 6 = v6 := q6
  rw [e0, e1, e2, e6]
  clear q0 e0 q1 e1 q2 e2 q6 e6 hs1
  simp only [Try.f17, Option.getD_some, regOf] at hc
  injection hc with hc
  subst hc
  go_wp2
  exact HQ.out _ ⟨rfl, rfl, rfl, rfl, rfl, rfl⟩
set_option maxHeartbeats 8000000 in
set_option maxRecDepth 100000 in
theorem ha_r1n {K : Act → World → Prop} {c : Code} (hc : regOf (Try.f17.body.getD .skip) 1 = some c) (a : Act) {v : Vha} {wq : World} {b : Nat} {nd m : Int} {R : World → Prop} (hF : Fha a v) (h0v : v.v0 = .pointer (some ⟨b, 0, none⟩)) (h1v : v.v1 = .int .i64 nd) (h2v : v.v2 = .int .i64 m) (hE : Calls Try.prog 37 #[.pointer (some ⟨b, 0, none⟩), .int .i64 nd] wq fun e w' => e = .returned (.bool false) ∧ R w')
    (hQ : ∀ a' w1, Fha a' v → R w1 → a'.tmps.getD 23 undef = .bool true → K a' w1) :
    Code.wp Try.prog c (Exit.then K fun _ _ _ => False) a wq := by
  have HQ := hide hQ
  clear hQ
  obtain ⟨t', d'⟩ := a
  obtain ⟨v0, v1, v2, v6⟩ := v
  simp only at h0v h1v h2v HQ
  subst h0v h1v h2v
  obtain ⟨hs1, hd1, q0, q1, q2, q6⟩ := hF
  obtain ⟨u, hu⟩ := frame_ha t' hs1
  simp only at hd1 q0 q1 q2 q6
  subst hu hd1
  have e0 : u 0 = .pointer (some ⟨b, 0, none⟩) := q0
  have e1 : u 1 = .int .i64 nd := q1
  have e2 : u 2 = .int .i64 m := q2
  have e6 : u 6 = v6 := q6
  rw [e0, e1, e2, e6]
  clear q0 e0 q1 e1 q2 e2 q6 e6 hs1
  simp only [Try.f17, Option.getD_some, regOf] at hc
  injection hc with hc
  subst hc
  have HE := hide hE
  clear hE
  go_wp2_with (go_at_call 37; refine HE.out.mono ?_; rintro e w1 ⟨rfl, r1⟩; have R1 := hide r1; clear r1)
  exact HQ.out _ _ ⟨rfl, rfl, rfl, rfl, rfl, rfl⟩ R1.out (by first | rfl | (simp; done))
set_option maxHeartbeats 8000000 in
set_option maxRecDepth 100000 in
theorem ha_r1l {K : Act → World → Prop} {c : Code} (hc : regOf (Try.f17.body.getD .skip) 1 = some c) (a : Act) {v : Vha} {wq : World} {b : Nat} {nd m : Int} {R : World → Prop} (hF : Fha a v) (h0v : v.v0 = .pointer (some ⟨b, 0, none⟩)) (h1v : v.v1 = .int .i64 nd) (h2v : v.v2 = .int .i64 m) (hE : Calls Try.prog 37 #[.pointer (some ⟨b, 0, none⟩), .int .i64 nd] wq fun e w' => e = .returned (.bool true) ∧ R w') (hm : m < 0)
    (hQ : ∀ a' w1, Fha a' v → R w1 → a'.tmps.getD 23 undef = .bool true → K a' w1) :
    Code.wp Try.prog c (Exit.then K fun _ _ _ => False) a wq := by
  have HQ := hide hQ
  clear hQ
  obtain ⟨t', d'⟩ := a
  obtain ⟨v0, v1, v2, v6⟩ := v
  simp only at h0v h1v h2v HQ
  subst h0v h1v h2v
  obtain ⟨hs1, hd1, q0, q1, q2, q6⟩ := hF
  obtain ⟨u, hu⟩ := frame_ha t' hs1
  simp only at hd1 q0 q1 q2 q6
  subst hu hd1
  have e0 : u 0 = .pointer (some ⟨b, 0, none⟩) := q0
  have e1 : u 1 = .int .i64 nd := q1
  have e2 : u 2 = .int .i64 m := q2
  have e6 : u 6 = v6 := q6
  rw [e0, e1, e2, e6]
  clear q0 e0 q1 e1 q2 e2 q6 e6 hs1
  simp only [Try.f17, Option.getD_some, regOf] at hc
  injection hc with hc
  subst hc
  have HE := hide hE
  clear hE
  have hd : decide (m < 0) = true := decide_eq_true hm
  go_wp2_with (go_at_call 37; refine HE.out.mono ?_; rintro e w1 ⟨rfl, r1⟩; have R1 := hide r1; clear r1)
  exact HQ.out _ _ ⟨rfl, rfl, rfl, rfl, rfl, rfl⟩ R1.out (by first | rfl | (simp; done))
set_option maxHeartbeats 8000000 in
set_option maxRecDepth 100000 in
theorem ha_r1g {K : Act → World → Prop} {c : Code} (hc : regOf (Try.f17.body.getD .skip) 1 = some c) (a : Act) {v : Vha} {wq : World} {b ln cp : Nat} {ao : Option Addr} {nd m : Int} {R : World → Prop} (hF : Fha a v) (h0v : v.v0 = .pointer (some ⟨b, 0, none⟩)) (h1v : v.v1 = .int .i64 nd) (h2v : v.v2 = .int .i64 m) (hE : Calls Try.prog 37 #[.pointer (some ⟨b, 0, none⟩), .int .i64 nd] wq fun e w' => e = .returned (.bool true) ∧ R w') (hlen : ∀ W, R W → W.cell? ⟨b, 2, none⟩ = some (.slice ao ln cp)) (hm : (ln : Int) < m)
    (hQ : ∀ a' w1, Fha a' v → R w1 → a'.tmps.getD 23 undef = .bool true → K a' w1) :
    Code.wp Try.prog c (Exit.then K fun _ _ _ => False) a wq := by
  have HQ := hide hQ
  clear hQ
  obtain ⟨t', d'⟩ := a
  obtain ⟨v0, v1, v2, v6⟩ := v
  simp only at h0v h1v h2v HQ
  subst h0v h1v h2v
  obtain ⟨hs1, hd1, q0, q1, q2, q6⟩ := hF
  obtain ⟨u, hu⟩ := frame_ha t' hs1
  simp only at hd1 q0 q1 q2 q6
  subst hu hd1
  have e0 : u 0 = .pointer (some ⟨b, 0, none⟩) := q0
  have e1 : u 1 = .int .i64 nd := q1
  have e2 : u 2 = .int .i64 m := q2
  have e6 : u 6 = v6 := q6
  rw [e0, e1, e2, e6]
  clear q0 e0 q1 e1 q2 e2 q6 e6 hs1
  simp only [Try.f17, Option.getD_some, regOf] at hc
  injection hc with hc
  subst hc
  have HE := hide hE
  have HC := hide hlen
  clear hE hlen
  have hd : decide (m < 0) = false := decide_eq_false (by omega)
  have he : decide ((ln : Int) < m) = true := decide_eq_true hm
  go_wp2_with (go_at_call 37; refine HE.out.mono ?_; rintro e w1 ⟨rfl, r1⟩; have c2 := HC.out _ r1; have R1 := hide r1; clear r1)
  exact HQ.out _ _ ⟨rfl, rfl, rfl, rfl, rfl, rfl⟩ R1.out (by first | rfl | (simp; done))
set_option maxHeartbeats 8000000 in
set_option maxRecDepth 100000 in
theorem ha_r1y {K : Act → World → Prop} {c : Code} (hc : regOf (Try.f17.body.getD .skip) 1 = some c) (a : Act) {v : Vha} {wq : World} {b ln cp : Nat} {ao : Option Addr} {nd m : Int} {R : World → Prop} (hF : Fha a v) (h0v : v.v0 = .pointer (some ⟨b, 0, none⟩)) (h1v : v.v1 = .int .i64 nd) (h2v : v.v2 = .int .i64 m) (hE : Calls Try.prog 37 #[.pointer (some ⟨b, 0, none⟩), .int .i64 nd] wq fun e w' => e = .returned (.bool true) ∧ R w') (hlen : ∀ W, R W → W.cell? ⟨b, 2, none⟩ = some (.slice ao ln cp)) (hm : 0 ≤ m) (hm2 : m ≤ (ln : Int))
    (hQ : ∀ a' w1, Fha a' v → R w1 → a'.tmps.getD 23 undef = .bool false → K a' w1) :
    Code.wp Try.prog c (Exit.then K fun _ _ _ => False) a wq := by
  have HQ := hide hQ
  clear hQ
  obtain ⟨t', d'⟩ := a
  obtain ⟨v0, v1, v2, v6⟩ := v
  simp only at h0v h1v h2v HQ
  subst h0v h1v h2v
  obtain ⟨hs1, hd1, q0, q1, q2, q6⟩ := hF
  obtain ⟨u, hu⟩ := frame_ha t' hs1
  simp only at hd1 q0 q1 q2 q6
  subst hu hd1
  have e0 : u 0 = .pointer (some ⟨b, 0, none⟩) := q0
  have e1 : u 1 = .int .i64 nd := q1
  have e2 : u 2 = .int .i64 m := q2
  have e6 : u 6 = v6 := q6
  rw [e0, e1, e2, e6]
  clear q0 e0 q1 e1 q2 e2 q6 e6 hs1
  simp only [Try.f17, Option.getD_some, regOf] at hc
  injection hc with hc
  subst hc
  have HE := hide hE
  have HC := hide hlen
  clear hE hlen
  have hd : decide (m < 0) = false := decide_eq_false (by omega)
  have he : decide ((ln : Int) < m) = false := decide_eq_false (by omega)
  go_wp2_with (go_at_call 37; refine HE.out.mono ?_; rintro e w1 ⟨rfl, r1⟩; have c2 := HC.out _ r1; have R1 := hide r1; clear r1)
  exact HQ.out _ _ ⟨rfl, rfl, rfl, rfl, rfl, rfl⟩ R1.out (by first | rfl | (simp; done))
set_option maxHeartbeats 8000000 in
set_option maxRecDepth 100000 in
theorem ha_r3 {K : Act → World → Prop} {c : Code} (hc : regOf (Try.f17.body.getD .skip) 3 = some c) (a : Act) {v : Vha} {wq : World} {b : Nat} {R : World → Prop} (hF : Fha a v) (h0v : v.v0 = .pointer (some ⟨b, 0, none⟩)) (hE : Calls Try.prog 35 #[.pointer (some ⟨b, 0, none⟩)] wq fun e w' => e = .returned (.tuple #[]) ∧ R w')
    (hQ : ∀ a' w1, Fha a' v → R w1 → K a' w1) :
    Code.wp Try.prog c (Exit.then K fun _ _ _ => False) a wq := by
  have HQ := hide hQ
  clear hQ
  obtain ⟨t', d'⟩ := a
  obtain ⟨v0, v1, v2, v6⟩ := v
  simp only at h0v HQ
  subst h0v
  obtain ⟨hs1, hd1, q0, q1, q2, q6⟩ := hF
  obtain ⟨u, hu⟩ := frame_ha t' hs1
  simp only at hd1 q0 q1 q2 q6
  subst hu hd1
  have e0 : u 0 = .pointer (some ⟨b, 0, none⟩) := q0
  have e1 : u 1 = v1 := q1
  have e2 : u 2 = v2 := q2
  have e6 : u 6 = v6 := q6
  rw [e0, e1, e2, e6]
  clear q0 e0 q1 e1 q2 e2 q6 e6 hs1
  simp only [Try.f17, Option.getD_some, regOf] at hc
  injection hc with hc
  subst hc
  have HE := hide hE
  clear hE
  go_wp2_with (go_at_call 35; refine HE.out.mono ?_; rintro e w1 ⟨rfl, r1⟩; have R1 := hide r1; clear r1)
  exact HQ.out _ _ ⟨rfl, rfl, rfl, rfl, rfl, rfl⟩ R1.out
set_option maxHeartbeats 8000000 in
set_option maxRecDepth 100000 in
theorem ha_r4 {K : Act → World → Prop} {c : Code} (hc : regOf (Try.f17.body.getD .skip) 4 = some c) (a : Act) {v : Vha} {wq : World}  (hF : Fha a v) (hQ : ∀ a', Fha a' { v with v6 := .bool true } → K a' wq) :
    Code.wp Try.prog c (Exit.then K fun _ _ _ => False) a wq := by
  have HQ := hide hQ
  clear hQ
  obtain ⟨t', d'⟩ := a
  obtain ⟨v0, v1, v2, v6⟩ := v
  obtain ⟨hs1, hd1, q0, q1, q2, q6⟩ := hF
  obtain ⟨u, hu⟩ := frame_ha t' hs1
  simp only at hd1 q0 q1 q2 q6
  subst hu hd1
  have e0 : u 0 = v0 := q0
  have e1 : u 1 = v1 := q1
  have e2 : u 2 = v2 := q2
  have e6 : u 6 = v6 := q6
  rw [e0, e1, e2, e6]
  clear q0 e0 q1 e1 q2 e2 q6 e6 hs1
  simp only [Try.f17, Option.getD_some, regOf] at hc
  injection hc with hc
  subst hc
  go_wp2
  exact HQ.out _ ⟨rfl, rfl, rfl, rfl, rfl, rfl⟩
theorem box_had (L : OL) (o : OS) (h7 : o.had.length = 7) (i : Nat) (hi : i < 7) (x : Nat) : (oBox L o).setIfInBounds (5 + i) (.int .i64 (x : Int)) = oBox L { o with had := o.had.set i x } := by
  have h := had_set o h7 L L ByteArray.empty i hi x rfl rfl rfl (.slice L.lo o.log.length L.lc) (.int .i64 o.bytes) { o with had := o.had.set i x } rfl rfl rfl rfl rfl rfl
  exact h
set_option maxHeartbeats 4000000 in
theorem phas {w : World} {L : OL} {o : OS} (h : OAt w L o) (hk : o.Ok) (node n : Int) (hl : o.log.length ≤ 17592186044416) :
    Calls Try.prog 17 #[L.at, .int .i64 node, .int .i64 n] w fun e w' => e = .returned (.bool (o.has node n).2) ∧ OAt w' L (o.has node n).1 ∧ OStep w w' L L := by
  have HA := pasks h hk node
  have HS : ∀ w1, Below w.heap.size w w1 → OAt w1 L o ∧ OStep w w1 L L := fun w1 b1 => ⟨h.below b1, OStep.below b1⟩
  have HC : ∀ w1, Below w.heap.size w w1 → w1.cell? ⟨L.b, 2, none⟩ = some (.slice L.lo o.log.length L.lc) := fun w1 b1 => (h.below b1).cells.c2
  unfold OL.at at *
  go_enter Try.func17, Try.ntmps17
  by_cases hc : o.asks node = true ∧ 0 ≤ n ∧ n ≤ (o.log.length : Int)
  · have e1 : o.has node n = ((o.hasN node.toNat n.toNat).make, true) := by unfold OS.has; rw [if_pos hc]
    rw [e1]
    obtain ⟨ha, hn0, hn1⟩ := hc
    obtain ⟨_, _, hmem, hcast, hlt⟩ := hk.asks ha
    obtain ⟨nd, rfl⟩ : ∃ nd : Nat, node = (nd : Int) := ⟨node.toNat, hcast.symm⟩
    obtain ⟨m, rfl⟩ : ∃ m : Nat, n = (m : Int) := ⟨n.toNat, by omega⟩
    simp only [Int.toNat_natCast] at hlt hmem ⊢
    rw [ha] at HA
    refine wp_seq (reg_mono (ha_r0 (by kernel_rfl) _ (v := ⟨_, _, _, _⟩) ⟨rfl, rfl, rfl, rfl, rfl, rfl⟩ ?_))
    intro a0 F0
    try dsimp only at F0
    refine wp_scope_none 0 rfl ?_
    refine wp_seq (wp_seq (reg_mono (ha_r1y (by kernel_rfl) _ F0 rfl rfl rfl HA HC hn0 hn1 ?_)))
    intro a1 w1 F1 b1 g1
    refine wp_cond_false g1 (wp_skip ?_)
    show Code.wp _ _ _ _ _
    have h1 := h.below b1
    refine wp_seq (reg_mono (ha_r2 (by kernel_rfl) _ F1 rfl rfl rfl (h1.hadc nd hlt) (box_free h1.box _) hlt (by omega) (by have := hk.get nd; omega) ?_))
    intro a2 F2
    have h1' : OAt w1.drew L o := h1.below ((Below.refl _ _).drew)
    have h2 := h1'.boxed (5 + nd) (.int .i64 ((max (o.had.getD nd 0) m : Nat) : Int)) (box_had L o hk.seven nd hlt _) rfl rfl
    have hk2 : (o.hasN nd m).Ok := hk.hasN (by omega)
    refine wp_seq (reg_mono (ha_r3 (by kernel_rfl) _ F2 rfl (pmake h2.1 hk2) ?_))
    rintro a3 w3 F3 ⟨h3, s3⟩
    refine wp_seq (wp_seq (reg_mono (ha_r4 (by kernel_rfl) _ F3 ?_)))
    intro a4 F4
    refine wp_ret ?_
    dsimp only [Exit.then, Exit.jump]
    have g0 := slot_get F4.s6
    refine bodyPost_ret (v := .bool true) ?_ F4.defers ⟨rfl, h3, ((OStep.below (L := L) b1).trans (OStep.below ((Below.refl _ _).drew))).trans (h2.2.trans s3)⟩
    simp [results, Try.results17, go_sem, g0]
  · have e1 : o.has node n = (o, false) := by unfold OS.has; rw [if_neg hc]
    rw [e1]
    refine wp_seq (reg_mono (ha_r0 (by kernel_rfl) _ (v := ⟨_, _, _, _⟩) ⟨rfl, rfl, rfl, rfl, rfl, rfl⟩ ?_))
    intro a0 F0
    try dsimp only at F0
    refine wp_scope_goto 0 (fun a' w' => a'.tmps.size = 39 ∧ a'.defers = [] ∧ Below w.heap.size w w') rfl ?_ (fun a' w' hJ => hs_refused (by kernel_rfl) a' w' hJ.1 hJ.2.1 ⟨rfl, HS w' hJ.2.2⟩)
    cases ha : o.asks node with
    | false =>
      rw [ha] at HA
      refine wp_seq (wp_seq (reg_mono (ha_r1n (by kernel_rfl) _ F0 rfl rfl rfl HA ?_)))
      intro a1 w1 F1 b1 g1
      exact wp_cond_true g1 (wp_goto ⟨rfl, F1.size, F1.defers, b1⟩)
    | true =>
      rw [ha] at HA
      by_cases hn0 : n < 0
      · refine wp_seq (wp_seq (reg_mono (ha_r1l (by kernel_rfl) _ F0 rfl rfl rfl HA hn0 ?_)))
        intro a1 w1 F1 b1 g1
        exact wp_cond_true g1 (wp_goto ⟨rfl, F1.size, F1.defers, b1⟩)
      · have hn1 : (o.log.length : Int) < n := by
          rcases Int.lt_or_le (o.log.length : Int) n with h9 | h9
          · exact h9
          · exact absurd ⟨ha, by omega, h9⟩ hc
        refine wp_seq (wp_seq (reg_mono (ha_r1g (by kernel_rfl) _ F0 rfl rfl rfl HA HC hn1 ?_)))
        intro a1 w1 F1 b1 g1
        exact wp_cond_true g1 (wp_goto ⟨rfl, F1.size, F1.defers, b1⟩)
end Go.Proofs.Ytjgbgbgajadgnaa
