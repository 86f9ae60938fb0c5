/-
  keep, as it runs (mkoe.py).
-/
import Derived.Test.YtjgbgbgajadgnaaZOD
namespace Go.Proofs.Ytjgbgbgajadgnaa
open Go.RowKit

attribute [local go_sem ↓] Go.wp_at_zero Go.wp_at_succ
set_option linter.unusedSimpArgs false
set_option linter.unusedVariables false
set_option maxRecDepth 100000 in
theorem frame_kp (t : Array Value) (h : t.size = 38) : ∃ u : Nat → Value, t = List.toArray (u 0 :: u 1 :: u 2 :: u 3 :: u 4 :: u 5 :: u 6 :: u 7 :: u 8 :: u 9 :: u 10 :: u 11 :: u 12 :: u 13 :: u 14 :: u 15 :: u 16 :: u 17 :: u 18 :: u 19 :: u 20 :: u 21 :: u 22 :: u 23 :: u 24 :: u 25 :: u 26 :: u 27 :: u 28 :: u 29 :: u 30 :: u 31 :: u 32 :: u 33 :: u 34 :: u 35 :: u 36 :: u 37 :: []) := by
  refine ⟨fun i => t.getD i undef, ?_⟩
  have e : (List.toArray ((fun i => t.getD i undef) 0 :: (fun i => t.getD i undef) 1 :: (fun i => t.getD i undef) 2 :: (fun i => t.getD i undef) 3 :: (fun i => t.getD i undef) 4 :: (fun i => t.getD i undef) 5 :: (fun i => t.getD i undef) 6 :: (fun i => t.getD i undef) 7 :: (fun i => t.getD i undef) 8 :: (fun i => t.getD i undef) 9 :: (fun i => t.getD i undef) 10 :: (fun i => t.getD i undef) 11 :: (fun i => t.getD i undef) 12 :: (fun i => t.getD i undef) 13 :: (fun i => t.getD i undef) 14 :: (fun i => t.getD i undef) 15 :: (fun i => t.getD i undef) 16 :: (fun i => t.getD i undef) 17 :: (fun i => t.getD i undef) 18 :: (fun i => t.getD i undef) 19 :: (fun i => t.getD i undef) 20 :: (fun i => t.getD i undef) 21 :: (fun i => t.getD i undef) 22 :: (fun i => t.getD i undef) 23 :: (fun i => t.getD i undef) 24 :: (fun i => t.getD i undef) 25 :: (fun i => t.getD i undef) 26 :: (fun i => t.getD i undef) 27 :: (fun i => t.getD i undef) 28 :: (fun i => t.getD i undef) 29 :: (fun i => t.getD i undef) 30 :: (fun i => t.getD i undef) 31 :: (fun i => t.getD i undef) 32 :: (fun i => t.getD i undef) 33 :: (fun i => t.getD i undef) 34 :: (fun i => t.getD i undef) 35 :: (fun i => t.getD i undef) 36 :: (fun i => t.getD i undef) 37 :: []) : Array Value) = ((List.range 38).map fun i => t.getD i undef).toArray := rfl
  refine Eq.trans ?_ e.symm
  apply Array.ext
  · simp [h]
  · intro k h1 h2
    simp [Array.getD, h1]
/-- The slots that matter. -/
structure Vkp where
  v0 : Value
  v1 : Value
structure Fkp (a : Act) (v : Vkp) : Prop where
  size : a.tmps.size = 38
  defers : a.defers = []
  s0 : a.tmps.getD 0 undef = v.v0
  s1 : a.tmps.getD 1 undef = v.v1
/-- What is there, stage by stage: ahead of the row of one; behind it; behind append; behind the store. -/
def kpT (wq : World) (L : OL) (o : OS) (s : ByteArray) : Bool → Bool → Bool → Value → Value → World → Prop
  | false, _, _, _, _, w => Below wq.heap.size wq w
  | true, false, _, v, _, w => ∃ g, v = .slice (some ⟨g, 0, none⟩) 1 1 ∧ w.heap[g]? = some (.cells #[.string s] 9 (0, 0)) ∧ Below wq.heap.size wq w
  | true, true, false, _, v, w => ∃ ao cp, v = .slice ao (o.log.length + 1) cp ∧ w.ownsRow 0 9 1 (.slice ao (o.log.length + 1) cp) (o.log.length + 1) (textC (o.log ++ [s])) ∧ Touch (fun j => L.lo.map Addr.block = some j) wq w ∧ (∀ j, ao.map Addr.block = some j → L.lo.map Addr.block = some j ∨ wq.heap.size ≤ j) ∧ w.heap[L.b]? = some (.cells (oBox L o) 66 (0, 0))
  | true, true, true, _, v, w => ∃ ao cp, w.heap[L.b]? = some (.cells ((oBox L o).setIfInBounds 2 (.slice ao (o.log.length + 1) cp)) 66 (0, 0)) ∧ w.ownsRow 0 9 1 (.slice ao (o.log.length + 1) cp) (o.log.length + 1) (textC (o.log ++ [s])) ∧ Touch L.own wq w ∧ (∀ j, ao.map Addr.block = some j → L.lo.map Addr.block = some j ∨ wq.heap.size ≤ j)
theorem kp1 {wq w w' : World} {L : OL} {o : OS} {s : ByteArray} {u v u' v' : Value} {b c : Bool} (h : kpT wq L o s false b c u v w) (hb : Below w.heap.size w w') : kpT wq L o s false b c u' v' w' := h.trans (hb.mono h.size)
theorem kp2 {wq w : World} {L : OL} {o : OS} {s : ByteArray} {u v v' : Value} {b c : Bool} (h : kpT wq L o s false b c u v w) : kpT wq L o s true false c (.slice (some ⟨w.heap.size, 0, none⟩) 1 1) v' (w.alloc (.cells #[.string s] 9)) :=
  ⟨_, rfl, heap_alloc_new w _, h.alloc h.size _⟩
theorem kp3 {wq w : World} {L : OL} {o : OS} {s : ByteArray} {u v : Value} {c : Bool} (hO : OAt wq L o) (hlen : o.log.length < 8796093022208) (h : kpT wq L o s true false c u v w) :
    ∃ ao cp w', (Builtin.append_ #[23, 23] 23 #[.slice L.lo o.log.length L.lc, u]).run Try.prog w = .ok (.slice ao (o.log.length + 1) cp) w' ∧ kpT wq L o s true true false u (.slice ao (o.log.length + 1) cp) w' := by
  obtain ⟨g, rfl, hg, hb⟩ := h
  obtain ⟨i0, hi0, hz0, hz1, hz2⟩ := zinfo_parts infoStr
  have hO2 := hO.below hb
  obtain ⟨v', w', hr, h2, h3, h4, h5⟩ := run_append_own_at (P := Try.prog) w 0 23 23 9 i0 (.string ⟨#[]⟩) 1 16 Try.underlying23 hi0 hz0 hz1 hz2 rfl (by decide) (.slice L.lo o.log.length L.lc) o.log.length (textC o.log) hO2.log ⟨g, 0, none⟩ 1 1 [.string s] rfl (World.news_of_block (cs := #[.string s]) (t := 9) (fr := (0, 0)) hg) (by intro u hu; simp at hu; subst hu; rfl) (by unfold maxLen; omega) (by omega) (Nat.zero_le _)
  obtain ⟨ao, cp, rfl⟩ := row_slice h2
  refine ⟨ao, cp, w', hr, ao, cp, rfl, ?_, ?_, ?_, ?_⟩
  · rw [textC_append]; exact h2
  · exact (Touch.of_below hb).grown h3 fun k e _ => by rw [ownBlock_slice] at e; exact e
  · intro j hj
    rw [ownBlock_slice, ownBlock_slice] at h5
    rcases h5 with e | e
    · exact .inl (e ▸ hj)
    · right
      rw [hj] at e
      injection e with e
      have := hb.size
      omega
  · exact grown_at h3 hO2.box (by rw [ownBlock_slice]; exact hO.log_ne)
theorem kp4 {wq w : World} {L : OL} {o : OS} {s : ByteArray} {u v u' v' : Value} (h : kpT wq L o s true true false u v w) :
    ∃ ao cp, v = .slice ao (o.log.length + 1) cp ∧ w.cell? ⟨L.b, 2, none⟩ = some (.slice L.lo o.log.length L.lc) ∧ w.frozen? ⟨L.b, 2, none⟩ = false ∧ kpT wq L o s true true true u' v' (w.setCell ⟨L.b, 2, none⟩ (.slice ao (o.log.length + 1) cp)) := by
  obtain ⟨ao, cp, rfl, h1, h2, h3, h4⟩ := h
  refine ⟨ao, cp, rfl, box_cell h4 2 rfl, box_free h4 2, ao, cp, box_set h4 2 _, ?_, ?_, h3⟩
  · refine set_row h1 _ _ _ ?_
    intro e
    have := row_type h1 e h4
    revert this
    decide +kernel
  · exact (h2.mono fun k _ e => .inr e).setCell _ _ fun _ => .inl rfl
theorem kp5 {wq w : World} {L : OL} {o : OS} {s : ByteArray} {u v : Value} {b c : Bool} (hO : OAt wq L o) (h : kpT wq L o s b false c u v w) : w.cell? ⟨L.b, 2, none⟩ = some (.slice L.lo o.log.length L.lc) := by
  cases b with
  | false => exact (hO.below h).cells.c2
  | true => obtain ⟨g, _, _, hb⟩ := h; exact (hO.below hb).cells.c2
set_option maxHeartbeats 8000000 in
set_option maxRecDepth 100000 in
theorem kp_r0 {K : Act → World → Prop} {c : Code} (hc : regOf (Try.f33.body.getD .skip) 0 = some c) (a : Act) {v : Vkp} {wq : World} {L : OL} {o : OS} {s : ByteArray} (hF : Fkp a v) (h0v : v.v0 = .pointer (some ⟨L.b, 0, none⟩)) (h1v : v.v1 = .string s) (hO0 : OAt wq L o) (hlen : o.log.length < 8796093022208) (hs : s.size ≤ 281474976710656)
    (hQ : ∀ a' w1 ao cp, Fkp a' v → w1.heap[L.b]? = some (.cells ((oBox L o).setIfInBounds 2 (.slice ao (o.log.length + 1) cp)) 66 (0, 0)) → w1.ownsRow 0 9 1 (.slice ao (o.log.length + 1) cp) (o.log.length + 1) (textC (o.log ++ [s])) → Touch L.own wq w1 → (∀ j, ao.map Addr.block = some j → L.lo.map Addr.block = some j ∨ wq.heap.size ≤ j) → K a' w1) :
    Code.wp Try.prog c (Exit.then K fun _ _ _ => False) a wq := by
  have HQ := hide hQ
  clear hQ
  obtain ⟨t', d'⟩ := a
  obtain ⟨v0, v1⟩ := v
  simp only at h0v h1v HQ
  subst h0v h1v
  obtain ⟨hs1, hd1, q0, q1⟩ := hF
  obtain ⟨u, hu⟩ := frame_kp t' hs1
  simp only at hd1 q0 q1
  subst hu hd1
  have e0 : u 0 = .pointer (some ⟨L.b, 0, none⟩) := q0
  have e1 : u 1 = .string s := q1
  rw [e0, e1]
  clear q0 e0 q1 e1 hs1
  simp only [Try.f33, Option.getD_some, regOf] at hc
  injection hc with hc
  subst hc
  have hO := hide hO0
  clear hO0
  refine wp_region_any rfl ?_
  refine wpAny_staged (ns := 38) (uses := (fun i => match i with | 0 => [4] | 1 => [5] | 2 => [6] | 3 => [7] | 4 => [8] | 5 => [9] | 6 => [10] | 9 => [13] | 10 => [14] | _ => [])) (by kernel_rfl) (by kernel_rfl) (fun l a w => (kpT wq L o s) (l 7) (l 8) (l 11) (slots a 11) (slots a 12) w) (Below.refl _ _).drew (fun i => match i with | 0 => fun σ => σ 4 = .pointer (some ⟨L.b, 0, none⟩) | 1 => fun σ => σ 5 = .pointer (some ⟨L.b, 0, none⟩) | 2 => fun σ => σ 6 = .pointer (some ⟨L.b, 0, none⟩) | 3 => fun σ => σ 7 = .pointer (some ⟨L.b, 2, none⟩) | 4 => fun σ => σ 8 = .slice L.lo o.log.length L.lc | 5 => fun σ => σ 9 = .string s | 6 => fun σ => σ 10 = .string s | 7 => fun _ => True | 8 => fun _ => True | 9 => fun σ => σ 13 = .pointer (some ⟨L.b, 0, none⟩) | 10 => fun σ => σ 14 = .pointer (some ⟨L.b, 2, none⟩) | 11 => fun _ => True | _ => fun _ => True) ?phc ?pstep ?pdone
  case phc =>
    intro i s s' hx h
    rcases i with _ | i; · exact (hx _ (List.mem_singleton.2 rfl)).symm.trans h
    rcases i with _ | i; · exact (hx _ (List.mem_singleton.2 rfl)).symm.trans h
    rcases i with _ | i; · exact (hx _ (List.mem_singleton.2 rfl)).symm.trans h
    rcases i with _ | i; · exact (hx _ (List.mem_singleton.2 rfl)).symm.trans h
    rcases i with _ | i; · exact (hx _ (List.mem_singleton.2 rfl)).symm.trans h
    rcases i with _ | i; · exact (hx _ (List.mem_singleton.2 rfl)).symm.trans h
    rcases i with _ | i; · exact (hx _ (List.mem_singleton.2 rfl)).symm.trans h
    rcases i with _ | i; · exact h
    rcases i with _ | i; · exact h
    rcases i with _ | i; · exact (hx _ (List.mem_singleton.2 rfl)).symm.trans h
    rcases i with _ | i; · exact (hx _ (List.mem_singleton.2 rfl)).symm.trans h
    rcases i with _ | i; · exact h
    exact h
  case pstep =>
    intro i o ho a' w' l hl hr hq hsa hS hd
    match i, ho, hl, hr, hq with
    | 0, ho, hl, hr, hq =>
      obtain rfl := Option.some.inj ho
      try dsimp only at hd
      have g0 : a'.tmps.getD 0 undef = .pointer (some ⟨L.b, 0, none⟩) := hsa.rest 0 (by rfl)
      have hT : (kpT wq L o s) (l 7) (l 8) false (slots a' 11) (slots a' 12) w' := by have h := hS; rw [hq 11 (by kernel_rfl)] at h; exact h
      refine wpOp_of rfl rfl ?_
      refine op_run (v := .pointer (some ⟨L.b, 0, none⟩)) (w' := w') ?_ ⟨_, rfl, ?_, (by show (kpT wq L o s) _ _ _ _ _ _; rw [updL_other l (show 7 ≠ 0 by decide), updL_other l (show 8 ≠ 0 by decide), updL_other l (show 11 ≠ 0 by decide), slots_ne (show 4 ≠ 11 by decide), slots_ne (show 4 ≠ 12 by decide)]; rw [hq 11 (by kernel_rfl)]; exact hT)⟩
      · simp only [execOp, Act.eval, g0]; first | (go_simp; done) | rfl
      · try dsimp only
        exact (slots_put (ns := 38) (hsa.size.trans rfl) (by decide))
    | 1, ho, hl, hr, hq =>
      obtain rfl := Option.some.inj ho
      try dsimp only at hd
      have g0 : a'.tmps.getD 0 undef = .pointer (some ⟨L.b, 0, none⟩) := hsa.rest 0 (by rfl)
      have hT : (kpT wq L o s) (l 7) false false (slots a' 11) (slots a' 12) w' := by have h := hS; rw [hq 8 (by kernel_rfl), hq 11 (by kernel_rfl)] at h; exact h
      refine wpOp_of rfl rfl ?_
      refine op_run (v := .pointer (some ⟨L.b, 0, none⟩)) (w' := w') ?_ ⟨_, rfl, ?_, (by show (kpT wq L o s) _ _ _ _ _ _; rw [updL_other l (show 7 ≠ 1 by decide), updL_other l (show 8 ≠ 1 by decide), updL_other l (show 11 ≠ 1 by decide), slots_ne (show 5 ≠ 11 by decide), slots_ne (show 5 ≠ 12 by decide)]; rw [hq 8 (by kernel_rfl), hq 11 (by kernel_rfl)]; exact hT)⟩
      · simp only [execOp, Act.eval, g0]; first | (go_simp; done) | rfl
      · try dsimp only
        exact (slots_put (ns := 38) (hsa.size.trans rfl) (by decide))
    | 2, ho, hl, hr, hq =>
      obtain rfl := Option.some.inj ho
      try dsimp only at hd
      have d1 : a'.tmps.getD 5 undef = .pointer (some ⟨L.b, 0, none⟩) := hd 1 (by rfl)
      have hT : (kpT wq L o s) (l 7) false false (slots a' 11) (slots a' 12) w' := by have h := hS; rw [hq 8 (by kernel_rfl), hq 11 (by kernel_rfl)] at h; exact h
      refine wpOp_of rfl rfl ?_
      refine op_run (v := .pointer (some ⟨L.b, 0, none⟩)) (w' := w') ?_ ⟨_, rfl, ?_, (by show (kpT wq L o s) _ _ _ _ _ _; rw [updL_other l (show 7 ≠ 2 by decide), updL_other l (show 8 ≠ 2 by decide), updL_other l (show 11 ≠ 2 by decide), slots_ne (show 6 ≠ 11 by decide), slots_ne (show 6 ≠ 12 by decide)]; rw [hq 8 (by kernel_rfl), hq 11 (by kernel_rfl)]; exact hT)⟩
      · simp only [execOp, Act.eval, d1]; first | (go_simp; done) | rfl
      · try dsimp only
        exact (slots_put (ns := 38) (hsa.size.trans rfl) (by decide))
    | 3, ho, hl, hr, hq =>
      obtain rfl := Option.some.inj ho
      try dsimp only at hd
      have d2 : a'.tmps.getD 6 undef = .pointer (some ⟨L.b, 0, none⟩) := hd 2 (by rfl)
      have hT : (kpT wq L o s) (l 7) false false (slots a' 11) (slots a' 12) w' := by have h := hS; rw [hq 8 (by kernel_rfl), hq 11 (by kernel_rfl)] at h; exact h
      refine wpOp_of rfl rfl ?_
      refine op_run (v := .pointer (some ⟨L.b, 2, none⟩)) (w' := w') ?_ ⟨_, rfl, ?_, (by show (kpT wq L o s) _ _ _ _ _ _; rw [updL_other l (show 7 ≠ 3 by decide), updL_other l (show 8 ≠ 3 by decide), updL_other l (show 11 ≠ 3 by decide), slots_ne (show 7 ≠ 11 by decide), slots_ne (show 7 ≠ 12 by decide)]; rw [hq 8 (by kernel_rfl), hq 11 (by kernel_rfl)]; exact hT)⟩
      · simp only [execOp, Act.eval, d2]; first | (go_simp; done) | rfl
      · try dsimp only
        exact (slots_put (ns := 38) (hsa.size.trans rfl) (by decide))
    | 4, ho, hl, hr, hq =>
      obtain rfl := Option.some.inj ho
      try dsimp only at hd
      have d3 : a'.tmps.getD 7 undef = .pointer (some ⟨L.b, 2, none⟩) := hd 3 (by rfl)
      have hT : (kpT wq L o s) (l 7) false false (slots a' 11) (slots a' 12) w' := by have h := hS; rw [hq 8 (by kernel_rfl), hq 11 (by kernel_rfl)] at h; exact h
      refine wpOp_of rfl rfl ?_
      have y := kp5 hO.out hT
      refine op_run (v := .slice L.lo o.log.length L.lc) (w' := w') ?_ ⟨_, rfl, ?_, (by show (kpT wq L o s) _ _ _ _ _ _; rw [updL_other l (show 7 ≠ 4 by decide), updL_other l (show 8 ≠ 4 by decide), updL_other l (show 11 ≠ 4 by decide), slots_ne (show 8 ≠ 11 by decide), slots_ne (show 8 ≠ 12 by decide)]; rw [hq 8 (by kernel_rfl), hq 11 (by kernel_rfl)]; exact hT)⟩
      · simp only [execOp, Act.eval, d3, y]; first | (go_simp; done) | rfl
      · try dsimp only
        exact (slots_put (ns := 38) (hsa.size.trans rfl) (by decide))
    | 5, ho, hl, hr, hq =>
      obtain rfl := Option.some.inj ho
      try dsimp only at hd
      have g1 : a'.tmps.getD 1 undef = .string s := hsa.rest 1 (by rfl)
      have hT : (kpT wq L o s) false false false (slots a' 11) (slots a' 12) w' := by have h := hS; rw [hq 7 (by kernel_rfl), hq 8 (by kernel_rfl), hq 11 (by kernel_rfl)] at h; exact h
      refine wpOp_of rfl rfl ?_
      refine op_run (v := .string s) (w' := w') ?_ ⟨_, rfl, ?_, (by show (kpT wq L o s) _ _ _ _ _ _; rw [updL_other l (show 7 ≠ 5 by decide), updL_other l (show 8 ≠ 5 by decide), updL_other l (show 11 ≠ 5 by decide), slots_ne (show 9 ≠ 11 by decide), slots_ne (show 9 ≠ 12 by decide)]; rw [hq 7 (by kernel_rfl), hq 8 (by kernel_rfl), hq 11 (by kernel_rfl)]; exact hT)⟩
      · simp only [execOp, Act.eval, g1]; first | (go_simp; done) | rfl
      · try dsimp only
        exact (slots_put (ns := 38) (hsa.size.trans rfl) (by decide))
    | 6, ho, hl, hr, hq =>
      obtain rfl := Option.some.inj ho
      try dsimp only at hd
      have d5 : a'.tmps.getD 9 undef = .string s := hd 5 (by rfl)
      have hT : (kpT wq L o s) false false false (slots a' 11) (slots a' 12) w' := by have h := hS; rw [hq 7 (by kernel_rfl), hq 8 (by kernel_rfl), hq 11 (by kernel_rfl)] at h; exact h
      refine wpOp_of rfl rfl ?_
      refine op_call 42 _ _ rfl (enters_of Try.func42 (by kernel_rfl) rfl) [.string s] (by simp only [List.map, Act.eval, d5]) (clone_any s w' hs) ?_
      rintro e w'' ⟨rfl, b2⟩
      refine ⟨_, rfl, _, rfl, (slots_put (ns := 38) (hsa.size.trans rfl) (by decide)), (by show (kpT wq L o s) _ _ _ _ _ _; rw [updL_other l (show 7 ≠ 6 by decide), updL_other l (show 8 ≠ 6 by decide), updL_other l (show 11 ≠ 6 by decide), slots_ne (show 10 ≠ 11 by decide), slots_ne (show 10 ≠ 12 by decide)]; rw [hq 7 (by kernel_rfl), hq 8 (by kernel_rfl), hq 11 (by kernel_rfl)]; exact kp1 hT b2)⟩
    | 7, ho, hl, hr, hq =>
      obtain rfl := Option.some.inj ho
      try dsimp only at hd
      have d6 : a'.tmps.getD 10 undef = .string s := hd 6 (by rfl)
      have hT : (kpT wq L o s) false false false (slots a' 11) (slots a' 12) w' := by have h := hS; rw [hl, hq 8 (by kernel_rfl), hq 11 (by kernel_rfl)] at h; exact h
      refine wpOp_of rfl rfl ?_
      refine op_run (v := .slice (some ⟨w'.heap.size, 0, none⟩) 1 1) (w' := w'.alloc (.cells #[.string s] 9)) ?_ ⟨_, rfl, trivial, (by show (kpT wq L o s) _ _ _ _ _ _; rw [updL_same, updL_other l (show 8 ≠ 7 by decide), updL_other l (show 11 ≠ 7 by decide), slots_put (ns := 38) (hsa.size.trans rfl) (show 11 < 38 by decide), slots_ne (show 11 ≠ 12 by decide)]; rw [hq 8 (by kernel_rfl), hq 11 (by kernel_rfl)]; exact kp2 hT)⟩
      simp only [execOp, Act.eval, List.map_toArray, List.map_cons, List.map_nil, d6]; first | (go_simp; done) | rfl
    | 8, ho, hl, hr, hq =>
      obtain rfl := Option.some.inj ho
      try dsimp only at hd
      have d4 : a'.tmps.getD 8 undef = .slice L.lo o.log.length L.lc := hd 4 (by rfl)
      have hT : (kpT wq L o s) true false false (slots a' 11) (slots a' 12) w' := by have h := hS; rw [hr 7 (by kernel_rfl), hl, hq 11 (by kernel_rfl)] at h; exact h
      refine wpOp_of rfl rfl ?_
      obtain ⟨ao, cp, w3, hrun, k3⟩ := kp3 hO.out hlen hT
      obtain ⟨g, e11, _⟩ := hT
      rw [e11] at hrun
      refine op_run (v := .slice ao (o.log.length + 1) cp) (w' := w3) ?_ ⟨_, rfl, trivial, (by show (kpT wq L o s) _ _ _ _ _ _; rw [updL_other l (show 7 ≠ 8 by decide), updL_same, updL_other l (show 11 ≠ 8 by decide), slots_ne (show 12 ≠ 11 by decide), slots_put (ns := 38) (hsa.size.trans rfl) (show 12 < 38 by decide)]; rw [hr 7 (by kernel_rfl), hq 11 (by kernel_rfl)]; exact k3)⟩
      have e11' : a'.tmps.getD 11 undef = .slice (some ⟨g, 0, none⟩) 1 1 := e11
      simp only [execOp, Act.eval, resolve, invoke, builtin, Sem.run_bind, Sem.run_pure, Result.andThen_ok, List.map_toArray, List.map_cons, List.map_nil, e11', hrun, d4]
    | 9, ho, hl, hr, hq =>
      obtain rfl := Option.some.inj ho
      try dsimp only at hd
      have d0 : a'.tmps.getD 4 undef = .pointer (some ⟨L.b, 0, none⟩) := hd 0 (by rfl)
      have hT : (kpT wq L o s) (l 7) (l 8) false (slots a' 11) (slots a' 12) w' := by have h := hS; rw [hq 11 (by kernel_rfl)] at h; exact h
      refine wpOp_of rfl rfl ?_
      refine op_run (v := .pointer (some ⟨L.b, 0, none⟩)) (w' := w') ?_ ⟨_, rfl, ?_, (by show (kpT wq L o s) _ _ _ _ _ _; rw [updL_other l (show 7 ≠ 9 by decide), updL_other l (show 8 ≠ 9 by decide), updL_other l (show 11 ≠ 9 by decide), slots_ne (show 13 ≠ 11 by decide), slots_ne (show 13 ≠ 12 by decide)]; rw [hq 11 (by kernel_rfl)]; exact hT)⟩
      · simp only [execOp, Act.eval, d0]; first | (go_simp; done) | rfl
      · try dsimp only
        exact (slots_put (ns := 38) (hsa.size.trans rfl) (by decide))
    | 10, ho, hl, hr, hq =>
      obtain rfl := Option.some.inj ho
      try dsimp only at hd
      have d9 : a'.tmps.getD 13 undef = .pointer (some ⟨L.b, 0, none⟩) := hd 9 (by rfl)
      have hT : (kpT wq L o s) (l 7) (l 8) false (slots a' 11) (slots a' 12) w' := by have h := hS; rw [hq 11 (by kernel_rfl)] at h; exact h
      refine wpOp_of rfl rfl ?_
      refine op_run (v := .pointer (some ⟨L.b, 2, none⟩)) (w' := w') ?_ ⟨_, rfl, ?_, (by show (kpT wq L o s) _ _ _ _ _ _; rw [updL_other l (show 7 ≠ 10 by decide), updL_other l (show 8 ≠ 10 by decide), updL_other l (show 11 ≠ 10 by decide), slots_ne (show 14 ≠ 11 by decide), slots_ne (show 14 ≠ 12 by decide)]; rw [hq 11 (by kernel_rfl)]; exact hT)⟩
      · simp only [execOp, Act.eval, d9]; first | (go_simp; done) | rfl
      · try dsimp only
        exact (slots_put (ns := 38) (hsa.size.trans rfl) (by decide))
    | 11, ho, hl, hr, hq =>
      obtain rfl := Option.some.inj ho
      try dsimp only at hd
      have d10 : a'.tmps.getD 14 undef = .pointer (some ⟨L.b, 2, none⟩) := hd 10 (by rfl)
      have hT : (kpT wq L o s) true true false (slots a' 11) (slots a' 12) w' := by have h := hS; rw [hr 7 (by kernel_rfl), hr 8 (by kernel_rfl), hl] at h; exact h
      refine wpOp_of rfl rfl ?_
      obtain ⟨ao, cp, e12, z3, f3, k3⟩ := kp4 hT
      have e12' : a'.tmps.getD 12 undef = .slice ao (o.log.length + 1) cp := e12
      refine op_skip (w' := w'.setCell ⟨L.b, 2, none⟩ (.slice ao (o.log.length + 1) cp)) ?_ ⟨undef, rfl, trivial, (by show (kpT wq L o s) _ _ _ _ _ _; rw [updL_other l (show 7 ≠ 11 by decide), updL_other l (show 8 ≠ 11 by decide), updL_same]; rw [hr 7 (by kernel_rfl), hr 8 (by kernel_rfl)]; exact k3)⟩
      simp only [execOp, Act.eval, e12', d10]; first | (go_simp; done) | rfl
    | (n + 12), ho, _, _, _ => exact absurd ho (by simp)
  case pdone =>
    intro a' w' l hl hsa hS hd
    have hT : (kpT wq L o s) true true true (slots a' 11) (slots a' 12) w' := by have h := hS; rw [hl 7 (by decide), hl 8 (by decide), hl 11 (by decide)] at h; exact h
    have d0 : a'.tmps.getD 4 undef = .pointer (some ⟨L.b, 0, none⟩) := hd 0 (by decide)
    have d1 : a'.tmps.getD 5 undef = .pointer (some ⟨L.b, 0, none⟩) := hd 1 (by decide)
    have d2 : a'.tmps.getD 6 undef = .pointer (some ⟨L.b, 0, none⟩) := hd 2 (by decide)
    have d3 : a'.tmps.getD 7 undef = .pointer (some ⟨L.b, 2, none⟩) := hd 3 (by decide)
    have d4 : a'.tmps.getD 8 undef = .slice L.lo o.log.length L.lc := hd 4 (by decide)
    have d5 : a'.tmps.getD 9 undef = .string s := hd 5 (by decide)
    have d6 : a'.tmps.getD 10 undef = .string s := hd 6 (by decide)
    have d9 : a'.tmps.getD 13 undef = .pointer (some ⟨L.b, 0, none⟩) := hd 9 (by decide)
    have d10 : a'.tmps.getD 14 undef = .pointer (some ⟨L.b, 2, none⟩) := hd 10 (by decide)
    obtain ⟨ao, cp, k1, k2, k3, k4⟩ := hT
    exact HQ.out a' w' ao cp ⟨hsa.size.trans rfl, hsa.defers.trans rfl, hsa.rest 0 (by rfl), hsa.rest 1 (by rfl)⟩ k1 k2 k3 k4
set_option maxHeartbeats 8000000 in
set_option maxRecDepth 100000 in
theorem kp_r1 {K : Act → World → Prop} {c : Code} (hc : regOf (Try.f33.body.getD .skip) 1 = some c) (a : Act) {v : Vkp} {wq : World} {b : Nat} {bx : Array Value} {bt : Int} {s : ByteArray} (hF : Fkp a v) (h0v : v.v0 = .pointer (some ⟨b, 0, none⟩)) (h1v : v.v1 = .string s) (hB : wq.heap[b]? = some (.cells bx 66 (0, 0))) (h3 : bx[3]? = some (.int .i64 bt)) (hs : s.size ≤ 281474976710656)
    (hQ : ∀ a', Fkp a' v → K a' (wq.setCell ⟨b, 3, none⟩ (.int .i64 (addB bt s)))) :
    Code.wp Try.prog c (Exit.then K fun _ _ _ => False) a wq := by
  have HQ := hide hQ
  clear hQ
  obtain ⟨t', d'⟩ := a
  obtain ⟨v0, v1⟩ := v
  simp only at h0v h1v HQ
  subst h0v h1v
  obtain ⟨hs1, hd1, q0, q1⟩ := hF
  obtain ⟨u, hu⟩ := frame_kp t' hs1
  simp only at hd1 q0 q1
  subst hu hd1
  have e0 : u 0 = .pointer (some ⟨b, 0, none⟩) := q0
  have e1 : u 1 = .string s := q1
  rw [e0, e1]
  clear q0 e0 q1 e1 hs1
  simp only [Try.f33, Option.getD_some, regOf] at hc
  injection hc with hc
  subst hc
  have c3 := box_cell hB 3 h3
  have f3 := box_free hB 3
  clear hB h3
  unfold addB at HQ
  go_wp2
  exact HQ.out _ ⟨rfl, rfl, rfl, rfl⟩
set_option maxHeartbeats 8000000 in
set_option maxRecDepth 100000 in
theorem kp_r2 {K : Act → World → Prop} {c : Code} (hc : regOf (Try.f33.body.getD .skip) 2 = some c) (a : Act) {v : Vkp} {wq : World} {b sf n cp : Nat} {ao : Option Addr} {bx : Array Value} {hv : Value} {s : ByteArray} (hF : Fkp a v) (h0v : v.v0 = .pointer (some ⟨b, 0, none⟩)) (h1v : v.v1 = .string s) (hB : wq.heap[b]? = some (.cells bx 66 (0, 0))) (h0 : bx[0]? = some (.int .i64 (sf : Int))) (h2 : bx[2]? = some (.slice ao n cp)) (h5 : bx[5 + sf]? = some hv) (hsf : sf < 7)
    (hQ : ∀ a', Fkp a' v → K a' (wq.drew.setCell ⟨b, 5 + sf, none⟩ (.int .i64 (n : Int)))) :
    Code.wp Try.prog c (Exit.then K fun _ _ _ => False) a wq := by
  have HQ := hide hQ
  clear hQ
  obtain ⟨t', d'⟩ := a
  obtain ⟨v0, v1⟩ := v
  simp only at h0v h1v HQ
  subst h0v h1v
  obtain ⟨hs1, hd1, q0, q1⟩ := hF
  obtain ⟨u, hu⟩ := frame_kp t' hs1
  simp only at hd1 q0 q1
  subst hu hd1
  have e0 : u 0 = .pointer (some ⟨b, 0, none⟩) := q0
  have e1 : u 1 = .string s := q1
  rw [e0, e1]
  clear q0 e0 q1 e1 hs1
  simp only [Try.f33, Option.getD_some, regOf] at hc
  injection hc with hc
  subst hc
  have c0 := box_cell hB 0 h0
  have c2 := box_cell hB 2 h2
  have c5 := box_cell hB (5 + sf) h5
  have f5 := box_free hB (5 + sf)
  have i0 : (0 : Int) ≤ (sf : Int) := by omega
  have i1 : (sf : Int) < 7 := by omega
  clear hB h0 h2 h5
  refine wp_region_any rfl ?_
  refine wpAny_staged (ns := 38) (uses := (fun i => match i with | 0 => [25] | 1 => [26] | 2 => [27] | 3 => [28] | 4 => [29] | 5 => [30] | 6 => [31] | 7 => [32] | 8 => [33] | 9 => [34] | 10 => [35] | 11 => [36] | 12 => [37] | _ => [])) (by kernel_rfl) (by kernel_rfl) (fun l a w => ((fun (x : Bool) (w : World) => (x = false → w = wq.drew) ∧ (x = true → w = wq.drew.setCell ⟨b, 5 + sf, none⟩ (.int .i64 (n : Int))))) (l 13) w) ⟨fun _ => rfl, fun e => by cases e⟩ (fun i => match i with | 0 => fun σ => σ 25 = .pointer (some ⟨b, 0, none⟩) | 1 => fun σ => σ 26 = .pointer (some ⟨b, 0, none⟩) | 2 => fun σ => σ 27 = .pointer (some ⟨b, 0, none⟩) | 3 => fun σ => σ 28 = .pointer (some ⟨b, 0, none⟩) | 4 => fun σ => σ 29 = .int .i64 (sf : Int) | 5 => fun σ => σ 30 = .pointer (some ⟨b, 0, none⟩) | 6 => fun σ => σ 31 = .pointer (some ⟨b, 0, none⟩) | 7 => fun σ => σ 32 = .pointer (some ⟨b, 2, none⟩) | 8 => fun σ => σ 33 = .slice ao n cp | 9 => fun σ => σ 34 = .int .i64 (n : Int) | 10 => fun σ => σ 35 = .pointer (some ⟨b, 0, none⟩) | 11 => fun σ => σ 36 = .pointer (some ⟨b, 5, none⟩) | 12 => fun σ => σ 37 = .pointer (some ⟨b, 5 + sf, none⟩) | 13 => fun _ => True | _ => fun _ => True) ?phc ?pstep ?pdone
  case phc =>
    intro i s s' hx h
    rcases i with _ | i; · exact (hx _ (List.mem_singleton.2 rfl)).symm.trans h
    rcases i with _ | i; · exact (hx _ (List.mem_singleton.2 rfl)).symm.trans h
    rcases i with _ | i; · exact (hx _ (List.mem_singleton.2 rfl)).symm.trans h
    rcases i with _ | i; · exact (hx _ (List.mem_singleton.2 rfl)).symm.trans h
    rcases i with _ | i; · exact (hx _ (List.mem_singleton.2 rfl)).symm.trans h
    rcases i with _ | i; · exact (hx _ (List.mem_singleton.2 rfl)).symm.trans h
    rcases i with _ | i; · exact (hx _ (List.mem_singleton.2 rfl)).symm.trans h
    rcases i with _ | i; · exact (hx _ (List.mem_singleton.2 rfl)).symm.trans h
    rcases i with _ | i; · exact (hx _ (List.mem_singleton.2 rfl)).symm.trans h
    rcases i with _ | i; · exact (hx _ (List.mem_singleton.2 rfl)).symm.trans h
    rcases i with _ | i; · exact (hx _ (List.mem_singleton.2 rfl)).symm.trans h
    rcases i with _ | i; · exact (hx _ (List.mem_singleton.2 rfl)).symm.trans h
    rcases i with _ | i; · exact (hx _ (List.mem_singleton.2 rfl)).symm.trans h
    rcases i with _ | i; · exact h
    exact h
  case pstep =>
    intro i o ho a' w' l hl hr hq hsa hS hd
    match i, ho, hl, hr, hq with
    | 0, ho, hl, hr, hq =>
      obtain rfl := Option.some.inj ho
      try dsimp only at hd
      have g0 : a'.tmps.getD 0 undef = .pointer (some ⟨b, 0, none⟩) := hsa.rest 0 (by rfl)
      have hT : ((fun (x : Bool) (w : World) => (x = false → w = wq.drew) ∧ (x = true → w = wq.drew.setCell ⟨b, 5 + sf, none⟩ (.int .i64 (n : Int))))) false w' := by have h := hS; rw [hq 13 (by kernel_rfl)] at h; exact h
      refine wpOp_of rfl rfl ?_
      refine op_run (v := .pointer (some ⟨b, 0, none⟩)) (w' := w') ?_ ⟨_, rfl, ?_, (by show ((fun (x : Bool) (w : World) => (x = false → w = wq.drew) ∧ (x = true → w = wq.drew.setCell ⟨b, 5 + sf, none⟩ (.int .i64 (n : Int))))) _ _; rw [updL_other l (show 13 ≠ 0 by decide)]; rw [hq 13 (by kernel_rfl)]; exact hT)⟩
      · simp only [execOp, Act.eval, g0]; first | (go_simp; done) | rfl
      · try dsimp only
        exact (slots_put (ns := 38) (hsa.size.trans rfl) (by decide))
    | 1, ho, hl, hr, hq =>
      obtain rfl := Option.some.inj ho
      try dsimp only at hd
      have g0 : a'.tmps.getD 0 undef = .pointer (some ⟨b, 0, none⟩) := hsa.rest 0 (by rfl)
      have hT : ((fun (x : Bool) (w : World) => (x = false → w = wq.drew) ∧ (x = true → w = wq.drew.setCell ⟨b, 5 + sf, none⟩ (.int .i64 (n : Int))))) false w' := by have h := hS; rw [hq 13 (by kernel_rfl)] at h; exact h
      refine wpOp_of rfl rfl ?_
      refine op_run (v := .pointer (some ⟨b, 0, none⟩)) (w' := w') ?_ ⟨_, rfl, ?_, (by show ((fun (x : Bool) (w : World) => (x = false → w = wq.drew) ∧ (x = true → w = wq.drew.setCell ⟨b, 5 + sf, none⟩ (.int .i64 (n : Int))))) _ _; rw [updL_other l (show 13 ≠ 1 by decide)]; rw [hq 13 (by kernel_rfl)]; exact hT)⟩
      · simp only [execOp, Act.eval, g0]; first | (go_simp; done) | rfl
      · try dsimp only
        exact (slots_put (ns := 38) (hsa.size.trans rfl) (by decide))
    | 2, ho, hl, hr, hq =>
      obtain rfl := Option.some.inj ho
      try dsimp only at hd
      have d1 : a'.tmps.getD 26 undef = .pointer (some ⟨b, 0, none⟩) := hd 1 (by rfl)
      have hT : ((fun (x : Bool) (w : World) => (x = false → w = wq.drew) ∧ (x = true → w = wq.drew.setCell ⟨b, 5 + sf, none⟩ (.int .i64 (n : Int))))) false w' := by have h := hS; rw [hq 13 (by kernel_rfl)] at h; exact h
      refine wpOp_of rfl rfl ?_
      refine op_run (v := .pointer (some ⟨b, 0, none⟩)) (w' := w') ?_ ⟨_, rfl, ?_, (by show ((fun (x : Bool) (w : World) => (x = false → w = wq.drew) ∧ (x = true → w = wq.drew.setCell ⟨b, 5 + sf, none⟩ (.int .i64 (n : Int))))) _ _; rw [updL_other l (show 13 ≠ 2 by decide)]; rw [hq 13 (by kernel_rfl)]; exact hT)⟩
      · simp only [execOp, Act.eval, d1]; first | (go_simp; done) | rfl
      · try dsimp only
        exact (slots_put (ns := 38) (hsa.size.trans rfl) (by decide))
    | 3, ho, hl, hr, hq =>
      obtain rfl := Option.some.inj ho
      try dsimp only at hd
      have d2 : a'.tmps.getD 27 undef = .pointer (some ⟨b, 0, none⟩) := hd 2 (by rfl)
      have hT : ((fun (x : Bool) (w : World) => (x = false → w = wq.drew) ∧ (x = true → w = wq.drew.setCell ⟨b, 5 + sf, none⟩ (.int .i64 (n : Int))))) false w' := by have h := hS; rw [hq 13 (by kernel_rfl)] at h; exact h
      refine wpOp_of rfl rfl ?_
      refine op_run (v := .pointer (some ⟨b, 0, none⟩)) (w' := w') ?_ ⟨_, rfl, ?_, (by show ((fun (x : Bool) (w : World) => (x = false → w = wq.drew) ∧ (x = true → w = wq.drew.setCell ⟨b, 5 + sf, none⟩ (.int .i64 (n : Int))))) _ _; rw [updL_other l (show 13 ≠ 3 by decide)]; rw [hq 13 (by kernel_rfl)]; exact hT)⟩
      · simp only [execOp, Act.eval, d2]; first | (go_simp; done) | rfl
      · try dsimp only
        exact (slots_put (ns := 38) (hsa.size.trans rfl) (by decide))
    | 4, ho, hl, hr, hq =>
      obtain rfl := Option.some.inj ho
      try dsimp only at hd
      have d3 : a'.tmps.getD 28 undef = .pointer (some ⟨b, 0, none⟩) := hd 3 (by rfl)
      have hT : ((fun (x : Bool) (w : World) => (x = false → w = wq.drew) ∧ (x = true → w = wq.drew.setCell ⟨b, 5 + sf, none⟩ (.int .i64 (n : Int))))) false w' := by have h := hS; rw [hq 13 (by kernel_rfl)] at h; exact h
      refine wpOp_of rfl rfl ?_
      have y : w'.cell? ⟨b, 0, none⟩ = some (.int .i64 (sf : Int)) := by rw [hT.1 rfl]; exact c0
      refine op_run (v := .int .i64 (sf : Int)) (w' := w') ?_ ⟨_, rfl, ?_, (by show ((fun (x : Bool) (w : World) => (x = false → w = wq.drew) ∧ (x = true → w = wq.drew.setCell ⟨b, 5 + sf, none⟩ (.int .i64 (n : Int))))) _ _; rw [updL_other l (show 13 ≠ 4 by decide)]; rw [hq 13 (by kernel_rfl)]; exact hT)⟩
      · simp only [execOp, Act.eval, d3, y]; first | (go_simp; done) | rfl
      · try dsimp only
        exact (slots_put (ns := 38) (hsa.size.trans rfl) (by decide))
    | 5, ho, hl, hr, hq =>
      obtain rfl := Option.some.inj ho
      try dsimp only at hd
      have g0 : a'.tmps.getD 0 undef = .pointer (some ⟨b, 0, none⟩) := hsa.rest 0 (by rfl)
      have hT : ((fun (x : Bool) (w : World) => (x = false → w = wq.drew) ∧ (x = true → w = wq.drew.setCell ⟨b, 5 + sf, none⟩ (.int .i64 (n : Int))))) false w' := by have h := hS; rw [hq 13 (by kernel_rfl)] at h; exact h
      refine wpOp_of rfl rfl ?_
      refine op_run (v := .pointer (some ⟨b, 0, none⟩)) (w' := w') ?_ ⟨_, rfl, ?_, (by show ((fun (x : Bool) (w : World) => (x = false → w = wq.drew) ∧ (x = true → w = wq.drew.setCell ⟨b, 5 + sf, none⟩ (.int .i64 (n : Int))))) _ _; rw [updL_other l (show 13 ≠ 5 by decide)]; rw [hq 13 (by kernel_rfl)]; exact hT)⟩
      · simp only [execOp, Act.eval, g0]; first | (go_simp; done) | rfl
      · try dsimp only
        exact (slots_put (ns := 38) (hsa.size.trans rfl) (by decide))
    | 6, ho, hl, hr, hq =>
      obtain rfl := Option.some.inj ho
      try dsimp only at hd
      have d5 : a'.tmps.getD 30 undef = .pointer (some ⟨b, 0, none⟩) := hd 5 (by rfl)
      have hT : ((fun (x : Bool) (w : World) => (x = false → w = wq.drew) ∧ (x = true → w = wq.drew.setCell ⟨b, 5 + sf, none⟩ (.int .i64 (n : Int))))) false w' := by have h := hS; rw [hq 13 (by kernel_rfl)] at h; exact h
      refine wpOp_of rfl rfl ?_
      refine op_run (v := .pointer (some ⟨b, 0, none⟩)) (w' := w') ?_ ⟨_, rfl, ?_, (by show ((fun (x : Bool) (w : World) => (x = false → w = wq.drew) ∧ (x = true → w = wq.drew.setCell ⟨b, 5 + sf, none⟩ (.int .i64 (n : Int))))) _ _; rw [updL_other l (show 13 ≠ 6 by decide)]; rw [hq 13 (by kernel_rfl)]; exact hT)⟩
      · simp only [execOp, Act.eval, d5]; first | (go_simp; done) | rfl
      · try dsimp only
        exact (slots_put (ns := 38) (hsa.size.trans rfl) (by decide))
    | 7, ho, hl, hr, hq =>
      obtain rfl := Option.some.inj ho
      try dsimp only at hd
      have d6 : a'.tmps.getD 31 undef = .pointer (some ⟨b, 0, none⟩) := hd 6 (by rfl)
      have hT : ((fun (x : Bool) (w : World) => (x = false → w = wq.drew) ∧ (x = true → w = wq.drew.setCell ⟨b, 5 + sf, none⟩ (.int .i64 (n : Int))))) false w' := by have h := hS; rw [hq 13 (by kernel_rfl)] at h; exact h
      refine wpOp_of rfl rfl ?_
      refine op_run (v := .pointer (some ⟨b, 2, none⟩)) (w' := w') ?_ ⟨_, rfl, ?_, (by show ((fun (x : Bool) (w : World) => (x = false → w = wq.drew) ∧ (x = true → w = wq.drew.setCell ⟨b, 5 + sf, none⟩ (.int .i64 (n : Int))))) _ _; rw [updL_other l (show 13 ≠ 7 by decide)]; rw [hq 13 (by kernel_rfl)]; exact hT)⟩
      · simp only [execOp, Act.eval, d6]; first | (go_simp; done) | rfl
      · try dsimp only
        exact (slots_put (ns := 38) (hsa.size.trans rfl) (by decide))
    | 8, ho, hl, hr, hq =>
      obtain rfl := Option.some.inj ho
      try dsimp only at hd
      have d7 : a'.tmps.getD 32 undef = .pointer (some ⟨b, 2, none⟩) := hd 7 (by rfl)
      have hT : ((fun (x : Bool) (w : World) => (x = false → w = wq.drew) ∧ (x = true → w = wq.drew.setCell ⟨b, 5 + sf, none⟩ (.int .i64 (n : Int))))) false w' := by have h := hS; rw [hq 13 (by kernel_rfl)] at h; exact h
      refine wpOp_of rfl rfl ?_
      have y : w'.cell? ⟨b, 2, none⟩ = some (.slice ao n cp) := by rw [hT.1 rfl]; exact c2
      refine op_run (v := .slice ao n cp) (w' := w') ?_ ⟨_, rfl, ?_, (by show ((fun (x : Bool) (w : World) => (x = false → w = wq.drew) ∧ (x = true → w = wq.drew.setCell ⟨b, 5 + sf, none⟩ (.int .i64 (n : Int))))) _ _; rw [updL_other l (show 13 ≠ 8 by decide)]; rw [hq 13 (by kernel_rfl)]; exact hT)⟩
      · simp only [execOp, Act.eval, d7, y]; first | (go_simp; done) | rfl
      · try dsimp only
        exact (slots_put (ns := 38) (hsa.size.trans rfl) (by decide))
    | 9, ho, hl, hr, hq =>
      obtain rfl := Option.some.inj ho
      try dsimp only at hd
      have d8 : a'.tmps.getD 33 undef = .slice ao n cp := hd 8 (by rfl)
      have hT : ((fun (x : Bool) (w : World) => (x = false → w = wq.drew) ∧ (x = true → w = wq.drew.setCell ⟨b, 5 + sf, none⟩ (.int .i64 (n : Int))))) false w' := by have h := hS; rw [hq 13 (by kernel_rfl)] at h; exact h
      refine wpOp_of rfl rfl ?_
      refine op_run (v := .int .i64 (n : Int)) (w' := w') ?_ ⟨_, rfl, ?_, (by show ((fun (x : Bool) (w : World) => (x = false → w = wq.drew) ∧ (x = true → w = wq.drew.setCell ⟨b, 5 + sf, none⟩ (.int .i64 (n : Int))))) _ _; rw [updL_other l (show 13 ≠ 9 by decide)]; rw [hq 13 (by kernel_rfl)]; exact hT)⟩
      · simp only [execOp, Act.eval, d8]; first | (go_simp; done) | rfl
      · try dsimp only
        exact (slots_put (ns := 38) (hsa.size.trans rfl) (by decide))
    | 10, ho, hl, hr, hq =>
      obtain rfl := Option.some.inj ho
      try dsimp only at hd
      have d0 : a'.tmps.getD 25 undef = .pointer (some ⟨b, 0, none⟩) := hd 0 (by rfl)
      have hT : ((fun (x : Bool) (w : World) => (x = false → w = wq.drew) ∧ (x = true → w = wq.drew.setCell ⟨b, 5 + sf, none⟩ (.int .i64 (n : Int))))) false w' := by have h := hS; rw [hq 13 (by kernel_rfl)] at h; exact h
      refine wpOp_of rfl rfl ?_
      refine op_run (v := .pointer (some ⟨b, 0, none⟩)) (w' := w') ?_ ⟨_, rfl, ?_, (by show ((fun (x : Bool) (w : World) => (x = false → w = wq.drew) ∧ (x = true → w = wq.drew.setCell ⟨b, 5 + sf, none⟩ (.int .i64 (n : Int))))) _ _; rw [updL_other l (show 13 ≠ 10 by decide)]; rw [hq 13 (by kernel_rfl)]; exact hT)⟩
      · simp only [execOp, Act.eval, d0]; first | (go_simp; done) | rfl
      · try dsimp only
        exact (slots_put (ns := 38) (hsa.size.trans rfl) (by decide))
    | 11, ho, hl, hr, hq =>
      obtain rfl := Option.some.inj ho
      try dsimp only at hd
      have d10 : a'.tmps.getD 35 undef = .pointer (some ⟨b, 0, none⟩) := hd 10 (by rfl)
      have hT : ((fun (x : Bool) (w : World) => (x = false → w = wq.drew) ∧ (x = true → w = wq.drew.setCell ⟨b, 5 + sf, none⟩ (.int .i64 (n : Int))))) false w' := by have h := hS; rw [hq 13 (by kernel_rfl)] at h; exact h
      refine wpOp_of rfl rfl ?_
      refine op_run (v := .pointer (some ⟨b, 5, none⟩)) (w' := w') ?_ ⟨_, rfl, ?_, (by show ((fun (x : Bool) (w : World) => (x = false → w = wq.drew) ∧ (x = true → w = wq.drew.setCell ⟨b, 5 + sf, none⟩ (.int .i64 (n : Int))))) _ _; rw [updL_other l (show 13 ≠ 11 by decide)]; rw [hq 13 (by kernel_rfl)]; exact hT)⟩
      · simp only [execOp, Act.eval, d10]; first | (go_simp; done) | rfl
      · try dsimp only
        exact (slots_put (ns := 38) (hsa.size.trans rfl) (by decide))
    | 12, ho, hl, hr, hq =>
      obtain rfl := Option.some.inj ho
      try dsimp only at hd
      have d4 : a'.tmps.getD 29 undef = .int .i64 (sf : Int) := hd 4 (by rfl)
      have d11 : a'.tmps.getD 36 undef = .pointer (some ⟨b, 5, none⟩) := hd 11 (by rfl)
      have hT : ((fun (x : Bool) (w : World) => (x = false → w = wq.drew) ∧ (x = true → w = wq.drew.setCell ⟨b, 5 + sf, none⟩ (.int .i64 (n : Int))))) false w' := by have h := hS; rw [hq 13 (by kernel_rfl)] at h; exact h
      refine wpOp_of rfl rfl ?_
      refine op_run (v := .pointer (some ⟨b, 5 + sf, none⟩)) (w' := w') ?_ ⟨_, rfl, ?_, (by show ((fun (x : Bool) (w : World) => (x = false → w = wq.drew) ∧ (x = true → w = wq.drew.setCell ⟨b, 5 + sf, none⟩ (.int .i64 (n : Int))))) _ _; rw [updL_other l (show 13 ≠ 12 by decide)]; rw [hq 13 (by kernel_rfl)]; exact hT)⟩
      · simp only [execOp, Act.eval, d4, d11]; first | (go_simp; done) | rfl
      · try dsimp only
        exact (slots_put (ns := 38) (hsa.size.trans rfl) (by decide))
    | 13, ho, hl, hr, hq =>
      obtain rfl := Option.some.inj ho
      try dsimp only at hd
      have d9 : a'.tmps.getD 34 undef = .int .i64 (n : Int) := hd 9 (by rfl)
      have d12 : a'.tmps.getD 37 undef = .pointer (some ⟨b, 5 + sf, none⟩) := hd 12 (by rfl)
      have hT : ((fun (x : Bool) (w : World) => (x = false → w = wq.drew) ∧ (x = true → w = wq.drew.setCell ⟨b, 5 + sf, none⟩ (.int .i64 (n : Int))))) false w' := by have h := hS; rw [hl] at h; exact h
      refine wpOp_of rfl rfl ?_
      obtain rfl := hT.1 rfl
      have z : wq.drew.cell? ⟨b, 5 + sf, none⟩ = some hv := c5
      have zf : wq.drew.frozen? ⟨b, 5 + sf, none⟩ = false := f5
      refine op_skip (w' := wq.drew.setCell ⟨b, 5 + sf, none⟩ (.int .i64 (n : Int))) ?_ ⟨undef, rfl, trivial, (by show ((fun (x : Bool) (w : World) => (x = false → w = wq.drew) ∧ (x = true → w = wq.drew.setCell ⟨b, 5 + sf, none⟩ (.int .i64 (n : Int))))) _ _; rw [updL_same]; exact ⟨(fun e => by cases e), fun _ => rfl⟩)⟩
      simp only [execOp, Act.eval, d9, d12]; first | (go_simp; done) | rfl
    | (n + 14), ho, _, _, _ => exact absurd ho (by simp)
  case pdone =>
    intro a' w' l hl hsa hS hd
    have hT : ((fun (x : Bool) (w : World) => (x = false → w = wq.drew) ∧ (x = true → w = wq.drew.setCell ⟨b, 5 + sf, none⟩ (.int .i64 (n : Int))))) true w' := by have h := hS; rw [hl 13 (by decide)] at h; exact h
    have d0 : a'.tmps.getD 25 undef = .pointer (some ⟨b, 0, none⟩) := hd 0 (by decide)
    have d1 : a'.tmps.getD 26 undef = .pointer (some ⟨b, 0, none⟩) := hd 1 (by decide)
    have d2 : a'.tmps.getD 27 undef = .pointer (some ⟨b, 0, none⟩) := hd 2 (by decide)
    have d3 : a'.tmps.getD 28 undef = .pointer (some ⟨b, 0, none⟩) := hd 3 (by decide)
    have d4 : a'.tmps.getD 29 undef = .int .i64 (sf : Int) := hd 4 (by decide)
    have d5 : a'.tmps.getD 30 undef = .pointer (some ⟨b, 0, none⟩) := hd 5 (by decide)
    have d6 : a'.tmps.getD 31 undef = .pointer (some ⟨b, 0, none⟩) := hd 6 (by decide)
    have d7 : a'.tmps.getD 32 undef = .pointer (some ⟨b, 2, none⟩) := hd 7 (by decide)
    have d8 : a'.tmps.getD 33 undef = .slice ao n cp := hd 8 (by decide)
    have d9 : a'.tmps.getD 34 undef = .int .i64 (n : Int) := hd 9 (by decide)
    have d10 : a'.tmps.getD 35 undef = .pointer (some ⟨b, 0, none⟩) := hd 10 (by decide)
    have d11 : a'.tmps.getD 36 undef = .pointer (some ⟨b, 5, none⟩) := hd 11 (by decide)
    have d12 : a'.tmps.getD 37 undef = .pointer (some ⟨b, 5 + sf, none⟩) := hd 12 (by decide)
    rw [hT.2 rfl]
    exact HQ.out a' ⟨hsa.size.trans rfl, hsa.defers.trans rfl, hsa.rest 0 (by rfl), hsa.rest 1 (by rfl)⟩
theorem had_set (o : OS) (h7 : o.had.length = 7) (L L' : OL) (s : ByteArray) (i : Nat) (hi : i < 7) (x : Nat) (hb : L'.b = L.b) (hn : L'.no = L.no) (hc : L'.nc = L.nc) (c2 c3 : Value) (o' : OS) (e0 : o'.self = o.self) (e1 : o'.nodes = o.nodes) (e2 : c2 = .slice L'.lo o'.log.length L'.lc) (e3 : c3 = .int .i64 o'.bytes) (e4 : o'.sure = o.sure) (e5 : o'.had = o.had.set i x) :
    (((oBox L o).setIfInBounds 2 c2).setIfInBounds 3 c3).setIfInBounds (5 + i) (.int .i64 (x : Int)) = oBox L' o' := by
  subst e2 e3
  have hg : ∀ k, o'.had.getD k 0 = if i = k then x else o.had.getD k 0 := by
    intro k
    rw [e5]
    simp only [List.getD_eq_getElem?_getD, List.getElem?_set]
    by_cases e : i = k
    · subst e; simp [h7, hi]
    · simp [e]
  unfold oBox hadV
  rw [e0, e1, e4, hn, hc]
  simp only [hg]
  match i, hi with
  | 0, _ => rfl
  | 1, _ => rfl
  | 2, _ => rfl
  | 3, _ => rfl
  | 4, _ => rfl
  | 5, _ => rfl
  | 6, _ => rfl
  | i + 7, h => omega
set_option maxHeartbeats 4000000 in
theorem pkeep {w : World} {L : OL} {o : OS} (h : OAt w L o) (hk : o.Ok) (s : ByteArray) (hs : s.size ≤ 140737488351232) (hlen : o.log.length < 8796093022208) :
    Calls Try.prog 33 #[L.at, .string s] w fun e w' => e = .returned (.tuple #[]) ∧ ∃ L', OAt w' L' (o.keep s) ∧ OStep w w' L L' := by
  unfold OL.at
  go_enter Try.func33, Try.ntmps33
  refine wp_seq (reg_mono (kp_r0 (by kernel_rfl) _ (v := ⟨_, _⟩) (L := L) (o := o) (s := s) ⟨rfl, rfl, rfl, rfl⟩ rfl rfl h hlen (by omega) ?_))
  intro a0 w1 ao cp F0 k1 k2 k3 k4
  have hb7 := hk.slf
  have e3 : ((oBox L o).setIfInBounds 2 (.slice ao (o.log.length + 1) cp))[3]? = some (.int .i64 o.bytes) := rfl
  refine wp_seq (reg_mono (kp_r1 (by kernel_rfl) _ F0 rfl rfl k1 e3 (by omega) ?_))
  intro a1 F1
  have k5 := box_set k1 3 (.int .i64 (addB o.bytes s))
  have hne : ∀ j, (Value.slice ao (o.log.length + 1) cp).ownBlock = some j → j ≠ L.b := fun j hj e => by
    subst e
    have := row_type k2 hj k1
    revert this
    decide +kernel
  have k6 := set_row k2 L.b 3 (.int .i64 (addB o.bytes s)) (fun e => hne _ e rfl)
  have k7 := k3.setCell ⟨L.b, 3, none⟩ (.int .i64 (addB o.bytes s)) (fun _ => .inl rfl)
  have h0 : (((oBox L o).setIfInBounds 2 (.slice ao (o.log.length + 1) cp)).setIfInBounds 3 (.int .i64 (addB o.bytes s)))[0]? = some (.int .i64 (o.self : Int)) := rfl
  have h2 : (((oBox L o).setIfInBounds 2 (.slice ao (o.log.length + 1) cp)).setIfInBounds 3 (.int .i64 (addB o.bytes s)))[2]? = some (.slice ao (o.log.length + 1) cp) := rfl
  obtain ⟨hv, h5⟩ : ∃ hv, (((oBox L o).setIfInBounds 2 (.slice ao (o.log.length + 1) cp)).setIfInBounds 3 (.int .i64 (addB o.bytes s)))[5 + o.self]? = some hv := ⟨_, Array.getElem?_eq_getElem (by simp [oBox]; omega)⟩
  refine reg_all (kp_r2 (by kernel_rfl) _ F1 rfl rfl k5 h0 h2 h5 hb7 ?_)
  intro a2 F2
  refine bodyPost_end (results_none rfl _ _ _) F2.defers ⟨rfl, ⟨L.b, L.no, L.nc, ao, cp⟩, ⟨?_, ?_, ?_⟩, ⟨?_, rfl, rfl, ?_⟩⟩
  · have := box_set (w := (w1.setCell ⟨L.b, 3, none⟩ (.int .i64 (addB o.bytes s))).drew) k5 (5 + o.self) (.int .i64 ((o.log.length + 1 : Nat) : Int))
    have e9 := had_set o hk.seven L ⟨L.b, L.no, L.nc, ao, cp⟩ s o.self hb7 (o.log.length + 1) rfl rfl rfl (.slice ao (o.log.length + 1) cp) (.int .i64 (addB o.bytes s)) (o.keep s) rfl rfl (by simp [OS.keep]) rfl rfl rfl
    exact this.trans (congrArg (fun c => some (Obj.cells c 66 (0, 0))) e9)
  · refine set_row (w := (w1.setCell ⟨L.b, 3, none⟩ (.int .i64 (addB o.bytes s))).drew) (k7.row h.nodes fun k e => h.no_own (by rw [ownBlock_slice] at e; exact e)) _ _ _ (by rw [ownBlock_slice]; exact h.no_ne)
  · have := set_row (w := (w1.setCell ⟨L.b, 3, none⟩ (.int .i64 (addB o.bytes s))).drew) k6 L.b (5 + o.self) (.int .i64 ((o.log.length + 1 : Nat) : Int)) (fun e => hne _ e rfl)
    simpa [OS.keep] using this
  · exact k7.drew.setCell _ _ (fun _ => .inl rfl)
  · rintro j (e | e)
    · exact .inl (.inl e)
    · rcases k4 j e with e2 | e2
      · exact .inl (.inr e2)
      · exact .inr e2
end Go.Proofs.Ytjgbgbgajadgnaa
