/-
  The program's New (mkua.py).
-/
import Derived.Test.YtafjngmdandgmaaZUA1
namespace Go.Proofs.Ytafjngmdandgmaa
open Go.RowKit

attribute [local go_sem ↓] Go.wp_at_zero Go.wp_at_succ
set_option linter.unusedSimpArgs false
set_option linter.unusedVariables false
set_option maxHeartbeats 4000000 in
theorem pnewClock (w : World) : Calls Try.prog 19 #[] w fun e w' => ∃ cc, e = .returned (clo cc) ∧ w'.heap[cc]? = some (.cells #[.int .i64 0] tNow (0, 0)) ∧ w.heap.size ≤ cc ∧ Below w.heap.size w w' := by
  have hmf : ∀ (fn : Fn) (first cap : Array Value) (w : World), (Instr.makeFunc fn first cap).run Try.prog w = .ok (.func fn first cap) w := fun _ _ _ _ => rfl
  go_enter Try.func19, Try.ntmps19
  go_wp2
  go_ret
  exact ⟨w.heap.size, rfl, heap_alloc_new w _, Nat.le_refl _, (Below.refl w.heap.size w).alloc (Nat.le_refl _) _⟩
set_option maxRecDepth 100000 in
theorem frame_pn (t : Array Value) (h : t.size = 11) : ∃ u : Nat → Value, t = List.toArray (u 0 :: u 1 :: u 2 :: u 3 :: u 4 :: u 5 :: u 6 :: u 7 :: u 8 :: u 9 :: u 10 :: []) := by
  refine ⟨fun i => t.getD i undef, ?_⟩
  have e : (List.toArray ((fun i => t.getD i undef) 0 :: (fun i => t.getD i undef) 1 :: (fun i => t.getD i undef) 2 :: (fun i => t.getD i undef) 3 :: (fun i => t.getD i undef) 4 :: (fun i => t.getD i undef) 5 :: (fun i => t.getD i undef) 6 :: (fun i => t.getD i undef) 7 :: (fun i => t.getD i undef) 8 :: (fun i => t.getD i undef) 9 :: (fun i => t.getD i undef) 10 :: []) : Array Value) = ((List.range 11).map fun i => t.getD i undef).toArray := rfl
  refine Eq.trans ?_ e.symm
  apply Array.ext
  · simp [h]
  · intro k h1 h2
    simp [Array.getD, h1]
/-- The slots that matter. -/
structure Vpn where
  v1 : Value
  v2 : Value
  v3 : Value
structure Fpn (a : Act) (v : Vpn) : Prop where
  size : a.tmps.size = 11
  defers : a.defers = []
  s1 : a.tmps.getD 1 undef = v.v1
  s2 : a.tmps.getD 2 undef = v.v2
  s3 : a.tmps.getD 3 undef = v.v3
set_option maxHeartbeats 8000000 in
set_option maxRecDepth 100000 in
theorem pn_r1 {K : Act → World → Prop} {c : Code} (hc : regOf (Try.f7.body.getD .skip) 1 = some c) (a : Act) {v : Vpn} {wq : World} {d : Nat} {m : MB} (hF : Fpn a v) (h1v : v.v1 = .pointer (some ⟨d, 0, none⟩)) (hD : wq.heap[d]? = some (.cells #[.int .i64 m.node, .int .i64 m.life] tMember (0, 0)))
    (hQ : ∀ a' w', Fpn a' v → a'.tmps.getD 6 undef = .bool (!decide m.right) → Below wq.heap.size wq w' → K a' w') :
    Code.wp Try.prog c (Exit.then K fun _ _ _ => False) a wq := by
  have HQ := hide hQ
  clear hQ
  obtain ⟨t', d'⟩ := a
  obtain ⟨v1, v2, v3⟩ := v
  simp only at h1v HQ
  subst h1v
  obtain ⟨hs1, hd1, q1, q2, q3⟩ := hF
  obtain ⟨u, hu⟩ := frame_pn t' hs1
  simp only at hd1 q1 q2 q3
  subst hu hd1
  have e1 : u 1 = .pointer (some ⟨d, 0, none⟩) := q1
  have e2 : u 2 = v2 := q2
  have e3 : u 3 = v3 := q3
  rw [e1, e2, e3]
  clear q1 e1 q2 e2 q3 e3 hs1
  simp only [Try.f7, Option.getD_some, regOf] at hc
  injection hc with hc
  subst hc
  generalize u 0 = u0
  generalize u 4 = u4
  generalize u 5 = u5
  generalize u 6 = u6
  generalize u 7 = u7
  generalize u 8 = u8
  generalize u 9 = u9
  generalize u 10 = u10
  clear u
  have HE := hide (pmember m wq)
  have c0 := box_cell hD 0 rfl
  have c1 := box_cell hD 1 rfl
  clear hD
  unfold MB.v at HE
  go_wp2_with fail
  refine HE.out.mono ?_
  rintro e w1 ⟨rfl, b1⟩
  have B1 := hide b1
  clear b1 HE
  generalize decide m.right = r at *
  go_wp2
  exact HQ.out _ _ ⟨rfl, rfl, rfl, rfl, rfl⟩ (by first | rfl | (simp; done)) B1.out
set_option maxHeartbeats 8000000 in
set_option maxRecDepth 100000 in
theorem pn_r2 {K : Act → World → Prop} {c : Code} (hc : regOf (Try.f7.body.getD .skip) 2 = some c) (a : Act) {v : Vpn} {wq : World}  (hF : Fpn a v) (hQ : ∀ a', Fpn a' { v with v2 := .pointer none, v3 := .int .i64 1 } → K a' wq) :
    Code.wp Try.prog c (Exit.then K fun _ _ _ => False) a wq := by
  have HQ := hide hQ
  clear hQ
  obtain ⟨t', d'⟩ := a
  obtain ⟨v1, v2, v3⟩ := v
  obtain ⟨hs1, hd1, q1, q2, q3⟩ := hF
  obtain ⟨u, hu⟩ := frame_pn t' hs1
  simp only at hd1 q1 q2 q3
  subst hu hd1
  have e1 : u 1 = v1 := q1
  have e2 : u 2 = v2 := q2
  have e3 : u 3 = v3 := q3
  rw [e1, e2, e3]
  clear q1 e1 q2 e2 q3 e3 hs1
  simp only [Try.f7, Option.getD_some, regOf] at hc
  injection hc with hc
  subst hc
  generalize u 0 = u0
  generalize u 4 = u4
  generalize u 5 = u5
  generalize u 6 = u6
  generalize u 7 = u7
  generalize u 8 = u8
  generalize u 9 = u9
  generalize u 10 = u10
  clear u
  go_wp2
  exact HQ.out _ ⟨rfl, rfl, rfl, rfl, rfl⟩
set_option maxHeartbeats 8000000 in
set_option maxRecDepth 100000 in
theorem pn_r3 {K : Act → World → Prop} {c : Code} (hc : regOf (Try.f7.body.getD .skip) 3 = some c) (a : Act) {v : Vpn} {wq : World} {d : Nat} {m : MB} (hF : Fpn a v) (h1v : v.v1 = .pointer (some ⟨d, 0, none⟩)) (hm : m.right) (hD : wq.heap[d]? = some (.cells #[.int .i64 m.node, .int .i64 m.life] tMember (0, 0)))
    (hQ : ∀ a' w' bb cc, Fpn a' { v with v2 := .pointer (some ⟨bb, 0, none⟩), v3 := .int .i64 0 } → PAt w' bb cc (SU.new m) → (∀ k, pOwn bb cc k → wq.heap.size ≤ k) → Below wq.heap.size wq w' → K a' w') :
    Code.wp Try.prog c (Exit.then K fun _ _ _ => False) a wq := by
  have HQ := hide hQ
  clear hQ
  obtain ⟨t', d'⟩ := a
  obtain ⟨v1, v2, v3⟩ := v
  simp only at h1v HQ
  subst h1v
  obtain ⟨hs1, hd1, q1, q2, q3⟩ := hF
  obtain ⟨u, hu⟩ := frame_pn t' hs1
  simp only at hd1 q1 q2 q3
  subst hu hd1
  have e1 : u 1 = .pointer (some ⟨d, 0, none⟩) := q1
  have e2 : u 2 = v2 := q2
  have e3 : u 3 = v3 := q3
  rw [e1, e2, e3]
  clear q1 e1 q2 e2 q3 e3 hs1
  simp only [Try.f7, Option.getD_some, regOf] at hc
  injection hc with hc
  subst hc
  generalize u 0 = u0
  generalize u 4 = u4
  generalize u 5 = u5
  generalize u 6 = u6
  generalize u 7 = u7
  generalize u 8 = u8
  generalize u 9 = u9
  generalize u 10 = u10
  clear u
  have c0 := box_cell hD 0 rfl
  have c1 := box_cell hD 1 rfl
  have hdl := heap_lt hD
  clear hD
  refine wp_region_phi (by kernel_rfl) (ns := 11) (uses := (fun i => match i with | 0 => [7] | 1 => [8] | 2 => [9] | 3 => [10] | 4 => [2] | 5 => [3] | _ => [])) (by kernel_rfl) (by kernel_rfl) (fun _ w w' => Below w.heap.size w w') (fun w => Below wq.heap.size wq w) (fun _ _ _ h r => h.trans (r.mono h.size)) ((Below.refl _ _).drew) (fun i => match i with | 0 => fun s w => s 7 = .agg #[.int .i64 m.node, .int .i64 m.life] | 1 => fun s w => ∃ cc, s 8 = clo cc ∧ w.heap[cc]? = some (.cells #[.int .i64 0] tNow (0, 0)) ∧ wq.heap.size ≤ cc | 2 => fun s w => ∃ cc, s 9 = .agg #[.int .i64 m.node, .int .i64 m.life, .int .i64 0, .int .i64 0, .int .i64 0, .int .i64 0, .int .i64 0, .int .i64 0, .int .i64 0, .int .i64 0, .int .i64 0, .int .i64 0, .int .i64 0, .int .i64 0, .int .i64 0, .int .i64 0, clo cc] ∧ w.heap[cc]? = some (.cells #[.int .i64 0] tNow (0, 0)) ∧ wq.heap.size ≤ cc | 3 => fun s w => ∃ bb cc, s 10 = .pointer (some ⟨bb, 0, none⟩) ∧ w.heap[bb]? = some (.cells #[.int .i64 m.node, .int .i64 m.life, .int .i64 0, .int .i64 0, .int .i64 0, .int .i64 0, .int .i64 0, .int .i64 0, .int .i64 0, .int .i64 0, .int .i64 0, .int .i64 0, .int .i64 0, .int .i64 0, .int .i64 0, .int .i64 0, clo cc] tSus (0, 0)) ∧ wq.heap.size ≤ bb ∧ w.heap[cc]? = some (.cells #[.int .i64 0] tNow (0, 0)) ∧ wq.heap.size ≤ cc | 4 => fun s w => ∃ bb cc, s 2 = .pointer (some ⟨bb, 0, none⟩) ∧ w.heap[bb]? = some (.cells #[.int .i64 m.node, .int .i64 m.life, .int .i64 0, .int .i64 0, .int .i64 0, .int .i64 0, .int .i64 0, .int .i64 0, .int .i64 0, .int .i64 0, .int .i64 0, .int .i64 0, .int .i64 0, .int .i64 0, .int .i64 0, .int .i64 0, clo cc] tSus (0, 0)) ∧ wq.heap.size ≤ bb ∧ w.heap[cc]? = some (.cells #[.int .i64 0] tNow (0, 0)) ∧ wq.heap.size ≤ cc | 5 => fun s w => s 3 = .int .i64 0 | _ => fun _ _ => True) ?phc ?phh ?pstep ?pdone
  case phc =>
    intro i s s' w hx h
    match i, hx, h with
    | 0, hx, h =>
      have e7 := hx 7 (by simp)
      first | exact (show _ from by simp only [← e7] at *; exact h) | (simp only [e7] at h; exact h)
    | 1, hx, h =>
      have e8 := hx 8 (by simp)
      first | exact (show _ from by simp only [← e8] at *; exact h) | (simp only [e8] at h; exact h)
    | 2, hx, h =>
      have e9 := hx 9 (by simp)
      first | exact (show _ from by simp only [← e9] at *; exact h) | (simp only [e9] at h; exact h)
    | 3, hx, h =>
      have e10 := hx 10 (by simp)
      first | exact (show _ from by simp only [← e10] at *; exact h) | (simp only [e10] at h; exact h)
    | 4, hx, h =>
      have e2 := hx 2 (by simp)
      first | exact (show _ from by simp only [← e2] at *; exact h) | (simp only [e2] at h; exact h)
    | 5, hx, h =>
      have e3 := hx 3 (by simp)
      first | exact (show _ from by simp only [← e3] at *; exact h) | (simp only [e3] at h; exact h)
    | (n + 6), _, h => exact h
  case phh =>
    intro i j s w w' hij h hb r
    match i, hij, h with
    | 0, hij, h =>
      exact h
    | 1, hij, h =>
      obtain ⟨cc, h1, h2, h3⟩ := h
      exact ⟨cc, h1, (r.block _ (heap_lt h2)).trans h2, h3⟩
    | 2, hij, h =>
      obtain ⟨cc, h1, h2, h3⟩ := h
      exact ⟨cc, h1, (r.block _ (heap_lt h2)).trans h2, h3⟩
    | 3, hij, h =>
      obtain ⟨bb, cc, h1, h2, h3, h4, h5⟩ := h
      exact ⟨bb, cc, h1, (r.block _ (heap_lt h2)).trans h2, h3, (r.block _ (heap_lt h4)).trans h4, h5⟩
    | 4, hij, h =>
      obtain ⟨bb, cc, h1, h2, h3, h4, h5⟩ := h
      exact ⟨bb, cc, h1, (r.block _ (heap_lt h2)).trans h2, h3, (r.block _ (heap_lt h4)).trans h4, h5⟩
    | 5, hij, h =>
      exact h
    | (n + 6), _, h => exact h
  case pstep =>
    intro i o ho a' w' hsa hb hd
    match i, ho with
    | 0, ho =>
      obtain rfl := Option.some.inj ho
      try dsimp only at hd
      have g1 : a'.tmps.getD 1 undef = .pointer (some ⟨d, 0, none⟩) := hsa.rest 1 (by rfl)
      have c0x := (hb.cell (p := ⟨d, _, none⟩) hdl).trans c0
      have c1x := (hb.cell (p := ⟨d, _, none⟩) hdl).trans c1
      refine wpOp_of rfl rfl ?_
      refine op_run (v := .agg #[.int .i64 m.node, .int .i64 m.life]) (w' := w') ?_ ⟨_, rfl, ?_, ?_⟩
      · simp only [execOp, Act.eval, List.map_toArray, List.map_cons, List.map_nil, g1, c0x, c1x]; first | (go_simp; done) | rfl
      · try dsimp only
        exact (slots_put (ns := 11) (hsa.size.trans rfl) (by decide))
      · exact Below.refl _ _
    | 1, ho =>
      obtain rfl := Option.some.inj ho
      try dsimp only at hd
      refine wpOp_of rfl rfl ?_
      refine op_call 19 _ _ rfl (enters_of Try.func19 (by kernel_rfl) rfl) [] (by simp only [List.map, Act.eval]) (pnewClock w') ?_
      rintro e w'' ⟨cc, rfl, h1, h2, b2⟩
      refine ⟨_, rfl, _, rfl, ?_, ?_⟩
      · try dsimp only
        exact ⟨cc, (slots_put (ns := 11) (hsa.size.trans rfl) (by decide)), h1, Nat.le_trans hb.size h2⟩
      · exact b2
    | 2, ho =>
      obtain rfl := Option.some.inj ho
      try dsimp only at hd
      have d0 : a'.tmps.getD 7 undef = .agg #[.int .i64 m.node, .int .i64 m.life] := hd 0 (by rfl)
      have d1 : ∃ cc, a'.tmps.getD 8 undef = clo cc ∧ w'.heap[cc]? = some (.cells #[.int .i64 0] tNow (0, 0)) ∧ wq.heap.size ≤ cc := hd 1 (by rfl)
      obtain ⟨cc, d1, h1, h2⟩ := d1
      unfold clo at d1 ⊢
      refine wpOp_of rfl rfl ?_
      refine op_run (v := .agg #[.int .i64 m.node, .int .i64 m.life, .int .i64 0, .int .i64 0, .int .i64 0, .int .i64 0, .int .i64 0, .int .i64 0, .int .i64 0, .int .i64 0, .int .i64 0, .int .i64 0, .int .i64 0, .int .i64 0, .int .i64 0, .int .i64 0, .func (.func 22) #[] #[.pointer (some ⟨cc, 0, none⟩)]]) (w' := w') ?_ ⟨_, rfl, ?_, ?_⟩
      · simp only [execOp, Act.eval, List.map_toArray, List.map_cons, List.map_nil, d0, d1]; first | (go_simp; done) | rfl
      · try dsimp only
        exact ⟨cc, (slots_put (ns := 11) (hsa.size.trans rfl) (by decide)), h1, h2⟩
      · exact Below.refl _ _
    | 3, ho =>
      obtain rfl := Option.some.inj ho
      try dsimp only at hd
      have d2 : ∃ cc, a'.tmps.getD 9 undef = .agg #[.int .i64 m.node, .int .i64 m.life, .int .i64 0, .int .i64 0, .int .i64 0, .int .i64 0, .int .i64 0, .int .i64 0, .int .i64 0, .int .i64 0, .int .i64 0, .int .i64 0, .int .i64 0, .int .i64 0, .int .i64 0, .int .i64 0, clo cc] ∧ w'.heap[cc]? = some (.cells #[.int .i64 0] tNow (0, 0)) ∧ wq.heap.size ≤ cc := hd 2 (by rfl)
      obtain ⟨cc, d2, h1, h2⟩ := d2
      refine wpOp_of rfl rfl ?_
      refine op_run (v := Value.pointer (some ⟨w'.heap.size, 0, none⟩)) (w' := w'.alloc (.cells #[.int .i64 m.node, .int .i64 m.life, .int .i64 0, .int .i64 0, .int .i64 0, .int .i64 0, .int .i64 0, .int .i64 0, .int .i64 0, .int .i64 0, .int .i64 0, .int .i64 0, .int .i64 0, .int .i64 0, .int .i64 0, .int .i64 0, clo cc] tSus)) ?_ ⟨_, rfl, ?_, ?_⟩
      · simp only [execOp, Act.eval, List.map_toArray, List.map_cons, List.map_nil, d2]; first | (go_simp; done) | rfl
      · try dsimp only
        exact ⟨_, cc, (slots_put (ns := 11) (hsa.size.trans rfl) (by decide)), heap_alloc_new _ _, hb.size, box_alloc h1 _, h2⟩
      · exact (Below.refl _ _).alloc (Nat.le_refl _) _
    | 4, ho =>
      obtain rfl := Option.some.inj ho
      try dsimp only at hd
      have d3 : ∃ bb cc, a'.tmps.getD 10 undef = .pointer (some ⟨bb, 0, none⟩) ∧ w'.heap[bb]? = some (.cells #[.int .i64 m.node, .int .i64 m.life, .int .i64 0, .int .i64 0, .int .i64 0, .int .i64 0, .int .i64 0, .int .i64 0, .int .i64 0, .int .i64 0, .int .i64 0, .int .i64 0, .int .i64 0, .int .i64 0, .int .i64 0, .int .i64 0, clo cc] tSus (0, 0)) ∧ wq.heap.size ≤ bb ∧ w'.heap[cc]? = some (.cells #[.int .i64 0] tNow (0, 0)) ∧ wq.heap.size ≤ cc := hd 3 (by rfl)
      obtain ⟨bb, cc, d3, h1, h2, h3, h4⟩ := d3
      refine wpOp_of rfl rfl ?_
      refine op_run (v := .pointer (some ⟨bb, 0, none⟩)) (w' := w') ?_ ⟨_, rfl, ?_, ?_⟩
      · simp only [execOp, Act.eval, List.map_toArray, List.map_cons, List.map_nil, d3]; first | (go_simp; done) | rfl
      · try dsimp only
        exact ⟨bb, cc, (slots_put (ns := 11) (hsa.size.trans rfl) (by decide)), h1, h2, h3, h4⟩
      · exact Below.refl _ _
    | 5, ho =>
      obtain rfl := Option.some.inj ho
      try dsimp only at hd
      refine wpOp_of rfl rfl ?_
      refine op_run (v := .int .i64 0) (w' := w') ?_ ⟨_, rfl, ?_, ?_⟩
      · simp only [execOp, Act.eval, List.map_toArray, List.map_cons, List.map_nil]; first | (go_simp; done) | rfl
      · try dsimp only
        exact (slots_put (ns := 11) (hsa.size.trans rfl) (by decide))
      · exact Below.refl _ _
    | (n + 6), ho => exact absurd ho (by simp)
  case pdone =>
    intro a' w' hsa hb hd
    have d0 : a'.tmps.getD 7 undef = .agg #[.int .i64 m.node, .int .i64 m.life] := hd 0 (by decide)
    have d1 : ∃ cc, a'.tmps.getD 8 undef = clo cc ∧ w'.heap[cc]? = some (.cells #[.int .i64 0] tNow (0, 0)) ∧ wq.heap.size ≤ cc := hd 1 (by decide)
    have d2 : ∃ cc, a'.tmps.getD 9 undef = .agg #[.int .i64 m.node, .int .i64 m.life, .int .i64 0, .int .i64 0, .int .i64 0, .int .i64 0, .int .i64 0, .int .i64 0, .int .i64 0, .int .i64 0, .int .i64 0, .int .i64 0, .int .i64 0, .int .i64 0, .int .i64 0, .int .i64 0, clo cc] ∧ w'.heap[cc]? = some (.cells #[.int .i64 0] tNow (0, 0)) ∧ wq.heap.size ≤ cc := hd 2 (by decide)
    have d3 : ∃ bb cc, a'.tmps.getD 10 undef = .pointer (some ⟨bb, 0, none⟩) ∧ w'.heap[bb]? = some (.cells #[.int .i64 m.node, .int .i64 m.life, .int .i64 0, .int .i64 0, .int .i64 0, .int .i64 0, .int .i64 0, .int .i64 0, .int .i64 0, .int .i64 0, .int .i64 0, .int .i64 0, .int .i64 0, .int .i64 0, .int .i64 0, .int .i64 0, clo cc] tSus (0, 0)) ∧ wq.heap.size ≤ bb ∧ w'.heap[cc]? = some (.cells #[.int .i64 0] tNow (0, 0)) ∧ wq.heap.size ≤ cc := hd 3 (by decide)
    have d4 : ∃ bb cc, a'.tmps.getD 2 undef = .pointer (some ⟨bb, 0, none⟩) ∧ w'.heap[bb]? = some (.cells #[.int .i64 m.node, .int .i64 m.life, .int .i64 0, .int .i64 0, .int .i64 0, .int .i64 0, .int .i64 0, .int .i64 0, .int .i64 0, .int .i64 0, .int .i64 0, .int .i64 0, .int .i64 0, .int .i64 0, .int .i64 0, .int .i64 0, clo cc] tSus (0, 0)) ∧ wq.heap.size ≤ bb ∧ w'.heap[cc]? = some (.cells #[.int .i64 0] tNow (0, 0)) ∧ wq.heap.size ≤ cc := hd 4 (by decide)
    have d5 : a'.tmps.getD 3 undef = .int .i64 0 := hd 5 (by decide)
    obtain ⟨bb, cc, d4, h1, h2, h3, h4⟩ := d4
    refine HQ.out _ _ bb cc ⟨hsa.size.trans rfl, hsa.defers, (hsa.rest 1 (by rfl)).trans rfl, d4, d5⟩ ⟨h1, h3, fun k => Nat.le_refl _, by show (0 : Nat) ≤ _; omega, hm⟩ ?_ hb
    rintro k (rfl | rfl)
    · exact h2
    · exact h4
theorem pn_ret {W : World} {a : Act} {v : Vpn} {x y : Value} {R : Ending → World → Prop} (hF : Fpn a v) (h2 : v.v2 = x) (h3 : v.v3 = y) (hB : R (.returned (.tuple #[x, y])) W) : bodyPost Try.prog Try.f7 R .ret a W := by
  have g2 := slot_get (hF.s2.trans h2)
  have g3 := slot_get (hF.s3.trans h3)
  refine bodyPost_ret (v := .tuple #[x, y]) ?_ hF.defers hB
  simp [results, Try.results7, go_sem, g2, g3]
def PNew (m : MB) (w : World) (e : Ending) (w' : World) : Prop := (m.right → ∃ b c, e = .returned (.tuple #[.pointer (some ⟨b, 0, none⟩), .int .i64 0]) ∧ PAt w' b c (SU.new m) ∧ ∀ k, pOwn b c k → w.heap.size ≤ k) ∧ (¬ m.right → e = .returned (.tuple #[.pointer none, .int .i64 1])) ∧ Below w.heap.size w w'
set_option maxHeartbeats 4000000 in
set_option maxRecDepth 100000 in
theorem pnew (m : MB) (w : World) : Calls Try.prog 7 #[m.v] w (PNew m w) := by
  have X0 := hide (heap_alloc_new w (.cells #[.int .i64 m.node, .int .i64 m.life] tMember))
  have HB := hide ((Below.refl w.heap.size w).alloc (Nat.le_refl _) (.cells #[.int .i64 m.node, .int .i64 m.life] tMember))
  simp only [MB.v]
  go_enter Try.func7, Try.ntmps7
  go_upto_region 1 with fail
  rename_i Kp hKp Ko hKo
  generalize w.alloc (.cells #[.int .i64 m.node, .int .i64 m.life] tMember) = w1 at *
  refine reg_mono (pn_r1 (by kernel_rfl) _ (v := ⟨_, _, _⟩) ⟨rfl, rfl, rfl, rfl, rfl⟩ rfl X0.out ?_)
  intro a2 w2 F2 h6 b2'
  refine hKo _ _ ?_
  have D2 := (b2'.block _ (heap_lt X0.out)).trans X0.out
  have B2 := HB.out.trans (b2'.mono HB.out.size)
  by_cases hm : m.right
  case neg =>
    rw [decide_eq_false hm] at h6
    refine wp_cond_true h6 (wp_seq (reg_mono (pn_r2 (by kernel_rfl) _ F2 ?_)))
    intro a3 F3
    exact wp_ret (pn_ret (R := PNew m w) F3 rfl rfl ⟨fun e => absurd e hm, fun _ => rfl, B2⟩)
  rw [decide_eq_true hm] at h6
  refine wp_cond_false h6 (wp_skip (hKp _ _ ?_))
  refine wp_seq (reg_mono (pn_r3 (by kernel_rfl) _ F2 rfl hm D2 ?_))
  intro a3 w3 b c F3 R3 o3 b3
  exact wp_ret (pn_ret (R := PNew m w) F3 rfl rfl ⟨fun _ => ⟨b, c, rfl, R3, fun k hk => Nat.le_trans B2.size (o3 k hk)⟩, fun e => absurd hm e, B2.trans (b3.mono B2.size)⟩)
end Go.Proofs.Ytafjngmdandgmaa
