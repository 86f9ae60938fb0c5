/-
  fitsKind and Right, whole (mkc6.py)
-/
import Derived.Test.YtfoomgdlbkjaeaaGreatZC3
import Derived.Test.YtfoomgdlbkjaeaaGreatZYCl
import Derived.Test.YtfoomgdlbkjaeaaGreatZLast
namespace Go.Proofs.YtfoomgdlbkjaeaaGreat
open Go.RowKit
set_option maxHeartbeats 8000000
set_option maxRecDepth 100000
attribute [local go_sem ↓] Go.wp_at_zero Go.wp_at_succ
set_option linter.unusedSimpArgs false
set_option linter.unusedVariables false
def CM.cells (c : CM) : Array Value := #[.int .i64 c.kind, .string c.topic, .string c.name, .int .i64 c.seq, .string c.key, .string c.val, .int .i64 c.n, .int .i64 c.node, .int .i64 c.ask]
def CM.v (c : CM) : Value := .agg c.cells
structure CM.ok (c : CM) : Prop where
  t : c.topic.size ≤ 9223372036854775807
  m : c.name.size ≤ 9223372036854775807
  y : c.key.size ≤ 9223372036854775807
  v : c.val.size ≤ 9223372036854775807
theorem frame_fk (t : Array Value) (h : t.size = 56) : ∃ u : Nat → Value, t = List.toArray (u 0 :: u 1 :: u 2 :: u 3 :: u 4 :: u 5 :: u 6 :: u 7 :: u 8 :: u 9 :: u 10 :: u 11 :: u 12 :: u 13 :: u 14 :: u 15 :: u 16 :: u 17 :: u 18 :: u 19 :: u 20 :: u 21 :: u 22 :: u 23 :: u 24 :: u 25 :: u 26 :: u 27 :: u 28 :: u 29 :: u 30 :: u 31 :: u 32 :: u 33 :: u 34 :: u 35 :: u 36 :: u 37 :: u 38 :: u 39 :: u 40 :: u 41 :: u 42 :: u 43 :: u 44 :: u 45 :: u 46 :: u 47 :: u 48 :: u 49 :: u 50 :: u 51 :: u 52 :: u 53 :: u 54 :: u 55 :: []) := by
  refine ⟨fun i => t.getD i undef, ?_⟩
  refine Eq.trans (b := ((List.range 56).map fun i => t.getD i undef).toArray) ?_ rfl
  apply Array.ext
  · simp [h]
  · intro k h1 h2
    simp [Array.getD, h1]
structure Vfk where
  v1 : Value
  v2 : Value
  v3 : Value
structure Ffk (a : Act) (v : Vfk) : Prop where
  size : a.tmps.size = 56
  defers : a.defers = []
  s1 : a.tmps.getD 1 undef = v.v1
  s2 : a.tmps.getD 2 undef = v.v2
  s3 : a.tmps.getD 3 undef = v.v3
theorem frx_fk {a : Act} {v1 v2 v3 : Value} (h : Ffk a ⟨v1, v2, v3⟩) : ∃ u : Nat → Value, a = ⟨List.toArray (u 0 :: v1 :: v2 :: v3 :: u 4 :: u 5 :: u 6 :: u 7 :: u 8 :: u 9 :: u 10 :: u 11 :: u 12 :: u 13 :: u 14 :: u 15 :: u 16 :: u 17 :: u 18 :: u 19 :: u 20 :: u 21 :: u 22 :: u 23 :: u 24 :: u 25 :: u 26 :: u 27 :: u 28 :: u 29 :: u 30 :: u 31 :: u 32 :: u 33 :: u 34 :: u 35 :: u 36 :: u 37 :: u 38 :: u 39 :: u 40 :: u 41 :: u 42 :: u 43 :: u 44 :: u 45 :: u 46 :: u 47 :: u 48 :: u 49 :: u 50 :: u 51 :: u 52 :: u 53 :: u 54 :: u 55 :: []), []⟩ := by
  obtain ⟨t', d'⟩ := a
  obtain ⟨hs, hd, q1, q2, q3⟩ := h
  obtain ⟨u, hu⟩ := frame_fk t' hs
  simp only at hd q1 q2 q3
  subst hu hd
  have e1 : u 1 = v1 := q1
  have e2 : u 2 = v2 := q2
  have e3 : u 3 = v3 := q3
  refine ⟨u, ?_⟩
  rw [e1, e2, e3]
theorem fk_r3 {K : Act → World → Prop} {c : Code} (hc : regOf (Tryz.f58.body.getD .skip) 3 = some c) (a : Act) {v : Vfk} {wq : World} {cm : CM} {cb f0 f1 f2 f3 f4 f5 : Nat} (hF : Ffk a v) (h1v : v.v1 = .pointer (some ⟨cb, 0, none⟩)) (hC : wq.heap[cb]? = some (.cells cm.cells 54 (0, 0))) (hI : ∀ w, (Instr.index 131 (.agg needsA) (.int .i64 cm.kind)).run Tryz.prog w = .ok (.agg #[fnV f0, fnV f1, fnV f2, fnV f3, fnV f4, fnV f5]) w)
    (hQ : ∀ a' w' b3, Ffk a' { v with v3 := .pointer (some ⟨b3, 0, none⟩) } → w'.heap[b3]? = some (.cells #[fnV f0, fnV f1, fnV f2, fnV f3, fnV f4, fnV f5] tNeeds (0, 0)) → Below wq.heap.size wq w' → K a' w') :
    Code.wp Tryz.prog c (Exit.then K fun _ _ _ => False) a wq := by
  have HQ := hide hQ
  clear hQ
  obtain ⟨v1, v2, v3⟩ := v
  simp only at h1v HQ
  subst h1v
  obtain ⟨u, rfl⟩ := frx_fk hF
  clear hF
  simp only [Tryz.f58, Option.getD_some, regOf] at hc
  injection hc with hc
  subst hc
  have HI : Hid (∀ w, (Instr.index 131 (.agg needsA) (.int .i64 cm.kind)).run Tryz.prog w = .ok (.agg #[fnV f0, fnV f1, fnV f2, fnV f3, fnV f4, fnV f5]) w) := hI
  clear hI
  refine wp_region_last 5 rfl (by kernel_rfl) rfl rfl (by kernel_rfl) ?_
  intro ops' hops'
  simp only [idle, List.setIfInBounds_toArray, List.set_cons_succ, List.set_cons_zero] at hops'
  subst hops'
  refine wpAny_phi (ns := 56) (uses := (fun i => match i with | 0 => [12] | 1 => [13] | 2 => [14] | 3 => [15] | 4 => [3] | 5 => [] | _ => [])) (by kernel_rfl) (by kernel_rfl) (fun _ w w' => Below w.heap.size w w') (fun w => Below wq.heap.size wq w) (fun _ _ _ h r => h.trans (r.mono h.size)) ((Below.refl _ _).drew) (fun i => match i with | 0 => fun s w => s 12 = .agg needsA | 1 => fun s w => s 13 = .pointer (some ⟨cb, 0, none⟩) | 2 => fun s w => s 14 = .int .i64 cm.kind | 3 => fun s w => s 15 = .agg #[fnV f0, fnV f1, fnV f2, fnV f3, fnV f4, fnV f5] | 4 => fun s w => ∃ b3, s 3 = .pointer (some ⟨b3, 0, none⟩) ∧ wq.heap.size ≤ b3 ∧ w.heap[b3]? = some (.cells #[.nilFunc, .nilFunc, .nilFunc, .nilFunc, .nilFunc, .nilFunc] tNeeds (0, 0)) | 5 => fun s w => True | _ => fun _ _ => True) ?phc ?phh ?pstep ?pdone
  case phc =>
    intro i s s' w hx h
    match i, hx, h with
    | 0, hx, h =>
      have e12 := hx 12 (by simp)
      first | exact (show _ from by simp only [← e12] at *; exact h) | (simp only [e12] at h; exact h)
    | 1, hx, h =>
      have e13 := hx 13 (by simp)
      first | exact (show _ from by simp only [← e13] at *; exact h) | (simp only [e13] at h; exact h)
    | 2, hx, h =>
      have e14 := hx 14 (by simp)
      first | exact (show _ from by simp only [← e14] at *; exact h) | (simp only [e14] at h; exact h)
    | 3, hx, h =>
      have e15 := hx 15 (by simp)
      first | exact (show _ from by simp only [← e15] at *; exact h) | (simp only [e15] at h; exact h)
    | 4, hx, h =>
      have e3 := hx 3 (by simp)
      first | exact (show _ from by simp only [← e3] at *; exact h) | (simp only [e3] at h; exact h)
    | 5, hx, h =>
      exact h
    | (n + 6), _, h => exact h
  case phh =>
    intro i j s w w' hij h hb r
    match i, hij, h with
    | 0, hij, h =>
      exact h
    | 1, hij, h =>
      exact h
    | 2, hij, h =>
      exact h
    | 3, hij, h =>
      exact h
    | 4, hij, h =>
      obtain ⟨b3, h1, h2, h3⟩ := h
      exact ⟨b3, h1, h2, (r.block _ (heap_lt h3)).trans h3⟩
    | 5, hij, h =>
      exact h
    | (n + 6), _, h => exact h
  case pstep =>
    intro i o ho a' w' hsa hb hd
    match i, ho with
    | 0, ho =>
      obtain rfl := Option.some.inj ho
      try dsimp only at hd
      refine wpOp_of rfl rfl ?_
      refine op_call 83 _ _ rfl (enters_of Tryz.func83 (by kernel_rfl) rfl) [] (by simp only [List.map, Act.eval]) (pneeds w') ?_
      rintro e w'' ⟨rfl, b2⟩
      refine ⟨_, rfl, _, rfl, ?_, ?_⟩
      · try dsimp only
        exact (slots_put (ns := 56) (hsa.size.trans rfl) (by decide))
      · exact b2
    | 1, ho =>
      obtain rfl := Option.some.inj ho
      try dsimp only at hd
      have g1 : a'.tmps.getD 1 undef = .pointer (some ⟨cb, 0, none⟩) := hsa.rest 1 (by rfl)
      refine wpOp_of rfl rfl ?_
      refine op_run (v := .pointer (some ⟨cb, 0, none⟩)) (w' := w') ?_ ⟨_, rfl, slots_put (ns := 56) (hsa.size.trans rfl) (by decide), Below.refl _ _⟩
      simp only [execOp, Act.eval, List.map_toArray, List.map_cons, List.map_nil, g1]; first | (go_simp; done) | rfl
    | 2, ho =>
      obtain rfl := Option.some.inj ho
      try dsimp only at hd
      have d1 : a'.tmps.getD 13 undef = .pointer (some ⟨cb, 0, none⟩) := hd 1 (by rfl)
      have y0 : w'.cell? ⟨cb, 0, none⟩ = some (.int .i64 cm.kind) := (hb.cell (p := ⟨cb, 0, none⟩) (heap_lt hC)).trans (box_cell hC 0 rfl)
      refine wpOp_of rfl rfl ?_
      refine op_run (v := .int .i64 cm.kind) (w' := w') ?_ ⟨_, rfl, slots_put (ns := 56) (hsa.size.trans rfl) (by decide), Below.refl _ _⟩
      simp only [execOp, Act.eval, List.map_toArray, List.map_cons, List.map_nil, d1, y0]; first | (go_simp; done) | rfl
    | 3, ho =>
      obtain rfl := Option.some.inj ho
      try dsimp only at hd
      have d0 : a'.tmps.getD 12 undef = .agg needsA := hd 0 (by rfl)
      have d2 : a'.tmps.getD 14 undef = .int .i64 cm.kind := hd 2 (by rfl)
      refine wpOp_of rfl rfl ?_
      refine op_run (v := .agg #[fnV f0, fnV f1, fnV f2, fnV f3, fnV f4, fnV f5]) (w' := w') ?_ ⟨_, rfl, slots_put (ns := 56) (hsa.size.trans rfl) (by decide), Below.refl _ _⟩
      simp only [execOp, Act.eval, d0, d2, Sem.run_bind, HI.out, Result.andThen]; rfl
    | 4, ho =>
      obtain rfl := Option.some.inj ho
      try dsimp only at hd
      refine wpOp_of rfl rfl ?_
      refine op_run (v := Value.pointer (some ⟨w'.heap.size, 0, none⟩)) (w' := w'.alloc (.cells #[.nilFunc, .nilFunc, .nilFunc, .nilFunc, .nilFunc, .nilFunc] tNeeds)) ?_ ⟨_, rfl, ?_, ?_⟩
      · simp only [execOp, Act.eval, List.map_toArray, List.map_cons, List.map_nil]; first | (go_simp; done) | rfl
      · try dsimp only
        exact ⟨_, (slots_put (ns := 56) (hsa.size.trans rfl) (by decide)), hb.size, heap_alloc_new _ _⟩
      · exact (Below.refl _ _).alloc (Nat.le_refl _) _
    | 5, ho =>
      obtain rfl := Option.some.inj ho
      try dsimp only at hd
      refine wpOp_of rfl rfl ?_
      refine op_run (v := undef) (w' := w') ?_ ⟨_, rfl, ?_, ?_⟩
      · rfl
      · try dsimp only
        trivial
      · exact Below.refl _ _
    | (n + 6), ho => exact absurd ho (by simp)
  case pdone =>
    intro a' w' hsa hb hd
    have d3 : a'.tmps.getD 15 undef = .agg #[fnV f0, fnV f1, fnV f2, fnV f3, fnV f4, fnV f5] := hd 3 (by decide)
    have d4 : ∃ b3, a'.tmps.getD 3 undef = .pointer (some ⟨b3, 0, none⟩) ∧ wq.heap.size ≤ b3 ∧ w'.heap[b3]? = some (.cells #[.nilFunc, .nilFunc, .nilFunc, .nilFunc, .nilFunc, .nilFunc] tNeeds (0, 0)) := hd 4 (by decide)
    obtain ⟨b3, d4, h2, h3⟩ := d4
    intro K2 hK2
    have q0 := box_cell h3 0 rfl
    have z0 := box_free h3 0
    have q1 := box_cell h3 1 rfl
    have z1 := box_free h3 1
    have q2 := box_cell h3 2 rfl
    have z2 := box_free h3 2
    have q3 := box_cell h3 3 rfl
    have z3 := box_free h3 3
    have q4 := box_cell h3 4 rfl
    have z4 := box_free h3 4
    have q5 := box_cell h3 5 rfl
    have z5 := box_free h3 5
    refine op_skip (w' := (((((w'.setCell ⟨b3, 0, none⟩ (fnV f0)).setCell ⟨b3, 1, none⟩ (fnV f1)).setCell ⟨b3, 2, none⟩ (fnV f2)).setCell ⟨b3, 3, none⟩ (fnV f3)).setCell ⟨b3, 4, none⟩ (fnV f4)).setCell ⟨b3, 5, none⟩ (fnV f5)) ?_ (hK2 _ _ ?_)
    · simp only [execOp, Act.eval, d3, d4, fnV]
      first | (go_simp; done) | (go_simp; rfl)
    refine HQ.out _ _ b3 ⟨hsa.size.trans rfl, hsa.defers.trans rfl, hsa.rest 1 (by rfl), hsa.rest 2 (by rfl), d4⟩ ?_ ?_
    · have h9 := box_set (box_set (box_set (box_set (box_set (box_set (h3) 0 (fnV f0)) 1 (fnV f1)) 2 (fnV f2)) 3 (fnV f3)) 4 (fnV f4)) 5 (fnV f5)
      simpa using h9
    · exact ((((((hb).setCell (p := ⟨b3, 0, none⟩) h2 _).setCell (p := ⟨b3, 1, none⟩) h2 _).setCell (p := ⟨b3, 2, none⟩) h2 _).setCell (p := ⟨b3, 3, none⟩) h2 _).setCell (p := ⟨b3, 4, none⟩) h2 _).setCell (p := ⟨b3, 5, none⟩) h2 _
theorem fk_r4 {K : Act → World → Prop} {c : Code} (hc : regOf (Tryz.f58.body.getD .skip) 4 = some c) (a : Act) {v : Vfk} {wq : World} {cm : CM} {cb b3 f0 f1 f2 f3 f4 f5 : Nat} {p0 : Bool} {p1 : Bool} {p2 : Bool} {p3 : Bool} {p4 : Bool} {p5 : Bool} (hF : Ffk a v) (h1v : v.v1 = .pointer (some ⟨cb, 0, none⟩)) (h3v : v.v3 = .pointer (some ⟨b3, 0, none⟩)) (hC : wq.heap[cb]? = some (.cells cm.cells 54 (0, 0))) (hB : wq.heap[b3]? = some (.cells #[fnV f0, fnV f1, fnV f2, fnV f3, fnV f4, fnV f5] tNeeds (0, 0))) (e0 : ∀ args w, (callFunc f0 args).run Tryz.prog w = .ok (.enter f0 args) w) (H0 : ∀ w, Calls Tryz.prog f0 #[.string cm.topic] w fun e w' => e = .returned (.bool p0) ∧ w' = w) (e1 : ∀ args w, (callFunc f1 args).run Tryz.prog w = .ok (.enter f1 args) w) (H1 : ∀ w, Calls Tryz.prog f1 #[.string cm.name] w fun e w' => e = .returned (.bool p1) ∧ w' = w) (e2 : ∀ args w, (callFunc f2 args).run Tryz.prog w = .ok (.enter f2 args) w) (H2 : ∀ w, Calls Tryz.prog f2 #[.int .i64 cm.seq] w fun e w' => e = .returned (.bool p2) ∧ w' = w) (e3 : ∀ args w, (callFunc f3 args).run Tryz.prog w = .ok (.enter f3 args) w) (H3 : ∀ w, Calls Tryz.prog f3 #[.string cm.key] w fun e w' => e = .returned (.bool p3) ∧ w' = w) (e4 : ∀ args w, (callFunc f4 args).run Tryz.prog w = .ok (.enter f4 args) w) (H4 : ∀ w, Calls Tryz.prog f4 #[.string cm.val] w fun e w' => e = .returned (.bool p4) ∧ w' = w) (e5 : ∀ args w, (callFunc f5 args).run Tryz.prog w = .ok (.enter f5 args) w) (H5 : ∀ w, Calls Tryz.prog f5 #[.int .i64 cm.n] w fun e w' => e = .returned (.bool p5) ∧ w' = w)
    (hQ : ∀ a', Ffk a' { v with v2 := .bool (p0 && (p1 && (p2 && (p3 && (p4 && p5))))) } → K a' wq) :
    Code.wp Tryz.prog c (Exit.then K fun _ _ _ => False) a wq := by
  have HQ := hide hQ
  clear hQ
  obtain ⟨v1, v2, v3⟩ := v
  simp only at h1v h3v HQ
  subst h1v h3v
  obtain ⟨u, rfl⟩ := frx_fk hF
  clear hF
  simp only [Tryz.f58, Option.getD_some, regOf] at hc
  injection hc with hc
  subst hc
  have J0 := hide H0
  have y0 := box_cell hC 0 rfl
  have x0 := box_cell hB 0 rfl
  have J1 := hide H1
  have y1 := box_cell hC 1 rfl
  have x1 := box_cell hB 1 rfl
  have J2 := hide H2
  have y2 := box_cell hC 2 rfl
  have x2 := box_cell hB 2 rfl
  have J3 := hide H3
  have y3 := box_cell hC 3 rfl
  have x3 := box_cell hB 3 rfl
  have J4 := hide H4
  have y4 := box_cell hC 4 rfl
  have x4 := box_cell hB 4 rfl
  have J5 := hide H5
  have y5 := box_cell hC 5 rfl
  have x5 := box_cell hB 5 rfl
  have y6 := box_cell hC 6 rfl
  simp only [fnV] at x0 x1 x2 x3 x4 x5
  clear H0 H1 H2 H3 H4 H5 hC hB
  cases p0
  · go_wp2_with (first | (go_at_fn f0; refine (J0.out _).mono ?_; rintro e w' ⟨rfl, rfl⟩) | (go_at_fn f1; refine (J1.out _).mono ?_; rintro e w' ⟨rfl, rfl⟩) | (go_at_fn f2; refine (J2.out _).mono ?_; rintro e w' ⟨rfl, rfl⟩) | (go_at_fn f3; refine (J3.out _).mono ?_; rintro e w' ⟨rfl, rfl⟩) | (go_at_fn f4; refine (J4.out _).mono ?_; rintro e w' ⟨rfl, rfl⟩) | (go_at_fn f5; refine (J5.out _).mono ?_; rintro e w' ⟨rfl, rfl⟩))
    exact HQ.out _ ⟨rfl, rfl, rfl, rfl, rfl⟩
  · skip
    cases p1
    · go_wp2_with (first | (go_at_fn f0; refine (J0.out _).mono ?_; rintro e w' ⟨rfl, rfl⟩) | (go_at_fn f1; refine (J1.out _).mono ?_; rintro e w' ⟨rfl, rfl⟩) | (go_at_fn f2; refine (J2.out _).mono ?_; rintro e w' ⟨rfl, rfl⟩) | (go_at_fn f3; refine (J3.out _).mono ?_; rintro e w' ⟨rfl, rfl⟩) | (go_at_fn f4; refine (J4.out _).mono ?_; rintro e w' ⟨rfl, rfl⟩) | (go_at_fn f5; refine (J5.out _).mono ?_; rintro e w' ⟨rfl, rfl⟩))
      exact HQ.out _ ⟨rfl, rfl, rfl, rfl, rfl⟩
    · skip
      cases p2
      · go_wp2_with (first | (go_at_fn f0; refine (J0.out _).mono ?_; rintro e w' ⟨rfl, rfl⟩) | (go_at_fn f1; refine (J1.out _).mono ?_; rintro e w' ⟨rfl, rfl⟩) | (go_at_fn f2; refine (J2.out _).mono ?_; rintro e w' ⟨rfl, rfl⟩) | (go_at_fn f3; refine (J3.out _).mono ?_; rintro e w' ⟨rfl, rfl⟩) | (go_at_fn f4; refine (J4.out _).mono ?_; rintro e w' ⟨rfl, rfl⟩) | (go_at_fn f5; refine (J5.out _).mono ?_; rintro e w' ⟨rfl, rfl⟩))
        exact HQ.out _ ⟨rfl, rfl, rfl, rfl, rfl⟩
      · skip
        cases p3
        · go_wp2_with (first | (go_at_fn f0; refine (J0.out _).mono ?_; rintro e w' ⟨rfl, rfl⟩) | (go_at_fn f1; refine (J1.out _).mono ?_; rintro e w' ⟨rfl, rfl⟩) | (go_at_fn f2; refine (J2.out _).mono ?_; rintro e w' ⟨rfl, rfl⟩) | (go_at_fn f3; refine (J3.out _).mono ?_; rintro e w' ⟨rfl, rfl⟩) | (go_at_fn f4; refine (J4.out _).mono ?_; rintro e w' ⟨rfl, rfl⟩) | (go_at_fn f5; refine (J5.out _).mono ?_; rintro e w' ⟨rfl, rfl⟩))
          exact HQ.out _ ⟨rfl, rfl, rfl, rfl, rfl⟩
        · skip
          cases p4
          · go_wp2_with (first | (go_at_fn f0; refine (J0.out _).mono ?_; rintro e w' ⟨rfl, rfl⟩) | (go_at_fn f1; refine (J1.out _).mono ?_; rintro e w' ⟨rfl, rfl⟩) | (go_at_fn f2; refine (J2.out _).mono ?_; rintro e w' ⟨rfl, rfl⟩) | (go_at_fn f3; refine (J3.out _).mono ?_; rintro e w' ⟨rfl, rfl⟩) | (go_at_fn f4; refine (J4.out _).mono ?_; rintro e w' ⟨rfl, rfl⟩) | (go_at_fn f5; refine (J5.out _).mono ?_; rintro e w' ⟨rfl, rfl⟩))
            exact HQ.out _ ⟨rfl, rfl, rfl, rfl, rfl⟩
          · skip
            cases p5
            · go_wp2_with (first | (go_at_fn f0; refine (J0.out _).mono ?_; rintro e w' ⟨rfl, rfl⟩) | (go_at_fn f1; refine (J1.out _).mono ?_; rintro e w' ⟨rfl, rfl⟩) | (go_at_fn f2; refine (J2.out _).mono ?_; rintro e w' ⟨rfl, rfl⟩) | (go_at_fn f3; refine (J3.out _).mono ?_; rintro e w' ⟨rfl, rfl⟩) | (go_at_fn f4; refine (J4.out _).mono ?_; rintro e w' ⟨rfl, rfl⟩) | (go_at_fn f5; refine (J5.out _).mono ?_; rintro e w' ⟨rfl, rfl⟩))
              exact HQ.out _ ⟨rfl, rfl, rfl, rfl, rfl⟩
            · go_wp2_with (first | (go_at_fn f0; refine (J0.out _).mono ?_; rintro e w' ⟨rfl, rfl⟩) | (go_at_fn f1; refine (J1.out _).mono ?_; rintro e w' ⟨rfl, rfl⟩) | (go_at_fn f2; refine (J2.out _).mono ?_; rintro e w' ⟨rfl, rfl⟩) | (go_at_fn f3; refine (J3.out _).mono ?_; rintro e w' ⟨rfl, rfl⟩) | (go_at_fn f4; refine (J4.out _).mono ?_; rintro e w' ⟨rfl, rfl⟩) | (go_at_fn f5; refine (J5.out _).mono ?_; rintro e w' ⟨rfl, rfl⟩))
              exact HQ.out _ ⟨rfl, rfl, rfl, rfl, rfl⟩
end Go.Proofs.YtfoomgdlbkjaeaaGreat
namespace Go.Proofs.YtfoomgdlbkjaeaaGreat
open Go.RowKit
set_option maxHeartbeats 4000000
attribute [local go_sem ↓] Go.wp_at_zero Go.wp_at_succ
set_option linter.unusedSimpArgs false
set_option linter.unusedVariables false
theorem fk_ret {W : World} {a : Act} {v : Vfk} {b : Bool} {R : Ending → World → Prop} (hF : Ffk a v) (h2 : v.v2 = .bool b) (h : R (.returned (.bool b)) W) :
    bodyPost Tryz.prog Tryz.f58 R .ret a W := by
  have g2 := slot_get (hF.s2.trans h2)
  refine bodyPost_ret (v := .bool b) ?_ hF.defers h
  simp [results, Tryz.results58, go_sem, g2]
theorem fits_row (cm : CM) (w : World) (k1 : 1 ≤ cm.kind) (k2 : cm.kind ≤ 11) {f0 f1 f2 f3 f4 f5 : Nat} {p0 : Bool} {p1 : Bool} {p2 : Bool} {p3 : Bool} {p4 : Bool} {p5 : Bool} (hI : ∀ w, (Instr.index 131 (.agg needsA) (.int .i64 cm.kind)).run Tryz.prog w = .ok (.agg #[fnV f0, fnV f1, fnV f2, fnV f3, fnV f4, fnV f5]) w) (e0 : ∀ args w, (callFunc f0 args).run Tryz.prog w = .ok (.enter f0 args) w) (H0 : ∀ w, Calls Tryz.prog f0 #[.string cm.topic] w fun e w' => e = .returned (.bool p0) ∧ w' = w) (e1 : ∀ args w, (callFunc f1 args).run Tryz.prog w = .ok (.enter f1 args) w) (H1 : ∀ w, Calls Tryz.prog f1 #[.string cm.name] w fun e w' => e = .returned (.bool p1) ∧ w' = w) (e2 : ∀ args w, (callFunc f2 args).run Tryz.prog w = .ok (.enter f2 args) w) (H2 : ∀ w, Calls Tryz.prog f2 #[.int .i64 cm.seq] w fun e w' => e = .returned (.bool p2) ∧ w' = w) (e3 : ∀ args w, (callFunc f3 args).run Tryz.prog w = .ok (.enter f3 args) w) (H3 : ∀ w, Calls Tryz.prog f3 #[.string cm.key] w fun e w' => e = .returned (.bool p3) ∧ w' = w) (e4 : ∀ args w, (callFunc f4 args).run Tryz.prog w = .ok (.enter f4 args) w) (H4 : ∀ w, Calls Tryz.prog f4 #[.string cm.val] w fun e w' => e = .returned (.bool p4) ∧ w' = w) (e5 : ∀ args w, (callFunc f5 args).run Tryz.prog w = .ok (.enter f5 args) w) (H5 : ∀ w, Calls Tryz.prog f5 #[.int .i64 cm.n] w fun e w' => e = .returned (.bool p5) ∧ w' = w) :
    Calls Tryz.prog 58 #[cm.v] w fun e w' => e = .returned (.bool (p0 && (p1 && (p2 && (p3 && (p4 && p5)))))) ∧ Below w.heap.size w w' := by
  have HI := hide hI
  have G0 := hide (And.intro H0 e0)
  have G1 := hide (And.intro H1 e1)
  have G2 := hide (And.intro H2 e2)
  have G3 := hide (And.intro H3 e3)
  have G4 := hide (And.intro H4 e4)
  have G5 := hide (And.intro H5 e5)
  have HX := hide (heap_alloc_new w (.cells cm.cells 54))
  have HB := hide ((Below.refl w.heap.size w).alloc (Nat.le_refl _) (.cells cm.cells 54))
  have HC : Hid (∃ cm' : CM, cm' = cm) := ⟨cm, rfl⟩
  have n1 : ¬ cm.kind < 1 := by omega
  have n2 : ¬ cm.kind > 11 := by omega
  clear hI H0 H1 H2 H3 H4 H5 e0 e1 e2 e3 e4 e5 k1 k2
  simp only [CM.v, CM.cells] at *
  go_enter Tryz.func58, Tryz.ntmps58
  go_upto_region 3 with fail
  rename_i Ko hKo
  refine reg_mono (fk_r3 (cm := cm) (by kernel_rfl) _ (v := ⟨_, _, _⟩) ⟨rfl, rfl, rfl, rfl, rfl⟩ rfl HX.out HI.out fun a' w' b3 hF hB hW => hKo _ _ ?_)
  clear hKo
  refine wp_seq (reg_mono (fk_r4 (by kernel_rfl) _ hF rfl rfl ((hW.block _ (heap_lt HX.out)).trans HX.out) hB G0.out.2 G0.out.1 G1.out.2 G1.out.1 G2.out.2 G2.out.1 G3.out.2 G3.out.1 G4.out.2 G4.out.1 G5.out.2 G5.out.1 fun a2 hF2 => ?_))
  refine wp_ret ?_
  exact fk_ret hF2 rfl ⟨rfl, HB.out.trans (hW.mono HB.out.size)⟩
end Go.Proofs.YtfoomgdlbkjaeaaGreat
namespace Go.Proofs.YtfoomgdlbkjaeaaGreat
open Go.RowKit
set_option maxHeartbeats 2000000
set_option maxRecDepth 100000
attribute [local go_sem ↓] Go.wp_at_zero Go.wp_at_succ
set_option linter.unusedSimpArgs false
set_option linter.unusedVariables false
theorem index_1 (w : World) : (Instr.index 131 (.agg needsA) (.int .i64 1)).run Tryz.prog w = .ok (.agg #[fnV 26, fnV 106, fnV 107, fnV 106, fnV 106, fnV 107]) w := by kernel_rfl
theorem index_2 (w : World) : (Instr.index 131 (.agg needsA) (.int .i64 2)).run Tryz.prog w = .ok (.agg #[fnV 26, fnV 26, fnV 57, fnV 108, fnV 109, fnV 107]) w := by kernel_rfl
theorem index_3 (w : World) : (Instr.index 131 (.agg needsA) (.int .i64 3)).run Tryz.prog w = .ok (.agg #[fnV 26, fnV 26, fnV 107, fnV 106, fnV 106, fnV 110]) w := by kernel_rfl
theorem index_4 (w : World) : (Instr.index 131 (.agg needsA) (.int .i64 4)).run Tryz.prog w = .ok (.agg #[fnV 106, fnV 26, fnV 107, fnV 106, fnV 106, fnV 107]) w := by kernel_rfl
theorem index_5 (w : World) : (Instr.index 131 (.agg needsA) (.int .i64 5)).run Tryz.prog w = .ok (.agg #[fnV 106, fnV 26, fnV 107, fnV 106, fnV 106, fnV 111]) w := by kernel_rfl
theorem index_6 (w : World) : (Instr.index 131 (.agg needsA) (.int .i64 6)).run Tryz.prog w = .ok (.agg #[fnV 106, fnV 26, fnV 107, fnV 106, fnV 106, fnV 57]) w := by kernel_rfl
theorem index_7 (w : World) : (Instr.index 131 (.agg needsA) (.int .i64 7)).run Tryz.prog w = .ok (.agg #[fnV 106, fnV 26, fnV 107, fnV 106, fnV 106, fnV 57]) w := by kernel_rfl
theorem index_8 (w : World) : (Instr.index 131 (.agg needsA) (.int .i64 8)).run Tryz.prog w = .ok (.agg #[fnV 26, fnV 106, fnV 107, fnV 106, fnV 106, fnV 57]) w := by kernel_rfl
theorem index_9 (w : World) : (Instr.index 131 (.agg needsA) (.int .i64 9)).run Tryz.prog w = .ok (.agg #[fnV 26, fnV 106, fnV 107, fnV 106, fnV 106, fnV 57]) w := by kernel_rfl
theorem index_10 (w : World) : (Instr.index 131 (.agg needsA) (.int .i64 10)).run Tryz.prog w = .ok (.agg #[fnV 106, fnV 106, fnV 107, fnV 106, fnV 106, fnV 56]) w := by kernel_rfl
theorem index_11 (w : World) : (Instr.index 131 (.agg needsA) (.int .i64 11)).run Tryz.prog w = .ok (.agg #[fnV 106, fnV 106, fnV 107, fnV 106, fnV 106, fnV 56]) w := by kernel_rfl
theorem fits_any (c : CM) (hc : c.ok) (k1 : 1 ≤ c.kind) (k2 : c.kind ≤ 11) (w : World) :
    Calls Tryz.prog 58 #[c.v] w fun e w' => e = .returned (.bool (fitsB c)) ∧ Below w.heap.size w w' := by
  obtain ⟨k, t, m, s, y, v, n, o, a⟩ := c
  have h := hc
  simp only at k1 k2
  have hk : k = 1 ∨ k = 2 ∨ k = 3 ∨ k = 4 ∨ k = 5 ∨ k = 6 ∨ k = 7 ∨ k = 8 ∨ k = 9 ∨ k = 10 ∨ k = 11 := by omega
  rcases hk with rfl | rfl | rfl | rfl | rfl | rfl | rfl | rfl | rfl | rfl | rfl
  · refine (fits_row ⟨1, t, m, s, y, v, n, o, a⟩ w k1 k2 index_1 (enters_of Tryz.func26 (by kernel_rfl) rfl) (fun w => pword t h.t w) (enters_of Tryz.func106 (by kernel_rfl) rfl) (fun w => pnotext m w) (enters_of Tryz.func107 (by kernel_rfl) rfl) (fun w => pnonum s w) (enters_of Tryz.func106 (by kernel_rfl) rfl) (fun w => pnotext y w) (enters_of Tryz.func106 (by kernel_rfl) rfl) (fun w => pnotext v w) (enters_of Tryz.func107 (by kernel_rfl) rfl) (fun w => pnonum n w)).mono ?_
    rintro e w' ⟨rfl, hb⟩
    exact ⟨rfl, hb⟩
  · refine (fits_row ⟨2, t, m, s, y, v, n, o, a⟩ w k1 k2 index_2 (enters_of Tryz.func26 (by kernel_rfl) rfl) (fun w => pword t h.t w) (enters_of Tryz.func26 (by kernel_rfl) rfl) (fun w => pword m h.m w) (enters_of Tryz.func57 (by kernel_rfl) rfl) (fun w => pnumber s w) (enters_of Tryz.func108 (by kernel_rfl) rfl) (fun w => pkey y h.y w) (enters_of Tryz.func109 (by kernel_rfl) rfl) (fun w => pvalue v h.v w) (enters_of Tryz.func107 (by kernel_rfl) rfl) (fun w => pnonum n w)).mono ?_
    rintro e w' ⟨rfl, hb⟩
    exact ⟨rfl, hb⟩
  · refine (fits_row ⟨3, t, m, s, y, v, n, o, a⟩ w k1 k2 index_3 (enters_of Tryz.func26 (by kernel_rfl) rfl) (fun w => pword t h.t w) (enters_of Tryz.func26 (by kernel_rfl) rfl) (fun w => pword m h.m w) (enters_of Tryz.func107 (by kernel_rfl) rfl) (fun w => pnonum s w) (enters_of Tryz.func106 (by kernel_rfl) rfl) (fun w => pnotext y w) (enters_of Tryz.func106 (by kernel_rfl) rfl) (fun w => pnotext v w) (enters_of Tryz.func110 (by kernel_rfl) rfl) (fun w => pminus n w)).mono ?_
    rintro e w' ⟨rfl, hb⟩
    exact ⟨rfl, hb⟩
  · refine (fits_row ⟨4, t, m, s, y, v, n, o, a⟩ w k1 k2 index_4 (enters_of Tryz.func106 (by kernel_rfl) rfl) (fun w => pnotext t w) (enters_of Tryz.func26 (by kernel_rfl) rfl) (fun w => pword m h.m w) (enters_of Tryz.func107 (by kernel_rfl) rfl) (fun w => pnonum s w) (enters_of Tryz.func106 (by kernel_rfl) rfl) (fun w => pnotext y w) (enters_of Tryz.func106 (by kernel_rfl) rfl) (fun w => pnotext v w) (enters_of Tryz.func107 (by kernel_rfl) rfl) (fun w => pnonum n w)).mono ?_
    rintro e w' ⟨rfl, hb⟩
    exact ⟨rfl, hb⟩
  · refine (fits_row ⟨5, t, m, s, y, v, n, o, a⟩ w k1 k2 index_5 (enters_of Tryz.func106 (by kernel_rfl) rfl) (fun w => pnotext t w) (enters_of Tryz.func26 (by kernel_rfl) rfl) (fun w => pword m h.m w) (enters_of Tryz.func107 (by kernel_rfl) rfl) (fun w => pnonum s w) (enters_of Tryz.func106 (by kernel_rfl) rfl) (fun w => pnotext y w) (enters_of Tryz.func106 (by kernel_rfl) rfl) (fun w => pnotext v w) (enters_of Tryz.func111 (by kernel_rfl) rfl) (fun w => pmany n w)).mono ?_
    rintro e w' ⟨rfl, hb⟩
    exact ⟨rfl, hb⟩
  · refine (fits_row ⟨6, t, m, s, y, v, n, o, a⟩ w k1 k2 index_6 (enters_of Tryz.func106 (by kernel_rfl) rfl) (fun w => pnotext t w) (enters_of Tryz.func26 (by kernel_rfl) rfl) (fun w => pword m h.m w) (enters_of Tryz.func107 (by kernel_rfl) rfl) (fun w => pnonum s w) (enters_of Tryz.func106 (by kernel_rfl) rfl) (fun w => pnotext y w) (enters_of Tryz.func106 (by kernel_rfl) rfl) (fun w => pnotext v w) (enters_of Tryz.func57 (by kernel_rfl) rfl) (fun w => pnumber n w)).mono ?_
    rintro e w' ⟨rfl, hb⟩
    exact ⟨rfl, hb⟩
  · refine (fits_row ⟨7, t, m, s, y, v, n, o, a⟩ w k1 k2 index_7 (enters_of Tryz.func106 (by kernel_rfl) rfl) (fun w => pnotext t w) (enters_of Tryz.func26 (by kernel_rfl) rfl) (fun w => pword m h.m w) (enters_of Tryz.func107 (by kernel_rfl) rfl) (fun w => pnonum s w) (enters_of Tryz.func106 (by kernel_rfl) rfl) (fun w => pnotext y w) (enters_of Tryz.func106 (by kernel_rfl) rfl) (fun w => pnotext v w) (enters_of Tryz.func57 (by kernel_rfl) rfl) (fun w => pnumber n w)).mono ?_
    rintro e w' ⟨rfl, hb⟩
    exact ⟨rfl, hb⟩
  · refine (fits_row ⟨8, t, m, s, y, v, n, o, a⟩ w k1 k2 index_8 (enters_of Tryz.func26 (by kernel_rfl) rfl) (fun w => pword t h.t w) (enters_of Tryz.func106 (by kernel_rfl) rfl) (fun w => pnotext m w) (enters_of Tryz.func107 (by kernel_rfl) rfl) (fun w => pnonum s w) (enters_of Tryz.func106 (by kernel_rfl) rfl) (fun w => pnotext y w) (enters_of Tryz.func106 (by kernel_rfl) rfl) (fun w => pnotext v w) (enters_of Tryz.func57 (by kernel_rfl) rfl) (fun w => pnumber n w)).mono ?_
    rintro e w' ⟨rfl, hb⟩
    exact ⟨rfl, hb⟩
  · refine (fits_row ⟨9, t, m, s, y, v, n, o, a⟩ w k1 k2 index_9 (enters_of Tryz.func26 (by kernel_rfl) rfl) (fun w => pword t h.t w) (enters_of Tryz.func106 (by kernel_rfl) rfl) (fun w => pnotext m w) (enters_of Tryz.func107 (by kernel_rfl) rfl) (fun w => pnonum s w) (enters_of Tryz.func106 (by kernel_rfl) rfl) (fun w => pnotext y w) (enters_of Tryz.func106 (by kernel_rfl) rfl) (fun w => pnotext v w) (enters_of Tryz.func57 (by kernel_rfl) rfl) (fun w => pnumber n w)).mono ?_
    rintro e w' ⟨rfl, hb⟩
    exact ⟨rfl, hb⟩
  · refine (fits_row ⟨10, t, m, s, y, v, n, o, a⟩ w k1 k2 index_10 (enters_of Tryz.func106 (by kernel_rfl) rfl) (fun w => pnotext t w) (enters_of Tryz.func106 (by kernel_rfl) rfl) (fun w => pnotext m w) (enters_of Tryz.func107 (by kernel_rfl) rfl) (fun w => pnonum s w) (enters_of Tryz.func106 (by kernel_rfl) rfl) (fun w => pnotext y w) (enters_of Tryz.func106 (by kernel_rfl) rfl) (fun w => pnotext v w) (enters_of Tryz.func56 (by kernel_rfl) rfl) (fun w => pnode n w)).mono ?_
    rintro e w' ⟨rfl, hb⟩
    exact ⟨rfl, hb⟩
  · refine (fits_row ⟨11, t, m, s, y, v, n, o, a⟩ w k1 k2 index_11 (enters_of Tryz.func106 (by kernel_rfl) rfl) (fun w => pnotext t w) (enters_of Tryz.func106 (by kernel_rfl) rfl) (fun w => pnotext m w) (enters_of Tryz.func107 (by kernel_rfl) rfl) (fun w => pnonum s w) (enters_of Tryz.func106 (by kernel_rfl) rfl) (fun w => pnotext y w) (enters_of Tryz.func106 (by kernel_rfl) rfl) (fun w => pnotext v w) (enters_of Tryz.func56 (by kernel_rfl) rfl) (fun w => pnode n w)).mono ?_
    rintro e w' ⟨rfl, hb⟩
    exact ⟨rfl, hb⟩
theorem fits_no (c : CM) (hk : kindOk c.kind = false) (w : World) :
    Calls Tryz.prog 58 #[c.v] w fun e w' => e = .returned (.bool false) ∧ Below w.heap.size w w' := by
  obtain ⟨k, t, m, s, y, v, n, o, a⟩ := c
  simp only [CM.v, CM.cells, kindOk] at *
  by_cases h1 : k < 1
  · clear hk
    go_enter Tryz.func58, Tryz.ntmps58
    go_wp2
    go_ret
    exact ⟨rfl, (Below.refl _ _).alloc (Nat.le_refl _) _⟩
  · have h2 : k > 11 := by
      by_cases h3 : k ≤ 11
      · rw [decide_eq_true (show 1 ≤ k by omega), decide_eq_true h3] at hk
        cases hk
      · omega
    clear hk
    go_enter Tryz.func58, Tryz.ntmps58
    go_wp2
    go_ret
    exact ⟨rfl, (Below.refl _ _).alloc (Nat.le_refl _) _⟩
theorem pfits (c : CM) (hc : c.ok) (w : World) :
    Calls Tryz.prog 58 #[c.v] w fun e w' => e = .returned (.bool (kindOk c.kind && fitsB c)) ∧ Below w.heap.size w w' := by
  by_cases h : kindOk c.kind = true
  · have h' := h
    unfold kindOk at h'
    simp only [Bool.and_eq_true, decide_eq_true_eq] at h'
    rw [h]
    exact fits_any c hc h'.1 h'.2 w
  · rw [Bool.not_eq_true] at h
    rw [h]
    exact fits_no c h w
theorem pright (c : CM) (hc : c.ok) (w : World) :
    Calls Tryz.prog 29 #[c.v] w fun e w' => e = .returned (.bool c.right) ∧ Below w.heap.size w w' := by
  have HN := hide (fun w => pnode c.node w)
  have HA := hide (fun w => pnumber c.ask w)
  have HF := hide (pfits c hc)
  unfold CM.right
  generalize nodeB c.node = p1 at *
  generalize greatB c.ask = p2 at *
  generalize (kindOk c.kind && fitsB c) = p3 at *
  obtain ⟨k, t, m, s, y, v, n, o, a⟩ := c
  clear hc
  simp only [CM.v, CM.cells] at *
  cases p1
  · go_enter Tryz.func29, Tryz.ntmps29
    go_wp2_with fail
    refine (HN.out _).mono ?_
    rintro e w' ⟨rfl, rfl⟩
    go_wp2
    go_ret
    exact ⟨rfl, (Below.refl _ _).alloc (Nat.le_refl _) _⟩
  · cases p2
    · go_enter Tryz.func29, Tryz.ntmps29
      go_wp2_with fail
      refine (HN.out _).mono ?_
      rintro e w' ⟨rfl, rfl⟩
      go_wp2_with fail
      refine (HA.out _).mono ?_
      rintro e w' ⟨rfl, rfl⟩
      go_wp2
      go_ret
      exact ⟨rfl, (Below.refl _ _).alloc (Nat.le_refl _) _⟩
    · go_enter Tryz.func29, Tryz.ntmps29
      go_wp2_with fail
      refine (HN.out _).mono ?_
      rintro e w' ⟨rfl, rfl⟩
      go_wp2_with fail
      refine (HA.out _).mono ?_
      rintro e w' ⟨rfl, rfl⟩
      go_wp2_with fail
      refine (HF.out _).mono ?_
      rintro e w3 ⟨rfl, b3⟩
      have B3 : Hid (Below w.heap.size w w3) := ((Below.refl _ _).alloc (Nat.le_refl _) _).trans (b3.mono (by simp))
      clear b3
      cases p3
      · go_wp2
        go_ret
        exact ⟨rfl, B3.out⟩
      · go_wp2
        go_ret
        exact ⟨rfl, B3.out⟩
end Go.Proofs.YtfoomgdlbkjaeaaGreat
