/-
  fitsKind: the region that takes a row of the table (mkc3.py)
-/
import Derived.Test.YtominplelmbecaaZC3
import Derived.Test.YtominplelmbecaaZGN
namespace Go.Proofs.Ytominplelmbecaa
open Go.RowKit

attribute [local go_sem ↓] Go.wp_at_zero Go.wp_at_succ
set_option linter.unusedSimpArgs false
set_option linter.unusedVariables false
def CM.cells (c : CM) : Array Value := #[.int .i64 c.kind, .string c.topic, .string c.name, .int .i64 c.seq, .string c.key, .string c.val, .int .i64 c.n, .int .i64 c.node, .int .i64 c.ask]
def CM.v (c : CM) : Value := .agg c.cells
/-- What a command of the model's memory is. -/
structure CM.ok (c : CM) : Prop where
  t : c.topic.size ≤ 9223372036854775807
  m : c.name.size ≤ 9223372036854775807
  y : c.key.size ≤ 9223372036854775807
  v : c.val.size ≤ 9223372036854775807
set_option maxRecDepth 100000 in
theorem frame_fk (t : Array Value) (h : t.size = 56) : ∃ u : Nat → Value, t = List.toArray (u 0 :: u 1 :: u 2 :: u 3 :: u 4 :: u 5 :: u 6 :: u 7 :: u 8 :: u 9 :: u 10 :: u 11 :: u 12 :: u 13 :: u 14 :: u 15 :: u 16 :: u 17 :: u 18 :: u 19 :: u 20 :: u 21 :: u 22 :: u 23 :: u 24 :: u 25 :: u 26 :: u 27 :: u 28 :: u 29 :: u 30 :: u 31 :: u 32 :: u 33 :: u 34 :: u 35 :: u 36 :: u 37 :: u 38 :: u 39 :: u 40 :: u 41 :: u 42 :: u 43 :: u 44 :: u 45 :: u 46 :: u 47 :: u 48 :: u 49 :: u 50 :: u 51 :: u 52 :: u 53 :: u 54 :: u 55 :: []) := by
  refine ⟨fun i => t.getD i undef, ?_⟩
  have e : (List.toArray ((fun i => t.getD i undef) 0 :: (fun i => t.getD i undef) 1 :: (fun i => t.getD i undef) 2 :: (fun i => t.getD i undef) 3 :: (fun i => t.getD i undef) 4 :: (fun i => t.getD i undef) 5 :: (fun i => t.getD i undef) 6 :: (fun i => t.getD i undef) 7 :: (fun i => t.getD i undef) 8 :: (fun i => t.getD i undef) 9 :: (fun i => t.getD i undef) 10 :: (fun i => t.getD i undef) 11 :: (fun i => t.getD i undef) 12 :: (fun i => t.getD i undef) 13 :: (fun i => t.getD i undef) 14 :: (fun i => t.getD i undef) 15 :: (fun i => t.getD i undef) 16 :: (fun i => t.getD i undef) 17 :: (fun i => t.getD i undef) 18 :: (fun i => t.getD i undef) 19 :: (fun i => t.getD i undef) 20 :: (fun i => t.getD i undef) 21 :: (fun i => t.getD i undef) 22 :: (fun i => t.getD i undef) 23 :: (fun i => t.getD i undef) 24 :: (fun i => t.getD i undef) 25 :: (fun i => t.getD i undef) 26 :: (fun i => t.getD i undef) 27 :: (fun i => t.getD i undef) 28 :: (fun i => t.getD i undef) 29 :: (fun i => t.getD i undef) 30 :: (fun i => t.getD i undef) 31 :: (fun i => t.getD i undef) 32 :: (fun i => t.getD i undef) 33 :: (fun i => t.getD i undef) 34 :: (fun i => t.getD i undef) 35 :: (fun i => t.getD i undef) 36 :: (fun i => t.getD i undef) 37 :: (fun i => t.getD i undef) 38 :: (fun i => t.getD i undef) 39 :: (fun i => t.getD i undef) 40 :: (fun i => t.getD i undef) 41 :: (fun i => t.getD i undef) 42 :: (fun i => t.getD i undef) 43 :: (fun i => t.getD i undef) 44 :: (fun i => t.getD i undef) 45 :: (fun i => t.getD i undef) 46 :: (fun i => t.getD i undef) 47 :: (fun i => t.getD i undef) 48 :: (fun i => t.getD i undef) 49 :: (fun i => t.getD i undef) 50 :: (fun i => t.getD i undef) 51 :: (fun i => t.getD i undef) 52 :: (fun i => t.getD i undef) 53 :: (fun i => t.getD i undef) 54 :: (fun i => t.getD i undef) 55 :: []) : Array Value) = ((List.range 56).map fun i => t.getD i undef).toArray := rfl
  refine Eq.trans ?_ e.symm
  apply Array.ext
  · simp [h]
  · intro k h1 h2
    simp [Array.getD, h1]
/-- The slots that matter. -/
structure Vfk where
  v1 : Value
  v2 : Value
  v3 : Value
structure Ffk (a : Act) (v : Vfk) : Prop where
  size : a.tmps.size = 56
  defers : a.defers = []
  s1 : a.tmps.getD 1 undef = v.v1
  s2 : a.tmps.getD 2 undef = v.v2
  s3 : a.tmps.getD 3 undef = v.v3
set_option maxHeartbeats 8000000 in
set_option maxRecDepth 100000 in
theorem fk_r3 {K : Act → World → Prop} {c : Code} (hc : regOf (Try.f52.body.getD .skip) 3 = some c) (a : Act) {v : Vfk} {wq : World} {cm : CM} {cb f0 f1 f2 f3 f4 f5 : Nat} (hF : Ffk a v) (h1v : v.v1 = .pointer (some ⟨cb, 0, none⟩)) (hC : wq.heap[cb]? = some (.cells cm.cells 74 (0, 0))) (hI : ∀ w, (Instr.index 110 (.agg needsA) (.int .i64 cm.kind)).run Try.prog w = .ok (.agg #[fnV f0, fnV f1, fnV f2, fnV f3, fnV f4, fnV f5]) w)
    (hQ : ∀ a' w' b3, Ffk a' { v with v3 := .pointer (some ⟨b3, 0, none⟩) } → w'.heap[b3]? = some (.cells #[fnV f0, fnV f1, fnV f2, fnV f3, fnV f4, fnV f5] tNeeds (0, 0)) → Below wq.heap.size wq w' → K a' w') :
    Code.wp Try.prog c (Exit.then K fun _ _ _ => False) a wq := by
  have HQ := hide hQ
  clear hQ
  obtain ⟨t', d'⟩ := a
  obtain ⟨v1, v2, v3⟩ := v
  simp only at h1v HQ
  subst h1v
  obtain ⟨hs1, hd1, q1, q2, q3⟩ := hF
  obtain ⟨u, hu⟩ := frame_fk t' hs1
  simp only at hd1 q1 q2 q3
  subst hu hd1
  have e1 : u 1 = .pointer (some ⟨cb, 0, none⟩) := q1
  have e2 : u 2 = v2 := q2
  have e3 : u 3 = v3 := q3
  rw [e1, e2, e3]
  clear q1 e1 q2 e2 q3 e3 hs1
  simp only [Try.f52, Option.getD_some, regOf] at hc
  injection hc with hc
  subst hc
  generalize u 0 = u0
  generalize u 4 = u4
  generalize u 5 = u5
  generalize u 6 = u6
  generalize u 7 = u7
  generalize u 8 = u8
  generalize u 9 = u9
  generalize u 10 = u10
  generalize u 11 = u11
  generalize u 12 = u12
  generalize u 13 = u13
  generalize u 14 = u14
  generalize u 15 = u15
  generalize u 16 = u16
  generalize u 17 = u17
  generalize u 18 = u18
  generalize u 19 = u19
  generalize u 20 = u20
  generalize u 21 = u21
  generalize u 22 = u22
  generalize u 23 = u23
  generalize u 24 = u24
  generalize u 25 = u25
  generalize u 26 = u26
  generalize u 27 = u27
  generalize u 28 = u28
  generalize u 29 = u29
  generalize u 30 = u30
  generalize u 31 = u31
  generalize u 32 = u32
  generalize u 33 = u33
  generalize u 34 = u34
  generalize u 35 = u35
  generalize u 36 = u36
  generalize u 37 = u37
  generalize u 38 = u38
  generalize u 39 = u39
  generalize u 40 = u40
  generalize u 41 = u41
  generalize u 42 = u42
  generalize u 43 = u43
  generalize u 44 = u44
  generalize u 45 = u45
  generalize u 46 = u46
  generalize u 47 = u47
  generalize u 48 = u48
  generalize u 49 = u49
  generalize u 50 = u50
  generalize u 51 = u51
  generalize u 52 = u52
  generalize u 53 = u53
  generalize u 54 = u54
  generalize u 55 = u55
  clear u
  have HI : Hid (∀ w, (Instr.index 110 (.agg needsA) (.int .i64 cm.kind)).run Try.prog w = .ok (.agg #[fnV f0, fnV f1, fnV f2, fnV f3, fnV f4, fnV f5]) w) := hI
  clear hI
  refine wp_region_last 5 rfl (by kernel_rfl) rfl rfl (by kernel_rfl) ?_
  intro ops' hops'
  simp only [idle, List.setIfInBounds_toArray, List.set_cons_succ, List.set_cons_zero] at hops'
  subst hops'
  refine wpAny_phi (ns := 56) (uses := (fun i => match i with | 0 => [12] | 1 => [13] | 2 => [14] | 3 => [15] | 4 => [3] | 5 => [] | _ => [])) (by kernel_rfl) (by kernel_rfl) (fun _ w w' => Below w.heap.size w w') (fun w => Below wq.heap.size wq w) (fun _ _ _ h r => h.trans (r.mono h.size)) ((Below.refl _ _).drew) (fun i => match i with | 0 => fun s w => s 12 = .agg needsA | 1 => fun s w => s 13 = .pointer (some ⟨cb, 0, none⟩) | 2 => fun s w => s 14 = .int .i64 cm.kind | 3 => fun s w => s 15 = .agg #[fnV f0, fnV f1, fnV f2, fnV f3, fnV f4, fnV f5] | 4 => fun s w => ∃ b3, s 3 = .pointer (some ⟨b3, 0, none⟩) ∧ wq.heap.size ≤ b3 ∧ w.heap[b3]? = some (.cells #[.nilFunc, .nilFunc, .nilFunc, .nilFunc, .nilFunc, .nilFunc] tNeeds (0, 0)) | 5 => fun s w => True | _ => fun _ _ => True) ?phc ?phh ?pstep ?pdone
  case phc =>
    intro i s s' w hx h
    match i, hx, h with
    | 0, hx, h =>
      have e12 := hx 12 (by simp)
      first | exact (show _ from by simp only [← e12] at *; exact h) | (simp only [e12] at h; exact h)
    | 1, hx, h =>
      have e13 := hx 13 (by simp)
      first | exact (show _ from by simp only [← e13] at *; exact h) | (simp only [e13] at h; exact h)
    | 2, hx, h =>
      have e14 := hx 14 (by simp)
      first | exact (show _ from by simp only [← e14] at *; exact h) | (simp only [e14] at h; exact h)
    | 3, hx, h =>
      have e15 := hx 15 (by simp)
      first | exact (show _ from by simp only [← e15] at *; exact h) | (simp only [e15] at h; exact h)
    | 4, hx, h =>
      have e3 := hx 3 (by simp)
      first | exact (show _ from by simp only [← e3] at *; exact h) | (simp only [e3] at h; exact h)
    | 5, hx, h =>
      exact h
    | (n + 6), _, h => exact h
  case phh =>
    intro i j s w w' hij h hb r
    match i, hij, h with
    | 0, hij, h =>
      exact h
    | 1, hij, h =>
      exact h
    | 2, hij, h =>
      exact h
    | 3, hij, h =>
      exact h
    | 4, hij, h =>
      obtain ⟨b3, h1, h2, h3⟩ := h
      exact ⟨b3, h1, h2, (r.block _ (heap_lt h3)).trans h3⟩
    | 5, hij, h =>
      exact h
    | (n + 6), _, h => exact h
  case pstep =>
    intro i o ho a' w' hsa hb hd
    match i, ho with
    | 0, ho =>
      obtain rfl := Option.some.inj ho
      try dsimp only at hd
      refine wpOp_of rfl rfl ?_
      refine op_call 60 _ _ rfl (enters_of Try.func60 (by kernel_rfl) rfl) [] (by simp only [List.map, Act.eval]) (pneeds w') ?_
      rintro e w'' ⟨rfl, b2⟩
      refine ⟨_, rfl, _, rfl, ?_, ?_⟩
      · try dsimp only
        exact (slots_put (ns := 56) (hsa.size.trans rfl) (by decide))
      · exact b2
    | 1, ho =>
      obtain rfl := Option.some.inj ho
      try dsimp only at hd
      have g1 : a'.tmps.getD 1 undef = .pointer (some ⟨cb, 0, none⟩) := hsa.rest 1 (by rfl)
      refine wpOp_of rfl rfl ?_
      refine op_run (v := .pointer (some ⟨cb, 0, none⟩)) (w' := w') ?_ ⟨_, rfl, ?_, ?_⟩
      · simp only [execOp, Act.eval, List.map_toArray, List.map_cons, List.map_nil, g1]; first | (go_simp; done) | rfl
      · try dsimp only
        exact (slots_put (ns := 56) (hsa.size.trans rfl) (by decide))
      · exact Below.refl _ _
    | 2, ho =>
      obtain rfl := Option.some.inj ho
      try dsimp only at hd
      have d1 : a'.tmps.getD 13 undef = .pointer (some ⟨cb, 0, none⟩) := hd 1 (by rfl)
      have y0 : w'.cell? ⟨cb, 0, none⟩ = some (.int .i64 cm.kind) := (hb.cell (p := ⟨cb, 0, none⟩) (heap_lt hC)).trans (box_cell hC 0 rfl)
      refine wpOp_of rfl rfl ?_
      refine op_run (v := .int .i64 cm.kind) (w' := w') ?_ ⟨_, rfl, ?_, ?_⟩
      · simp only [execOp, Act.eval, List.map_toArray, List.map_cons, List.map_nil, d1, y0]; first | (go_simp; done) | rfl
      · try dsimp only
        exact (slots_put (ns := 56) (hsa.size.trans rfl) (by decide))
      · exact Below.refl _ _
    | 3, ho =>
      obtain rfl := Option.some.inj ho
      try dsimp only at hd
      have d0 : a'.tmps.getD 12 undef = .agg needsA := hd 0 (by rfl)
      have d2 : a'.tmps.getD 14 undef = .int .i64 cm.kind := hd 2 (by rfl)
      refine wpOp_of rfl rfl ?_
      refine op_run (v := .agg #[fnV f0, fnV f1, fnV f2, fnV f3, fnV f4, fnV f5]) (w' := w') ?_ ⟨_, rfl, ?_, ?_⟩
      · simp only [execOp, Act.eval, d0, d2, Sem.run_bind, HI.out, Result.andThen]; rfl
      · try dsimp only
        exact (slots_put (ns := 56) (hsa.size.trans rfl) (by decide))
      · exact Below.refl _ _
    | 4, ho =>
      obtain rfl := Option.some.inj ho
      try dsimp only at hd
      refine wpOp_of rfl rfl ?_
      refine op_run (v := Value.pointer (some ⟨w'.heap.size, 0, none⟩)) (w' := w'.alloc (.cells #[.nilFunc, .nilFunc, .nilFunc, .nilFunc, .nilFunc, .nilFunc] tNeeds)) ?_ ⟨_, rfl, ?_, ?_⟩
      · simp only [execOp, Act.eval, List.map_toArray, List.map_cons, List.map_nil]; first | (go_simp; done) | rfl
      · try dsimp only
        exact ⟨_, (slots_put (ns := 56) (hsa.size.trans rfl) (by decide)), hb.size, heap_alloc_new _ _⟩
      · exact (Below.refl _ _).alloc (Nat.le_refl _) _
    | 5, ho =>
      obtain rfl := Option.some.inj ho
      try dsimp only at hd
      refine wpOp_of rfl rfl ?_
      refine op_run (v := undef) (w' := w') ?_ ⟨_, rfl, ?_, ?_⟩
      · rfl
      · try dsimp only
        trivial
      · exact Below.refl _ _
    | (n + 6), ho => exact absurd ho (by simp)
  case pdone =>
    intro a' w' hsa hb hd
    have d0 : a'.tmps.getD 12 undef = .agg needsA := hd 0 (by decide)
    have d1 : a'.tmps.getD 13 undef = .pointer (some ⟨cb, 0, none⟩) := hd 1 (by decide)
    have d2 : a'.tmps.getD 14 undef = .int .i64 cm.kind := hd 2 (by decide)
    have d3 : a'.tmps.getD 15 undef = .agg #[fnV f0, fnV f1, fnV f2, fnV f3, fnV f4, fnV f5] := hd 3 (by decide)
    have d4 : ∃ b3, a'.tmps.getD 3 undef = .pointer (some ⟨b3, 0, none⟩) ∧ wq.heap.size ≤ b3 ∧ w'.heap[b3]? = some (.cells #[.nilFunc, .nilFunc, .nilFunc, .nilFunc, .nilFunc, .nilFunc] tNeeds (0, 0)) := hd 4 (by decide)
    have d5 : True := hd 5 (by decide)
    obtain ⟨b3, d4, h2, h3⟩ := d4
    intro K2 hK2
    have q0 := box_cell h3 0 rfl
    have z0 := box_free h3 0
    have q1 := box_cell h3 1 rfl
    have z1 := box_free h3 1
    have q2 := box_cell h3 2 rfl
    have z2 := box_free h3 2
    have q3 := box_cell h3 3 rfl
    have z3 := box_free h3 3
    have q4 := box_cell h3 4 rfl
    have z4 := box_free h3 4
    have q5 := box_cell h3 5 rfl
    have z5 := box_free h3 5
    refine op_skip (w' := (((((w'.setCell ⟨b3, 0, none⟩ (fnV f0)).setCell ⟨b3, 1, none⟩ (fnV f1)).setCell ⟨b3, 2, none⟩ (fnV f2)).setCell ⟨b3, 3, none⟩ (fnV f3)).setCell ⟨b3, 4, none⟩ (fnV f4)).setCell ⟨b3, 5, none⟩ (fnV f5)) ?_ (hK2 _ _ ?_)
    · simp only [execOp, Act.eval, d3, d4, fnV]
      first | (go_simp; done) | (go_simp; rfl)
    refine HQ.out _ _ b3 ⟨hsa.size.trans rfl, hsa.defers.trans rfl, hsa.rest 1 (by rfl), hsa.rest 2 (by rfl), d4⟩ ?_ ?_
    · have h9 := box_set (box_set (box_set (box_set (box_set (box_set (h3) 0 (fnV f0)) 1 (fnV f1)) 2 (fnV f2)) 3 (fnV f3)) 4 (fnV f4)) 5 (fnV f5)
      simpa using h9
    · exact ((((((hb).setCell (p := ⟨b3, 0, none⟩) h2 _).setCell (p := ⟨b3, 1, none⟩) h2 _).setCell (p := ⟨b3, 2, none⟩) h2 _).setCell (p := ⟨b3, 3, none⟩) h2 _).setCell (p := ⟨b3, 4, none⟩) h2 _).setCell (p := ⟨b3, 5, none⟩) h2 _
set_option maxHeartbeats 8000000 in
set_option maxRecDepth 100000 in
theorem fk_r4 {K : Act → World → Prop} {c : Code} (hc : regOf (Try.f52.body.getD .skip) 4 = some c) (a : Act) {v : Vfk} {wq : World} {cm : CM} {cb b3 f0 f1 f2 f3 f4 f5 : Nat} {p0 : Bool} {p1 : Bool} {p2 : Bool} {p3 : Bool} {p4 : Bool} {p5 : Bool} (hF : Ffk a v) (h1v : v.v1 = .pointer (some ⟨cb, 0, none⟩)) (h3v : v.v3 = .pointer (some ⟨b3, 0, none⟩)) (hC : wq.heap[cb]? = some (.cells cm.cells 74 (0, 0))) (hB : wq.heap[b3]? = some (.cells #[fnV f0, fnV f1, fnV f2, fnV f3, fnV f4, fnV f5] tNeeds (0, 0))) (e0 : ∀ args w, (callFunc f0 args).run Try.prog w = .ok (.enter f0 args) w) (H0 : ∀ w, Calls Try.prog f0 #[.string cm.topic] w fun e w' => e = .returned (.bool p0) ∧ w' = w) (e1 : ∀ args w, (callFunc f1 args).run Try.prog w = .ok (.enter f1 args) w) (H1 : ∀ w, Calls Try.prog f1 #[.string cm.name] w fun e w' => e = .returned (.bool p1) ∧ w' = w) (e2 : ∀ args w, (callFunc f2 args).run Try.prog w = .ok (.enter f2 args) w) (H2 : ∀ w, Calls Try.prog f2 #[.int .i64 cm.seq] w fun e w' => e = .returned (.bool p2) ∧ w' = w) (e3 : ∀ args w, (callFunc f3 args).run Try.prog w = .ok (.enter f3 args) w) (H3 : ∀ w, Calls Try.prog f3 #[.string cm.key] w fun e w' => e = .returned (.bool p3) ∧ w' = w) (e4 : ∀ args w, (callFunc f4 args).run Try.prog w = .ok (.enter f4 args) w) (H4 : ∀ w, Calls Try.prog f4 #[.string cm.val] w fun e w' => e = .returned (.bool p4) ∧ w' = w) (e5 : ∀ args w, (callFunc f5 args).run Try.prog w = .ok (.enter f5 args) w) (H5 : ∀ w, Calls Try.prog f5 #[.int .i64 cm.n] w fun e w' => e = .returned (.bool p5) ∧ w' = w)
    (hQ : ∀ a', Ffk a' { v with v2 := .bool (p0 && (p1 && (p2 && (p3 && (p4 && p5))))) } → K a' wq) :
    Code.wp Try.prog c (Exit.then K fun _ _ _ => False) a wq := by
  have HQ := hide hQ
  clear hQ
  obtain ⟨t', d'⟩ := a
  obtain ⟨v1, v2, v3⟩ := v
  simp only at h1v h3v HQ
  subst h1v h3v
  obtain ⟨hs1, hd1, q1, q2, q3⟩ := hF
  obtain ⟨u, hu⟩ := frame_fk t' hs1
  simp only at hd1 q1 q2 q3
  subst hu hd1
  have e1 : u 1 = .pointer (some ⟨cb, 0, none⟩) := q1
  have e2 : u 2 = v2 := q2
  have e3 : u 3 = .pointer (some ⟨b3, 0, none⟩) := q3
  rw [e1, e2, e3]
  clear q1 e1 q2 e2 q3 e3 hs1
  simp only [Try.f52, Option.getD_some, regOf] at hc
  injection hc with hc
  subst hc
  generalize u 0 = u0
  generalize u 4 = u4
  generalize u 5 = u5
  generalize u 6 = u6
  generalize u 7 = u7
  generalize u 8 = u8
  generalize u 9 = u9
  generalize u 10 = u10
  generalize u 11 = u11
  generalize u 12 = u12
  generalize u 13 = u13
  generalize u 14 = u14
  generalize u 15 = u15
  generalize u 16 = u16
  generalize u 17 = u17
  generalize u 18 = u18
  generalize u 19 = u19
  generalize u 20 = u20
  generalize u 21 = u21
  generalize u 22 = u22
  generalize u 23 = u23
  generalize u 24 = u24
  generalize u 25 = u25
  generalize u 26 = u26
  generalize u 27 = u27
  generalize u 28 = u28
  generalize u 29 = u29
  generalize u 30 = u30
  generalize u 31 = u31
  generalize u 32 = u32
  generalize u 33 = u33
  generalize u 34 = u34
  generalize u 35 = u35
  generalize u 36 = u36
  generalize u 37 = u37
  generalize u 38 = u38
  generalize u 39 = u39
  generalize u 40 = u40
  generalize u 41 = u41
  generalize u 42 = u42
  generalize u 43 = u43
  generalize u 44 = u44
  generalize u 45 = u45
  generalize u 46 = u46
  generalize u 47 = u47
  generalize u 48 = u48
  generalize u 49 = u49
  generalize u 50 = u50
  generalize u 51 = u51
  generalize u 52 = u52
  generalize u 53 = u53
  generalize u 54 = u54
  generalize u 55 = u55
  clear u
  have J0 := hide H0
  have y0 := box_cell hC 0 rfl
  have x0 := box_cell hB 0 rfl
  have J1 := hide H1
  have y1 := box_cell hC 1 rfl
  have x1 := box_cell hB 1 rfl
  have J2 := hide H2
  have y2 := box_cell hC 2 rfl
  have x2 := box_cell hB 2 rfl
  have J3 := hide H3
  have y3 := box_cell hC 3 rfl
  have x3 := box_cell hB 3 rfl
  have J4 := hide H4
  have y4 := box_cell hC 4 rfl
  have x4 := box_cell hB 4 rfl
  have J5 := hide H5
  have y5 := box_cell hC 5 rfl
  have x5 := box_cell hB 5 rfl
  have y6 := box_cell hC 6 rfl
  simp only [fnV] at x0 x1 x2 x3 x4 x5
  clear H0 H1 H2 H3 H4 H5 hC hB
  cases p0
  · go_wp2_with (first | (go_at_fn f0; refine (J0.out _).mono ?_; rintro e w' ⟨rfl, rfl⟩) | (go_at_fn f1; refine (J1.out _).mono ?_; rintro e w' ⟨rfl, rfl⟩) | (go_at_fn f2; refine (J2.out _).mono ?_; rintro e w' ⟨rfl, rfl⟩) | (go_at_fn f3; refine (J3.out _).mono ?_; rintro e w' ⟨rfl, rfl⟩) | (go_at_fn f4; refine (J4.out _).mono ?_; rintro e w' ⟨rfl, rfl⟩) | (go_at_fn f5; refine (J5.out _).mono ?_; rintro e w' ⟨rfl, rfl⟩))
    exact HQ.out _ ⟨rfl, rfl, rfl, rfl, rfl⟩
  · skip
    cases p1
    · go_wp2_with (first | (go_at_fn f0; refine (J0.out _).mono ?_; rintro e w' ⟨rfl, rfl⟩) | (go_at_fn f1; refine (J1.out _).mono ?_; rintro e w' ⟨rfl, rfl⟩) | (go_at_fn f2; refine (J2.out _).mono ?_; rintro e w' ⟨rfl, rfl⟩) | (go_at_fn f3; refine (J3.out _).mono ?_; rintro e w' ⟨rfl, rfl⟩) | (go_at_fn f4; refine (J4.out _).mono ?_; rintro e w' ⟨rfl, rfl⟩) | (go_at_fn f5; refine (J5.out _).mono ?_; rintro e w' ⟨rfl, rfl⟩))
      exact HQ.out _ ⟨rfl, rfl, rfl, rfl, rfl⟩
    · skip
      cases p2
      · go_wp2_with (first | (go_at_fn f0; refine (J0.out _).mono ?_; rintro e w' ⟨rfl, rfl⟩) | (go_at_fn f1; refine (J1.out _).mono ?_; rintro e w' ⟨rfl, rfl⟩) | (go_at_fn f2; refine (J2.out _).mono ?_; rintro e w' ⟨rfl, rfl⟩) | (go_at_fn f3; refine (J3.out _).mono ?_; rintro e w' ⟨rfl, rfl⟩) | (go_at_fn f4; refine (J4.out _).mono ?_; rintro e w' ⟨rfl, rfl⟩) | (go_at_fn f5; refine (J5.out _).mono ?_; rintro e w' ⟨rfl, rfl⟩))
        exact HQ.out _ ⟨rfl, rfl, rfl, rfl, rfl⟩
      · skip
        cases p3
        · go_wp2_with (first | (go_at_fn f0; refine (J0.out _).mono ?_; rintro e w' ⟨rfl, rfl⟩) | (go_at_fn f1; refine (J1.out _).mono ?_; rintro e w' ⟨rfl, rfl⟩) | (go_at_fn f2; refine (J2.out _).mono ?_; rintro e w' ⟨rfl, rfl⟩) | (go_at_fn f3; refine (J3.out _).mono ?_; rintro e w' ⟨rfl, rfl⟩) | (go_at_fn f4; refine (J4.out _).mono ?_; rintro e w' ⟨rfl, rfl⟩) | (go_at_fn f5; refine (J5.out _).mono ?_; rintro e w' ⟨rfl, rfl⟩))
          exact HQ.out _ ⟨rfl, rfl, rfl, rfl, rfl⟩
        · skip
          cases p4
          · go_wp2_with (first | (go_at_fn f0; refine (J0.out _).mono ?_; rintro e w' ⟨rfl, rfl⟩) | (go_at_fn f1; refine (J1.out _).mono ?_; rintro e w' ⟨rfl, rfl⟩) | (go_at_fn f2; refine (J2.out _).mono ?_; rintro e w' ⟨rfl, rfl⟩) | (go_at_fn f3; refine (J3.out _).mono ?_; rintro e w' ⟨rfl, rfl⟩) | (go_at_fn f4; refine (J4.out _).mono ?_; rintro e w' ⟨rfl, rfl⟩) | (go_at_fn f5; refine (J5.out _).mono ?_; rintro e w' ⟨rfl, rfl⟩))
            exact HQ.out _ ⟨rfl, rfl, rfl, rfl, rfl⟩
          · skip
            cases p5
            · go_wp2_with (first | (go_at_fn f0; refine (J0.out _).mono ?_; rintro e w' ⟨rfl, rfl⟩) | (go_at_fn f1; refine (J1.out _).mono ?_; rintro e w' ⟨rfl, rfl⟩) | (go_at_fn f2; refine (J2.out _).mono ?_; rintro e w' ⟨rfl, rfl⟩) | (go_at_fn f3; refine (J3.out _).mono ?_; rintro e w' ⟨rfl, rfl⟩) | (go_at_fn f4; refine (J4.out _).mono ?_; rintro e w' ⟨rfl, rfl⟩) | (go_at_fn f5; refine (J5.out _).mono ?_; rintro e w' ⟨rfl, rfl⟩))
              exact HQ.out _ ⟨rfl, rfl, rfl, rfl, rfl⟩
            · go_wp2_with (first | (go_at_fn f0; refine (J0.out _).mono ?_; rintro e w' ⟨rfl, rfl⟩) | (go_at_fn f1; refine (J1.out _).mono ?_; rintro e w' ⟨rfl, rfl⟩) | (go_at_fn f2; refine (J2.out _).mono ?_; rintro e w' ⟨rfl, rfl⟩) | (go_at_fn f3; refine (J3.out _).mono ?_; rintro e w' ⟨rfl, rfl⟩) | (go_at_fn f4; refine (J4.out _).mono ?_; rintro e w' ⟨rfl, rfl⟩) | (go_at_fn f5; refine (J5.out _).mono ?_; rintro e w' ⟨rfl, rfl⟩))
              exact HQ.out _ ⟨rfl, rfl, rfl, rfl, rfl⟩
end Go.Proofs.Ytominplelmbecaa
