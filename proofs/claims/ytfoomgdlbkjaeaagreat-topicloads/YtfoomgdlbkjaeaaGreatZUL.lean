/-
  producersOf, recordsOf: the bodies of their ranges (mkul.py).
-/
import Derived.Test.YtfoomgdlbkjaeaaGreatZUC
import Derived.Test.YtfoomgdlbkjaeaaGreatZUK5
import Derived.Test.YtfoomgdlbkjaeaaGreatZPhiP
import Derived.Test.YtfoomgdlbkjaeaaGreatZPhiIn
namespace Go.Proofs.YtfoomgdlbkjaeaaGreat.Y
open Go.RowKit Go.Maps
set_option maxHeartbeats 8000000
set_option maxRecDepth 100000
attribute [local go_sem] Oper.semAt_some
set_option linter.unusedSimpArgs false
set_option linter.unusedVariables false
def rangeBody : Code → Option Code
  | .seq a b => match rangeBody a with
    | some c => some c
    | none => rangeBody b
  | .block _ c => rangeBody c
  | .rangeFunc _ _ _ b => some b
  | _ => none
theorem info_pf : (Tryz.prog.info? 75).map (fun i => (i.zero, i.size, i.bytes)) = some (some (.agg #[.string ⟨#[]⟩, .int .i64 0, .int .i64 0]), 3, 32) := by kernel_rfl
theorem pf_body {c : Code} (hc : rangeBody (Tryz.f45.body.getD .skip) = some c) {n l : Nat} {Q : Exit → Act → World → Prop} (hQl : ¬ LetsOut (Exit.inBlock 1 Q)) (a : Act) (W : World) (hsz : a.tmps.size = 28) {b3 g off k n0 rc : Nat} {ro : Option Addr} {nz : ByteArray} {z1 : Int} {z2 : Int} {xs : List Value} (h3 : a.tmps.getD 3 undef = .pointer (some ⟨b3, 0, none⟩)) (h4 : a.tmps.getD 4 undef = .slice (some ⟨g, off, none⟩) 3 3)
    (hBox : W.heap[b3]? = some (.cells #[Value.slice ro k rc] 86 (0, 0))) (hrow : W.ownsRow n0 75 3 (Value.slice ro k rc) k xs) (hn0 : n0 ≤ W.heap.size) (hk : k ≤ 10000000) (hg : g < W.heap.size) (hng : ¬ (Value.slice ro k rc).ownBlock = some g)
    (y0 : W.cell? ⟨g, off + 2, none⟩ = some (.string nz)) (y1 : W.cell? ⟨g, off + 4, none⟩ = some (.int .u64 z1)) (y2 : W.cell? ⟨g, off + 7, none⟩ = some (.int .u64 z2))
    (hQ : ∀ a' w' ro2 rc2, w'.heap[b3]? = some (.cells #[.slice ro2 (k + 1) rc2] 86 (0, 0)) → w'.ownsRow n0 75 3 (.slice ro2 (k + 1) rc2) (k + 1) (xs ++ [.string nz, .int .i64 (IntKind.i64.wrap z2), .int .i64 (IntKind.i64.wrap z1)]) → Touch (fun i => i = b3 ∨ (Value.slice ro k rc).ownBlock = some i) W w' → Q .normal a' w') :
    c.wpIn (Fence.wide.inRound l) n Tryz.prog Q a W := by
  obtain ⟨i0, hi, hz0, hz1, hz2⟩ := info_parts info_pf
  have HQ := hide hQ
  have hn4 : ¬ (Value.slice ro k rc).ownBlock = some b3 := fun e => row_other hrow e hBox (by decide)
  have hrl : ∀ i, (Value.slice ro k rc).ownBlock = some i → i < W.heap.size := fun i e => row_lt hrow e
  clear hQ
  simp only [Tryz.f45, Option.getD_some, rangeBody] at hc
  injection hc with hc
  subst hc
  refine wpIn_block ?_
  refine wpIn_region_last 19 rfl (by kernel_rfl) rfl rfl (by kernel_rfl) (by kernel_rfl) hQl ?_
  intro ops' hops'
  simp only [idle, List.setIfInBounds_toArray, List.set_cons_succ, List.set_cons_zero] at hops'
  subst hops'
  refine wpAny_pivot (ns := 28) (uses := (fun i => match i with | 0 => [8] | 1 => [9] | 2 => [10] | 3 => [11] | 4 => [12] | 5 => [13] | 6 => [14] | 7 => [15] | 8 => [16] | 9 => [17] | 10 => [18] | 11 => [19] | 12 => [20] | 13 => [21] | 14 => [22] | 15 => [23] | 16 => [24] | 17 => [25] | 18 => [26] | 19 => [] | _ => [])) (by kernel_rfl) (by kernel_rfl) (fun j w w' => (j ≠ 18 → Below w.heap.size w w') ∧ (j = 18 → w.grownBy w' (Value.slice ro k rc).ownBlock)) 18 (by decide) (fun bb w => (bb = false → Below W.heap.size W w) ∧ Touch (fun i => (Value.slice ro k rc).ownBlock = some i) W w) (fun j b w w' hj h r => ⟨fun e => (h.1 e).trans ((r.1 hj).mono (h.1 e).size), h.2.below (r.1 hj)⟩) (fun w w' h r => ⟨fun e => (by cases e), h.2.grown (r.2 rfl) (fun i e _ => e)⟩) ⟨fun _ => (Below.refl _ _).drew, (Touch.refl _ _).drew⟩ (fun i => match i with | 0 => fun s w => s 8 = Value.slice ro k rc | 1 => fun s w => s 9 = .slice (some ⟨g, off, none⟩) 3 3 | 2 => fun s w => s 10 = .pointer (some ⟨g, off, none⟩) | 3 => fun s w => s 11 = .pointer (some ⟨g, off + 2, none⟩) | 4 => fun s w => s 12 = .string nz | 5 => fun s w => s 13 = .slice (some ⟨g, off, none⟩) 3 3 | 6 => fun s w => s 14 = .pointer (some ⟨g, off + 3, none⟩) | 7 => fun s w => s 15 = .pointer (some ⟨g, off + 4, none⟩) | 8 => fun s w => s 16 = .int .u64 z1 | 9 => fun s w => s 17 = .int .i64 (IntKind.i64.wrap z1) | 10 => fun s w => s 18 = .slice (some ⟨g, off, none⟩) 3 3 | 11 => fun s w => s 19 = .pointer (some ⟨g, off + 6, none⟩) | 12 => fun s w => s 20 = .pointer (some ⟨g, off + 7, none⟩) | 13 => fun s w => s 21 = .int .u64 z2 | 14 => fun s w => s 22 = .int .i64 (IntKind.i64.wrap z2) | 15 => fun s w => s 23 = .agg #[.int .i64 (IntKind.i64.wrap z2), .int .i64 (IntKind.i64.wrap z1)] | 16 => fun s w => s 24 = .agg #[.string nz, .int .i64 (IntKind.i64.wrap z2), .int .i64 (IntKind.i64.wrap z1)] | 17 => fun s w => ∃ gb, s 25 = .slice (some ⟨gb, 0, none⟩) 1 1 ∧ W.heap.size ≤ gb ∧ w.heap[gb]? = some (.cells #[.string nz, .int .i64 (IntKind.i64.wrap z2), .int .i64 (IntKind.i64.wrap z1)] 75 (0, 0)) | 18 => fun s w => ∃ ro2 rc2, s 26 = .slice ro2 (k + 1) rc2 ∧ w.ownsRow n0 75 3 (.slice ro2 (k + 1) rc2) (k + 1) (xs ++ [.string nz, .int .i64 (IntKind.i64.wrap z2), .int .i64 (IntKind.i64.wrap z1)]) | 19 => fun s w => True | _ => fun _ _ => True) ?phc ?phh ?pstep ?pdone
  case phc =>
    intro i s s' w hx h
    match i, hx, h with
    | 0, hx, h =>
      have e8 := hx 8 (by simp)
      first | exact (show _ from by simp only [← e8] at *; exact h) | (simp only [e8] at h; exact h)
    | 1, hx, h =>
      have e9 := hx 9 (by simp)
      first | exact (show _ from by simp only [← e9] at *; exact h) | (simp only [e9] at h; exact h)
    | 2, hx, h =>
      have e10 := hx 10 (by simp)
      first | exact (show _ from by simp only [← e10] at *; exact h) | (simp only [e10] at h; exact h)
    | 3, hx, h =>
      have e11 := hx 11 (by simp)
      first | exact (show _ from by simp only [← e11] at *; exact h) | (simp only [e11] at h; exact h)
    | 4, hx, h =>
      have e12 := hx 12 (by simp)
      first | exact (show _ from by simp only [← e12] at *; exact h) | (simp only [e12] at h; exact h)
    | 5, hx, h =>
      have e13 := hx 13 (by simp)
      first | exact (show _ from by simp only [← e13] at *; exact h) | (simp only [e13] at h; exact h)
    | 6, hx, h =>
      have e14 := hx 14 (by simp)
      first | exact (show _ from by simp only [← e14] at *; exact h) | (simp only [e14] at h; exact h)
    | 7, hx, h =>
      have e15 := hx 15 (by simp)
      first | exact (show _ from by simp only [← e15] at *; exact h) | (simp only [e15] at h; exact h)
    | 8, hx, h =>
      have e16 := hx 16 (by simp)
      first | exact (show _ from by simp only [← e16] at *; exact h) | (simp only [e16] at h; exact h)
    | 9, hx, h =>
      have e17 := hx 17 (by simp)
      first | exact (show _ from by simp only [← e17] at *; exact h) | (simp only [e17] at h; exact h)
    | 10, hx, h =>
      have e18 := hx 18 (by simp)
      first | exact (show _ from by simp only [← e18] at *; exact h) | (simp only [e18] at h; exact h)
    | 11, hx, h =>
      have e19 := hx 19 (by simp)
      first | exact (show _ from by simp only [← e19] at *; exact h) | (simp only [e19] at h; exact h)
    | 12, hx, h =>
      have e20 := hx 20 (by simp)
      first | exact (show _ from by simp only [← e20] at *; exact h) | (simp only [e20] at h; exact h)
    | 13, hx, h =>
      have e21 := hx 21 (by simp)
      first | exact (show _ from by simp only [← e21] at *; exact h) | (simp only [e21] at h; exact h)
    | 14, hx, h =>
      have e22 := hx 22 (by simp)
      first | exact (show _ from by simp only [← e22] at *; exact h) | (simp only [e22] at h; exact h)
    | 15, hx, h =>
      have e23 := hx 23 (by simp)
      first | exact (show _ from by simp only [← e23] at *; exact h) | (simp only [e23] at h; exact h)
    | 16, hx, h =>
      have e24 := hx 24 (by simp)
      first | exact (show _ from by simp only [← e24] at *; exact h) | (simp only [e24] at h; exact h)
    | 17, hx, h =>
      have e25 := hx 25 (by simp)
      first | exact (show _ from by simp only [← e25] at *; exact h) | (simp only [e25] at h; exact h)
    | 18, hx, h =>
      have e26 := hx 26 (by simp)
      first | exact (show _ from by simp only [← e26] at *; exact h) | (simp only [e26] at h; exact h)
    | 19, hx, h =>
      exact h
    | (n + 20), _, h => exact h
  case phh =>
    intro i j s w w' hij h r
    match i, hij, h with
    | 0, hij, h =>
      exact h
    | 1, hij, h =>
      exact h
    | 2, hij, h =>
      exact h
    | 3, hij, h =>
      exact h
    | 4, hij, h =>
      exact h
    | 5, hij, h =>
      exact h
    | 6, hij, h =>
      exact h
    | 7, hij, h =>
      exact h
    | 8, hij, h =>
      exact h
    | 9, hij, h =>
      exact h
    | 10, hij, h =>
      exact h
    | 11, hij, h =>
      exact h
    | 12, hij, h =>
      exact h
    | 13, hij, h =>
      exact h
    | 14, hij, h =>
      exact h
    | 15, hij, h =>
      exact h
    | 16, hij, h =>
      exact h
    | 17, hij, h =>
      obtain ⟨gb, h1, h2, h3⟩ := h
      by_cases e : j = 18
      · exact ⟨gb, h1, h2, ((r.2 e).block gb (heap_lt h3) (fun e2 => by have := hrl gb e2.symm; omega)).trans h3⟩
      · exact ⟨gb, h1, h2, ((r.1 e).block _ (heap_lt h3)).trans h3⟩
    | 18, hij, h =>
      obtain ⟨ro2, rc2, h1, h2⟩ := h
      exact ⟨ro2, rc2, h1, below_row (r.1 (fun e => hij e.symm)) h2⟩
    | 19, hij, h =>
      exact h
    | (n + 20), _, h => exact h
  case pstep =>
    intro i o ho a' w' bb hbb hsa hb hd
    match i, ho with
    | 0, ho =>
      obtain rfl := Option.some.inj ho
      try dsimp only at hd
      have y := box_cell (hb.2.at hBox hn4) 0 rfl
      have g3 := (hsa.rest 3 (by rfl)).trans h3
      refine wpOp_of rfl rfl ?_
      refine op_run (v := Value.slice ro k rc) (w' := w') ?_ ⟨_, rfl, ?_, ?_⟩
      · simp only [execOp, Act.eval, List.map_toArray, List.map_cons, List.map_nil, y, g3]; first | (go_simp; done) | rfl
      · try dsimp only
        exact (slots_put (ns := 28) (hsa.size.trans hsz) (by decide))
      · exact ⟨fun _ => Below.refl _ _, fun e => by cases e⟩
    | 1, ho =>
      obtain rfl := Option.some.inj ho
      try dsimp only at hd
      have g4 := (hsa.rest 4 (by rfl)).trans h4
      refine wpOp_of rfl rfl ?_
      refine op_run (v := .slice (some ⟨g, off, none⟩) 3 3) (w' := w') ?_ ⟨_, rfl, ?_, ?_⟩
      · simp only [execOp, Act.eval, List.map_toArray, List.map_cons, List.map_nil, g4]; first | (go_simp; done) | rfl
      · try dsimp only
        exact (slots_put (ns := 28) (hsa.size.trans hsz) (by decide))
      · exact ⟨fun _ => Below.refl _ _, fun e => by cases e⟩
    | 2, ho =>
      obtain rfl := Option.some.inj ho
      try dsimp only at hd
      have d1 : a'.tmps.getD 9 undef = .slice (some ⟨g, off, none⟩) 3 3 := hd 1 (by rfl)
      refine wpOp_of rfl rfl ?_
      refine op_run (v := .pointer (some ⟨g, off, none⟩)) (w' := w') ?_ ⟨_, rfl, ?_, ?_⟩
      · simp only [execOp, Act.eval, List.map_toArray, List.map_cons, List.map_nil, d1]; first | (go_simp; done) | rfl
      · try dsimp only
        exact (slots_put (ns := 28) (hsa.size.trans hsz) (by decide))
      · exact ⟨fun _ => Below.refl _ _, fun e => by cases e⟩
    | 3, ho =>
      obtain rfl := Option.some.inj ho
      try dsimp only at hd
      have d2 : a'.tmps.getD 10 undef = .pointer (some ⟨g, off, none⟩) := hd 2 (by rfl)
      refine wpOp_of rfl rfl ?_
      refine op_run (v := .pointer (some ⟨g, off + 2, none⟩)) (w' := w') ?_ ⟨_, rfl, ?_, ?_⟩
      · simp only [execOp, Act.eval, List.map_toArray, List.map_cons, List.map_nil, d2]; first | (go_simp; done) | rfl
      · try dsimp only
        exact (slots_put (ns := 28) (hsa.size.trans hsz) (by decide))
      · exact ⟨fun _ => Below.refl _ _, fun e => by cases e⟩
    | 4, ho =>
      obtain rfl := Option.some.inj ho
      try dsimp only at hd
      have d3 : a'.tmps.getD 11 undef = .pointer (some ⟨g, off + 2, none⟩) := hd 3 (by rfl)
      have y := hb.2.cell _ y0 hng
      refine wpOp_of rfl rfl ?_
      refine op_run (v := .string nz) (w' := w') ?_ ⟨_, rfl, ?_, ?_⟩
      · simp only [execOp, Act.eval, List.map_toArray, List.map_cons, List.map_nil, d3, y]; first | (go_simp; done) | rfl
      · try dsimp only
        exact (slots_put (ns := 28) (hsa.size.trans hsz) (by decide))
      · exact ⟨fun _ => Below.refl _ _, fun e => by cases e⟩
    | 5, ho =>
      obtain rfl := Option.some.inj ho
      try dsimp only at hd
      have g4 := (hsa.rest 4 (by rfl)).trans h4
      refine wpOp_of rfl rfl ?_
      refine op_run (v := .slice (some ⟨g, off, none⟩) 3 3) (w' := w') ?_ ⟨_, rfl, ?_, ?_⟩
      · simp only [execOp, Act.eval, List.map_toArray, List.map_cons, List.map_nil, g4]; first | (go_simp; done) | rfl
      · try dsimp only
        exact (slots_put (ns := 28) (hsa.size.trans hsz) (by decide))
      · exact ⟨fun _ => Below.refl _ _, fun e => by cases e⟩
    | 6, ho =>
      obtain rfl := Option.some.inj ho
      try dsimp only at hd
      have d5 : a'.tmps.getD 13 undef = .slice (some ⟨g, off, none⟩) 3 3 := hd 5 (by rfl)
      refine wpOp_of rfl rfl ?_
      refine op_run (v := .pointer (some ⟨g, off + 3, none⟩)) (w' := w') ?_ ⟨_, rfl, ?_, ?_⟩
      · simp only [execOp, Act.eval, List.map_toArray, List.map_cons, List.map_nil, d5]; first | (go_simp; done) | rfl
      · try dsimp only
        exact (slots_put (ns := 28) (hsa.size.trans hsz) (by decide))
      · exact ⟨fun _ => Below.refl _ _, fun e => by cases e⟩
    | 7, ho =>
      obtain rfl := Option.some.inj ho
      try dsimp only at hd
      have d6 : a'.tmps.getD 14 undef = .pointer (some ⟨g, off + 3, none⟩) := hd 6 (by rfl)
      refine wpOp_of rfl rfl ?_
      refine op_run (v := .pointer (some ⟨g, off + 4, none⟩)) (w' := w') ?_ ⟨_, rfl, ?_, ?_⟩
      · simp only [execOp, Act.eval, List.map_toArray, List.map_cons, List.map_nil, d6]; first | (go_simp; done) | rfl
      · try dsimp only
        exact (slots_put (ns := 28) (hsa.size.trans hsz) (by decide))
      · exact ⟨fun _ => Below.refl _ _, fun e => by cases e⟩
    | 8, ho =>
      obtain rfl := Option.some.inj ho
      try dsimp only at hd
      have d7 : a'.tmps.getD 15 undef = .pointer (some ⟨g, off + 4, none⟩) := hd 7 (by rfl)
      have y := hb.2.cell _ y1 hng
      refine wpOp_of rfl rfl ?_
      refine op_run (v := .int .u64 z1) (w' := w') ?_ ⟨_, rfl, ?_, ?_⟩
      · simp only [execOp, Act.eval, List.map_toArray, List.map_cons, List.map_nil, d7, y]; first | (go_simp; done) | rfl
      · try dsimp only
        exact (slots_put (ns := 28) (hsa.size.trans hsz) (by decide))
      · exact ⟨fun _ => Below.refl _ _, fun e => by cases e⟩
    | 9, ho =>
      obtain rfl := Option.some.inj ho
      try dsimp only at hd
      have d8 : a'.tmps.getD 16 undef = .int .u64 z1 := hd 8 (by rfl)
      refine wpOp_of rfl rfl ?_
      refine op_run (v := .int .i64 (IntKind.i64.wrap z1)) (w' := w') ?_ ⟨_, rfl, ?_, ?_⟩
      · simp only [execOp, Act.eval, List.map_toArray, List.map_cons, List.map_nil, d8]; first | (go_simp; done) | rfl
      · try dsimp only
        exact (slots_put (ns := 28) (hsa.size.trans hsz) (by decide))
      · exact ⟨fun _ => Below.refl _ _, fun e => by cases e⟩
    | 10, ho =>
      obtain rfl := Option.some.inj ho
      try dsimp only at hd
      have g4 := (hsa.rest 4 (by rfl)).trans h4
      refine wpOp_of rfl rfl ?_
      refine op_run (v := .slice (some ⟨g, off, none⟩) 3 3) (w' := w') ?_ ⟨_, rfl, ?_, ?_⟩
      · simp only [execOp, Act.eval, List.map_toArray, List.map_cons, List.map_nil, g4]; first | (go_simp; done) | rfl
      · try dsimp only
        exact (slots_put (ns := 28) (hsa.size.trans hsz) (by decide))
      · exact ⟨fun _ => Below.refl _ _, fun e => by cases e⟩
    | 11, ho =>
      obtain rfl := Option.some.inj ho
      try dsimp only at hd
      have d10 : a'.tmps.getD 18 undef = .slice (some ⟨g, off, none⟩) 3 3 := hd 10 (by rfl)
      refine wpOp_of rfl rfl ?_
      refine op_run (v := .pointer (some ⟨g, off + 6, none⟩)) (w' := w') ?_ ⟨_, rfl, ?_, ?_⟩
      · simp only [execOp, Act.eval, List.map_toArray, List.map_cons, List.map_nil, d10]; first | (go_simp; done) | rfl
      · try dsimp only
        exact (slots_put (ns := 28) (hsa.size.trans hsz) (by decide))
      · exact ⟨fun _ => Below.refl _ _, fun e => by cases e⟩
    | 12, ho =>
      obtain rfl := Option.some.inj ho
      try dsimp only at hd
      have d11 : a'.tmps.getD 19 undef = .pointer (some ⟨g, off + 6, none⟩) := hd 11 (by rfl)
      refine wpOp_of rfl rfl ?_
      refine op_run (v := .pointer (some ⟨g, off + 7, none⟩)) (w' := w') ?_ ⟨_, rfl, ?_, ?_⟩
      · simp only [execOp, Act.eval, List.map_toArray, List.map_cons, List.map_nil, d11]; first | (go_simp; done) | rfl
      · try dsimp only
        exact (slots_put (ns := 28) (hsa.size.trans hsz) (by decide))
      · exact ⟨fun _ => Below.refl _ _, fun e => by cases e⟩
    | 13, ho =>
      obtain rfl := Option.some.inj ho
      try dsimp only at hd
      have d12 : a'.tmps.getD 20 undef = .pointer (some ⟨g, off + 7, none⟩) := hd 12 (by rfl)
      have y := hb.2.cell _ y2 hng
      refine wpOp_of rfl rfl ?_
      refine op_run (v := .int .u64 z2) (w' := w') ?_ ⟨_, rfl, ?_, ?_⟩
      · simp only [execOp, Act.eval, List.map_toArray, List.map_cons, List.map_nil, d12, y]; first | (go_simp; done) | rfl
      · try dsimp only
        exact (slots_put (ns := 28) (hsa.size.trans hsz) (by decide))
      · exact ⟨fun _ => Below.refl _ _, fun e => by cases e⟩
    | 14, ho =>
      obtain rfl := Option.some.inj ho
      try dsimp only at hd
      have d13 : a'.tmps.getD 21 undef = .int .u64 z2 := hd 13 (by rfl)
      refine wpOp_of rfl rfl ?_
      refine op_run (v := .int .i64 (IntKind.i64.wrap z2)) (w' := w') ?_ ⟨_, rfl, ?_, ?_⟩
      · simp only [execOp, Act.eval, List.map_toArray, List.map_cons, List.map_nil, d13]; first | (go_simp; done) | rfl
      · try dsimp only
        exact (slots_put (ns := 28) (hsa.size.trans hsz) (by decide))
      · exact ⟨fun _ => Below.refl _ _, fun e => by cases e⟩
    | 15, ho =>
      obtain rfl := Option.some.inj ho
      try dsimp only at hd
      have d9 : a'.tmps.getD 17 undef = .int .i64 (IntKind.i64.wrap z1) := hd 9 (by rfl)
      have d14 : a'.tmps.getD 22 undef = .int .i64 (IntKind.i64.wrap z2) := hd 14 (by rfl)
      refine wpOp_of rfl rfl ?_
      refine op_run (v := .agg #[.int .i64 (IntKind.i64.wrap z2), .int .i64 (IntKind.i64.wrap z1)]) (w' := w') ?_ ⟨_, rfl, ?_, ?_⟩
      · simp only [execOp, Act.eval, List.map_toArray, List.map_cons, List.map_nil, d9, d14]; first | (go_simp; done) | rfl
      · try dsimp only
        exact (slots_put (ns := 28) (hsa.size.trans hsz) (by decide))
      · exact ⟨fun _ => Below.refl _ _, fun e => by cases e⟩
    | 16, ho =>
      obtain rfl := Option.some.inj ho
      try dsimp only at hd
      have d4 : a'.tmps.getD 12 undef = .string nz := hd 4 (by rfl)
      have d15 : a'.tmps.getD 23 undef = .agg #[.int .i64 (IntKind.i64.wrap z2), .int .i64 (IntKind.i64.wrap z1)] := hd 15 (by rfl)
      refine wpOp_of rfl rfl ?_
      refine op_run (v := .agg #[.string nz, .int .i64 (IntKind.i64.wrap z2), .int .i64 (IntKind.i64.wrap z1)]) (w' := w') ?_ ⟨_, rfl, ?_, ?_⟩
      · simp only [execOp, Act.eval, List.map_toArray, List.map_cons, List.map_nil, d4, d15]; first | (go_simp; done) | rfl
      · try dsimp only
        exact (slots_put (ns := 28) (hsa.size.trans hsz) (by decide))
      · exact ⟨fun _ => Below.refl _ _, fun e => by cases e⟩
    | 17, ho =>
      obtain rfl := Option.some.inj ho
      try dsimp only at hd
      have d16 : a'.tmps.getD 24 undef = .agg #[.string nz, .int .i64 (IntKind.i64.wrap z2), .int .i64 (IntKind.i64.wrap z1)] := hd 16 (by rfl)
      refine wpOp_of rfl rfl ?_
      refine op_run (v := Value.slice (some ⟨w'.heap.size, 0, none⟩) 1 1) (w' := w'.alloc (.cells #[.string nz, .int .i64 (IntKind.i64.wrap z2), .int .i64 (IntKind.i64.wrap z1)] 75)) ?_ ⟨_, rfl, ?_, ?_⟩
      · simp only [execOp, Act.eval, List.map_toArray, List.map_cons, List.map_nil, d16]; first | (go_simp; done) | rfl
      · try dsimp only
        exact ⟨_, (slots_put (ns := 28) (hsa.size.trans hsz) (by decide)), hb.2.size, heap_alloc_new _ _⟩
      · exact ⟨fun _ => (Below.refl _ _).alloc (Nat.le_refl _) _, fun e => by cases e⟩
    | 18, ho =>
      obtain rfl := Option.some.inj ho
      try dsimp only at hd
      have d0 : a'.tmps.getD 8 undef = Value.slice ro k rc := hd 0 (by rfl)
      have d17 : ∃ gb, a'.tmps.getD 25 undef = .slice (some ⟨gb, 0, none⟩) 1 1 ∧ W.heap.size ≤ gb ∧ w'.heap[gb]? = some (.cells #[.string nz, .int .i64 (IntKind.i64.wrap z2), .int .i64 (IntKind.i64.wrap z1)] 75 (0, 0)) := hd 17 (by rfl)
      refine wpOp_of rfl rfl ?_
      obtain ⟨gb, d17, _, h6⟩ := d17
      have hbl := hb.1 (hbb rfl)
      refine wp_append_own w' _ _ 86 rfl n0 75 i0 (.agg #[.string ⟨#[]⟩, .int .i64 0, .int .i64 0]) 3 32 Tryz.underlying86 hi hz0 hz1 hz2 rfl (by decide) (Value.slice ro k rc) k xs (by simp only [Act.eval, d0]) (below_row hbl hrow) ⟨gb, 0, none⟩ 1 1 [.string nz, .int .i64 (IntKind.i64.wrap z2), .int .i64 (IntKind.i64.wrap z1)] (by simp only [Act.eval, d17]) rfl (fun j u hj => by
        rw [Addr.add_lit]
        simp only [Nat.zero_add]
        exact box_cell h6 j (by simpa using hj)) (by simp [Value.oneCell']) (by have : maxLen = 9223372036854775807 := rfl; omega) (by omega) (Nat.le_trans hn0 hbl.size) ?_
      intro v' w'' h7 h8 _
      obtain ⟨ro2, rc2, rfl⟩ := row_slice h7
      refine ⟨_, rfl, ⟨ro2, rc2, (slots_put (ns := 28) (hsa.size.trans hsz) (by decide)), h7⟩, fun e => absurd rfl e, fun _ => h8⟩
    | 19, ho =>
      obtain rfl := Option.some.inj ho
      try dsimp only at hd
      refine wpOp_of rfl rfl ?_
      refine op_run (v := undef) (w' := w') ?_ ⟨_, rfl, ?_, ?_⟩
      · rfl
      · try dsimp only
        trivial
      · exact ⟨fun _ => Below.refl _ _, fun e => by cases e⟩
    | (n + 20), ho => exact absurd ho (by simp)
  case pdone =>
    intro a' w' hsa hb hd
    have d18 : ∃ ro2 rc2, a'.tmps.getD 26 undef = .slice ro2 (k + 1) rc2 ∧ w'.ownsRow n0 75 3 (.slice ro2 (k + 1) rc2) (k + 1) (xs ++ [.string nz, .int .i64 (IntKind.i64.wrap z2), .int .i64 (IntKind.i64.wrap z1)]) := hd 18 (by decide)
    obtain ⟨ro2, rc2, d18, h7⟩ := d18
    intro K2 hK2
    have g3 := (hsa.rest 3 (by rfl)).trans h3
    have q0 := hb.2.at hBox hn4
    have q2 := box_cell q0 0 rfl
    have zf := box_free q0 0
    refine op_skip (w' := w'.setCell ⟨b3, 0, none⟩ (.slice ro2 (k + 1) rc2)) ?_ (hK2 _ _ ?_)
    · simp only [execOp, Act.eval, d18, g3]
      first | (go_simp; done) | (go_simp; rfl)
    have h9 : (w'.setCell ⟨b3, 0, none⟩ (.slice ro2 (k + 1) rc2)).heap[b3]? = some (.cells #[.slice ro2 (k + 1) rc2] 86 (0, 0)) := by simpa using box_set q0 0 (.slice ro2 (k + 1) rc2)
    have h10 : (w'.setCell ⟨b3, 0, none⟩ (.slice ro2 (k + 1) rc2)).ownsRow n0 75 3 (.slice ro2 (k + 1) rc2) (k + 1) (xs ++ [.string nz, .int .i64 (IntKind.i64.wrap z2), .int .i64 (IntKind.i64.wrap z1)]) := set_row h7 b3 0 _ (fun e => row_other h7 e q0 (by decide))
    exact HQ.out _ _ ro2 rc2 h9 h10 ((hb.2.mono (own' := fun i => i = b3 ∨ (Value.slice ro k rc).ownBlock = some i) (fun i _ e => .inr e)).setCell ⟨b3, 0, none⟩ _ (fun _ => .inl rfl))
theorem info_rf : (Tryz.prog.info? 39).map (fun i => (i.zero, i.size, i.bytes)) = some (some (.agg #[.int .i64 0, .string ⟨#[]⟩, .int .i64 0, .string ⟨#[]⟩, .string ⟨#[]⟩]), 5, 64) := by kernel_rfl
theorem rf_body {c : Code} (hc : rangeBody (Tryz.f47.body.getD .skip) = some c) {n l : Nat} {Q : Exit → Act → World → Prop} (hQl : ¬ LetsOut (Exit.inBlock 1 Q)) (a : Act) (W : World) (hsz : a.tmps.size = 35) {b3 g off k n0 rc : Nat} {ro : Option Addr} {z0 : Int} {zp : ByteArray} {z2 : Int} {zk : ByteArray} {zv : ByteArray} {xs : List Value} (h3 : a.tmps.getD 3 undef = .pointer (some ⟨b3, 0, none⟩)) (h4 : a.tmps.getD 4 undef = .slice (some ⟨g, off, none⟩) 5 5)
    (hBox : W.heap[b3]? = some (.cells #[Value.slice ro k rc] 35 (0, 0))) (hrow : W.ownsRow n0 39 5 (Value.slice ro k rc) k xs) (hn0 : n0 ≤ W.heap.size) (hk : k ≤ 10000000) (hg : g < W.heap.size) (hng : ¬ (Value.slice ro k rc).ownBlock = some g)
    (y0 : W.cell? ⟨g, off + 1, none⟩ = some (.int .u64 z0)) (y1 : W.cell? ⟨g, off + 5, none⟩ = some (.string zp)) (y2 : W.cell? ⟨g, off + 7, none⟩ = some (.int .u64 z2)) (y3 : W.cell? ⟨g, off + 11, none⟩ = some (.string zk)) (y4 : W.cell? ⟨g, off + 14, none⟩ = some (.string zv))
    (hQ : ∀ a' w' ro2 rc2, w'.heap[b3]? = some (.cells #[.slice ro2 (k + 1) rc2] 35 (0, 0)) → w'.ownsRow n0 39 5 (.slice ro2 (k + 1) rc2) (k + 1) (xs ++ [.int .i64 (IntKind.i64.wrap z0), .string zp, .int .i64 (IntKind.i64.wrap z2), .string zk, .string zv]) → Touch (fun i => i = b3 ∨ (Value.slice ro k rc).ownBlock = some i) W w' → Q .normal a' w') :
    c.wpIn (Fence.wide.inRound l) n Tryz.prog Q a W := by
  obtain ⟨i0, hi, hz0, hz1, hz2⟩ := info_parts info_rf
  have HQ := hide hQ
  have hn4 : ¬ (Value.slice ro k rc).ownBlock = some b3 := fun e => row_other hrow e hBox (by decide)
  have hrl : ∀ i, (Value.slice ro k rc).ownBlock = some i → i < W.heap.size := fun i e => row_lt hrow e
  clear hQ
  simp only [Tryz.f47, Option.getD_some, rangeBody] at hc
  injection hc with hc
  subst hc
  refine wpIn_block ?_
  refine wpIn_region_last 26 rfl (by kernel_rfl) rfl rfl (by kernel_rfl) (by kernel_rfl) hQl ?_
  intro ops' hops'
  simp only [idle, List.setIfInBounds_toArray, List.set_cons_succ, List.set_cons_zero] at hops'
  subst hops'
  refine wpAny_pivot (ns := 35) (uses := (fun i => match i with | 0 => [8] | 1 => [9] | 2 => [10] | 3 => [11] | 4 => [12] | 5 => [13] | 6 => [14] | 7 => [15] | 8 => [16] | 9 => [17] | 10 => [18] | 11 => [19] | 12 => [20] | 13 => [21] | 14 => [22] | 15 => [23] | 16 => [24] | 17 => [25] | 18 => [26] | 19 => [27] | 20 => [28] | 21 => [29] | 22 => [30] | 23 => [31] | 24 => [32] | 25 => [33] | 26 => [] | _ => [])) (by kernel_rfl) (by kernel_rfl) (fun j w w' => (j ≠ 25 → Below w.heap.size w w') ∧ (j = 25 → w.grownBy w' (Value.slice ro k rc).ownBlock)) 25 (by decide) (fun bb w => (bb = false → Below W.heap.size W w) ∧ Touch (fun i => (Value.slice ro k rc).ownBlock = some i) W w) (fun j b w w' hj h r => ⟨fun e => (h.1 e).trans ((r.1 hj).mono (h.1 e).size), h.2.below (r.1 hj)⟩) (fun w w' h r => ⟨fun e => (by cases e), h.2.grown (r.2 rfl) (fun i e _ => e)⟩) ⟨fun _ => (Below.refl _ _).drew, (Touch.refl _ _).drew⟩ (fun i => match i with | 0 => fun s w => s 8 = Value.slice ro k rc | 1 => fun s w => s 9 = .slice (some ⟨g, off, none⟩) 5 5 | 2 => fun s w => s 10 = .pointer (some ⟨g, off, none⟩) | 3 => fun s w => s 11 = .pointer (some ⟨g, off + 1, none⟩) | 4 => fun s w => s 12 = .int .u64 z0 | 5 => fun s w => s 13 = .int .i64 (IntKind.i64.wrap z0) | 6 => fun s w => s 14 = .slice (some ⟨g, off, none⟩) 5 5 | 7 => fun s w => s 15 = .pointer (some ⟨g, off + 3, none⟩) | 8 => fun s w => s 16 = .pointer (some ⟨g, off + 5, none⟩) | 9 => fun s w => s 17 = .string zp | 10 => fun s w => s 18 = .slice (some ⟨g, off, none⟩) 5 5 | 11 => fun s w => s 19 = .pointer (some ⟨g, off + 6, none⟩) | 12 => fun s w => s 20 = .pointer (some ⟨g, off + 7, none⟩) | 13 => fun s w => s 21 = .int .u64 z2 | 14 => fun s w => s 22 = .int .i64 (IntKind.i64.wrap z2) | 15 => fun s w => s 23 = .slice (some ⟨g, off, none⟩) 5 5 | 16 => fun s w => s 24 = .pointer (some ⟨g, off + 9, none⟩) | 17 => fun s w => s 25 = .pointer (some ⟨g, off + 11, none⟩) | 18 => fun s w => s 26 = .string zk | 19 => fun s w => s 27 = .slice (some ⟨g, off, none⟩) 5 5 | 20 => fun s w => s 28 = .pointer (some ⟨g, off + 12, none⟩) | 21 => fun s w => s 29 = .pointer (some ⟨g, off + 14, none⟩) | 22 => fun s w => s 30 = .string zv | 23 => fun s w => s 31 = .agg #[.int .i64 (IntKind.i64.wrap z0), .string zp, .int .i64 (IntKind.i64.wrap z2), .string zk, .string zv] | 24 => fun s w => ∃ gb, s 32 = .slice (some ⟨gb, 0, none⟩) 1 1 ∧ W.heap.size ≤ gb ∧ w.heap[gb]? = some (.cells #[.int .i64 (IntKind.i64.wrap z0), .string zp, .int .i64 (IntKind.i64.wrap z2), .string zk, .string zv] 39 (0, 0)) | 25 => fun s w => ∃ ro2 rc2, s 33 = .slice ro2 (k + 1) rc2 ∧ w.ownsRow n0 39 5 (.slice ro2 (k + 1) rc2) (k + 1) (xs ++ [.int .i64 (IntKind.i64.wrap z0), .string zp, .int .i64 (IntKind.i64.wrap z2), .string zk, .string zv]) | 26 => fun s w => True | _ => fun _ _ => True) ?phc ?phh ?pstep ?pdone
  case phc =>
    intro i s s' w hx h
    match i, hx, h with
    | 0, hx, h =>
      have e8 := hx 8 (by simp)
      first | exact (show _ from by simp only [← e8] at *; exact h) | (simp only [e8] at h; exact h)
    | 1, hx, h =>
      have e9 := hx 9 (by simp)
      first | exact (show _ from by simp only [← e9] at *; exact h) | (simp only [e9] at h; exact h)
    | 2, hx, h =>
      have e10 := hx 10 (by simp)
      first | exact (show _ from by simp only [← e10] at *; exact h) | (simp only [e10] at h; exact h)
    | 3, hx, h =>
      have e11 := hx 11 (by simp)
      first | exact (show _ from by simp only [← e11] at *; exact h) | (simp only [e11] at h; exact h)
    | 4, hx, h =>
      have e12 := hx 12 (by simp)
      first | exact (show _ from by simp only [← e12] at *; exact h) | (simp only [e12] at h; exact h)
    | 5, hx, h =>
      have e13 := hx 13 (by simp)
      first | exact (show _ from by simp only [← e13] at *; exact h) | (simp only [e13] at h; exact h)
    | 6, hx, h =>
      have e14 := hx 14 (by simp)
      first | exact (show _ from by simp only [← e14] at *; exact h) | (simp only [e14] at h; exact h)
    | 7, hx, h =>
      have e15 := hx 15 (by simp)
      first | exact (show _ from by simp only [← e15] at *; exact h) | (simp only [e15] at h; exact h)
    | 8, hx, h =>
      have e16 := hx 16 (by simp)
      first | exact (show _ from by simp only [← e16] at *; exact h) | (simp only [e16] at h; exact h)
    | 9, hx, h =>
      have e17 := hx 17 (by simp)
      first | exact (show _ from by simp only [← e17] at *; exact h) | (simp only [e17] at h; exact h)
    | 10, hx, h =>
      have e18 := hx 18 (by simp)
      first | exact (show _ from by simp only [← e18] at *; exact h) | (simp only [e18] at h; exact h)
    | 11, hx, h =>
      have e19 := hx 19 (by simp)
      first | exact (show _ from by simp only [← e19] at *; exact h) | (simp only [e19] at h; exact h)
    | 12, hx, h =>
      have e20 := hx 20 (by simp)
      first | exact (show _ from by simp only [← e20] at *; exact h) | (simp only [e20] at h; exact h)
    | 13, hx, h =>
      have e21 := hx 21 (by simp)
      first | exact (show _ from by simp only [← e21] at *; exact h) | (simp only [e21] at h; exact h)
    | 14, hx, h =>
      have e22 := hx 22 (by simp)
      first | exact (show _ from by simp only [← e22] at *; exact h) | (simp only [e22] at h; exact h)
    | 15, hx, h =>
      have e23 := hx 23 (by simp)
      first | exact (show _ from by simp only [← e23] at *; exact h) | (simp only [e23] at h; exact h)
    | 16, hx, h =>
      have e24 := hx 24 (by simp)
      first | exact (show _ from by simp only [← e24] at *; exact h) | (simp only [e24] at h; exact h)
    | 17, hx, h =>
      have e25 := hx 25 (by simp)
      first | exact (show _ from by simp only [← e25] at *; exact h) | (simp only [e25] at h; exact h)
    | 18, hx, h =>
      have e26 := hx 26 (by simp)
      first | exact (show _ from by simp only [← e26] at *; exact h) | (simp only [e26] at h; exact h)
    | 19, hx, h =>
      have e27 := hx 27 (by simp)
      first | exact (show _ from by simp only [← e27] at *; exact h) | (simp only [e27] at h; exact h)
    | 20, hx, h =>
      have e28 := hx 28 (by simp)
      first | exact (show _ from by simp only [← e28] at *; exact h) | (simp only [e28] at h; exact h)
    | 21, hx, h =>
      have e29 := hx 29 (by simp)
      first | exact (show _ from by simp only [← e29] at *; exact h) | (simp only [e29] at h; exact h)
    | 22, hx, h =>
      have e30 := hx 30 (by simp)
      first | exact (show _ from by simp only [← e30] at *; exact h) | (simp only [e30] at h; exact h)
    | 23, hx, h =>
      have e31 := hx 31 (by simp)
      first | exact (show _ from by simp only [← e31] at *; exact h) | (simp only [e31] at h; exact h)
    | 24, hx, h =>
      have e32 := hx 32 (by simp)
      first | exact (show _ from by simp only [← e32] at *; exact h) | (simp only [e32] at h; exact h)
    | 25, hx, h =>
      have e33 := hx 33 (by simp)
      first | exact (show _ from by simp only [← e33] at *; exact h) | (simp only [e33] at h; exact h)
    | 26, hx, h =>
      exact h
    | (n + 27), _, h => exact h
  case phh =>
    intro i j s w w' hij h r
    match i, hij, h with
    | 0, hij, h =>
      exact h
    | 1, hij, h =>
      exact h
    | 2, hij, h =>
      exact h
    | 3, hij, h =>
      exact h
    | 4, hij, h =>
      exact h
    | 5, hij, h =>
      exact h
    | 6, hij, h =>
      exact h
    | 7, hij, h =>
      exact h
    | 8, hij, h =>
      exact h
    | 9, hij, h =>
      exact h
    | 10, hij, h =>
      exact h
    | 11, hij, h =>
      exact h
    | 12, hij, h =>
      exact h
    | 13, hij, h =>
      exact h
    | 14, hij, h =>
      exact h
    | 15, hij, h =>
      exact h
    | 16, hij, h =>
      exact h
    | 17, hij, h =>
      exact h
    | 18, hij, h =>
      exact h
    | 19, hij, h =>
      exact h
    | 20, hij, h =>
      exact h
    | 21, hij, h =>
      exact h
    | 22, hij, h =>
      exact h
    | 23, hij, h =>
      exact h
    | 24, hij, h =>
      obtain ⟨gb, h1, h2, h3⟩ := h
      by_cases e : j = 25
      · exact ⟨gb, h1, h2, ((r.2 e).block gb (heap_lt h3) (fun e2 => by have := hrl gb e2.symm; omega)).trans h3⟩
      · exact ⟨gb, h1, h2, ((r.1 e).block _ (heap_lt h3)).trans h3⟩
    | 25, hij, h =>
      obtain ⟨ro2, rc2, h1, h2⟩ := h
      exact ⟨ro2, rc2, h1, below_row (r.1 (fun e => hij e.symm)) h2⟩
    | 26, hij, h =>
      exact h
    | (n + 27), _, h => exact h
  case pstep =>
    intro i o ho a' w' bb hbb hsa hb hd
    match i, ho with
    | 0, ho =>
      obtain rfl := Option.some.inj ho
      try dsimp only at hd
      have y := box_cell (hb.2.at hBox hn4) 0 rfl
      have g3 := (hsa.rest 3 (by rfl)).trans h3
      refine wpOp_of rfl rfl ?_
      refine op_run (v := Value.slice ro k rc) (w' := w') ?_ ⟨_, rfl, ?_, ?_⟩
      · simp only [execOp, Act.eval, List.map_toArray, List.map_cons, List.map_nil, y, g3]; first | (go_simp; done) | rfl
      · try dsimp only
        exact (slots_put (ns := 35) (hsa.size.trans hsz) (by decide))
      · exact ⟨fun _ => Below.refl _ _, fun e => by cases e⟩
    | 1, ho =>
      obtain rfl := Option.some.inj ho
      try dsimp only at hd
      have g4 := (hsa.rest 4 (by rfl)).trans h4
      refine wpOp_of rfl rfl ?_
      refine op_run (v := .slice (some ⟨g, off, none⟩) 5 5) (w' := w') ?_ ⟨_, rfl, ?_, ?_⟩
      · simp only [execOp, Act.eval, List.map_toArray, List.map_cons, List.map_nil, g4]; first | (go_simp; done) | rfl
      · try dsimp only
        exact (slots_put (ns := 35) (hsa.size.trans hsz) (by decide))
      · exact ⟨fun _ => Below.refl _ _, fun e => by cases e⟩
    | 2, ho =>
      obtain rfl := Option.some.inj ho
      try dsimp only at hd
      have d1 : a'.tmps.getD 9 undef = .slice (some ⟨g, off, none⟩) 5 5 := hd 1 (by rfl)
      refine wpOp_of rfl rfl ?_
      refine op_run (v := .pointer (some ⟨g, off, none⟩)) (w' := w') ?_ ⟨_, rfl, ?_, ?_⟩
      · simp only [execOp, Act.eval, List.map_toArray, List.map_cons, List.map_nil, d1]; first | (go_simp; done) | rfl
      · try dsimp only
        exact (slots_put (ns := 35) (hsa.size.trans hsz) (by decide))
      · exact ⟨fun _ => Below.refl _ _, fun e => by cases e⟩
    | 3, ho =>
      obtain rfl := Option.some.inj ho
      try dsimp only at hd
      have d2 : a'.tmps.getD 10 undef = .pointer (some ⟨g, off, none⟩) := hd 2 (by rfl)
      refine wpOp_of rfl rfl ?_
      refine op_run (v := .pointer (some ⟨g, off + 1, none⟩)) (w' := w') ?_ ⟨_, rfl, ?_, ?_⟩
      · simp only [execOp, Act.eval, List.map_toArray, List.map_cons, List.map_nil, d2]; first | (go_simp; done) | rfl
      · try dsimp only
        exact (slots_put (ns := 35) (hsa.size.trans hsz) (by decide))
      · exact ⟨fun _ => Below.refl _ _, fun e => by cases e⟩
    | 4, ho =>
      obtain rfl := Option.some.inj ho
      try dsimp only at hd
      have d3 : a'.tmps.getD 11 undef = .pointer (some ⟨g, off + 1, none⟩) := hd 3 (by rfl)
      have y := hb.2.cell _ y0 hng
      refine wpOp_of rfl rfl ?_
      refine op_run (v := .int .u64 z0) (w' := w') ?_ ⟨_, rfl, ?_, ?_⟩
      · simp only [execOp, Act.eval, List.map_toArray, List.map_cons, List.map_nil, d3, y]; first | (go_simp; done) | rfl
      · try dsimp only
        exact (slots_put (ns := 35) (hsa.size.trans hsz) (by decide))
      · exact ⟨fun _ => Below.refl _ _, fun e => by cases e⟩
    | 5, ho =>
      obtain rfl := Option.some.inj ho
      try dsimp only at hd
      have d4 : a'.tmps.getD 12 undef = .int .u64 z0 := hd 4 (by rfl)
      refine wpOp_of rfl rfl ?_
      refine op_run (v := .int .i64 (IntKind.i64.wrap z0)) (w' := w') ?_ ⟨_, rfl, ?_, ?_⟩
      · simp only [execOp, Act.eval, List.map_toArray, List.map_cons, List.map_nil, d4]; first | (go_simp; done) | rfl
      · try dsimp only
        exact (slots_put (ns := 35) (hsa.size.trans hsz) (by decide))
      · exact ⟨fun _ => Below.refl _ _, fun e => by cases e⟩
    | 6, ho =>
      obtain rfl := Option.some.inj ho
      try dsimp only at hd
      have g4 := (hsa.rest 4 (by rfl)).trans h4
      refine wpOp_of rfl rfl ?_
      refine op_run (v := .slice (some ⟨g, off, none⟩) 5 5) (w' := w') ?_ ⟨_, rfl, ?_, ?_⟩
      · simp only [execOp, Act.eval, List.map_toArray, List.map_cons, List.map_nil, g4]; first | (go_simp; done) | rfl
      · try dsimp only
        exact (slots_put (ns := 35) (hsa.size.trans hsz) (by decide))
      · exact ⟨fun _ => Below.refl _ _, fun e => by cases e⟩
    | 7, ho =>
      obtain rfl := Option.some.inj ho
      try dsimp only at hd
      have d6 : a'.tmps.getD 14 undef = .slice (some ⟨g, off, none⟩) 5 5 := hd 6 (by rfl)
      refine wpOp_of rfl rfl ?_
      refine op_run (v := .pointer (some ⟨g, off + 3, none⟩)) (w' := w') ?_ ⟨_, rfl, ?_, ?_⟩
      · simp only [execOp, Act.eval, List.map_toArray, List.map_cons, List.map_nil, d6]; first | (go_simp; done) | rfl
      · try dsimp only
        exact (slots_put (ns := 35) (hsa.size.trans hsz) (by decide))
      · exact ⟨fun _ => Below.refl _ _, fun e => by cases e⟩
    | 8, ho =>
      obtain rfl := Option.some.inj ho
      try dsimp only at hd
      have d7 : a'.tmps.getD 15 undef = .pointer (some ⟨g, off + 3, none⟩) := hd 7 (by rfl)
      refine wpOp_of rfl rfl ?_
      refine op_run (v := .pointer (some ⟨g, off + 5, none⟩)) (w' := w') ?_ ⟨_, rfl, ?_, ?_⟩
      · simp only [execOp, Act.eval, List.map_toArray, List.map_cons, List.map_nil, d7]; first | (go_simp; done) | rfl
      · try dsimp only
        exact (slots_put (ns := 35) (hsa.size.trans hsz) (by decide))
      · exact ⟨fun _ => Below.refl _ _, fun e => by cases e⟩
    | 9, ho =>
      obtain rfl := Option.some.inj ho
      try dsimp only at hd
      have d8 : a'.tmps.getD 16 undef = .pointer (some ⟨g, off + 5, none⟩) := hd 8 (by rfl)
      have y := hb.2.cell _ y1 hng
      refine wpOp_of rfl rfl ?_
      refine op_run (v := .string zp) (w' := w') ?_ ⟨_, rfl, ?_, ?_⟩
      · simp only [execOp, Act.eval, List.map_toArray, List.map_cons, List.map_nil, d8, y]; first | (go_simp; done) | rfl
      · try dsimp only
        exact (slots_put (ns := 35) (hsa.size.trans hsz) (by decide))
      · exact ⟨fun _ => Below.refl _ _, fun e => by cases e⟩
    | 10, ho =>
      obtain rfl := Option.some.inj ho
      try dsimp only at hd
      have g4 := (hsa.rest 4 (by rfl)).trans h4
      refine wpOp_of rfl rfl ?_
      refine op_run (v := .slice (some ⟨g, off, none⟩) 5 5) (w' := w') ?_ ⟨_, rfl, ?_, ?_⟩
      · simp only [execOp, Act.eval, List.map_toArray, List.map_cons, List.map_nil, g4]; first | (go_simp; done) | rfl
      · try dsimp only
        exact (slots_put (ns := 35) (hsa.size.trans hsz) (by decide))
      · exact ⟨fun _ => Below.refl _ _, fun e => by cases e⟩
    | 11, ho =>
      obtain rfl := Option.some.inj ho
      try dsimp only at hd
      have d10 : a'.tmps.getD 18 undef = .slice (some ⟨g, off, none⟩) 5 5 := hd 10 (by rfl)
      refine wpOp_of rfl rfl ?_
      refine op_run (v := .pointer (some ⟨g, off + 6, none⟩)) (w' := w') ?_ ⟨_, rfl, ?_, ?_⟩
      · simp only [execOp, Act.eval, List.map_toArray, List.map_cons, List.map_nil, d10]; first | (go_simp; done) | rfl
      · try dsimp only
        exact (slots_put (ns := 35) (hsa.size.trans hsz) (by decide))
      · exact ⟨fun _ => Below.refl _ _, fun e => by cases e⟩
    | 12, ho =>
      obtain rfl := Option.some.inj ho
      try dsimp only at hd
      have d11 : a'.tmps.getD 19 undef = .pointer (some ⟨g, off + 6, none⟩) := hd 11 (by rfl)
      refine wpOp_of rfl rfl ?_
      refine op_run (v := .pointer (some ⟨g, off + 7, none⟩)) (w' := w') ?_ ⟨_, rfl, ?_, ?_⟩
      · simp only [execOp, Act.eval, List.map_toArray, List.map_cons, List.map_nil, d11]; first | (go_simp; done) | rfl
      · try dsimp only
        exact (slots_put (ns := 35) (hsa.size.trans hsz) (by decide))
      · exact ⟨fun _ => Below.refl _ _, fun e => by cases e⟩
    | 13, ho =>
      obtain rfl := Option.some.inj ho
      try dsimp only at hd
      have d12 : a'.tmps.getD 20 undef = .pointer (some ⟨g, off + 7, none⟩) := hd 12 (by rfl)
      have y := hb.2.cell _ y2 hng
      refine wpOp_of rfl rfl ?_
      refine op_run (v := .int .u64 z2) (w' := w') ?_ ⟨_, rfl, ?_, ?_⟩
      · simp only [execOp, Act.eval, List.map_toArray, List.map_cons, List.map_nil, d12, y]; first | (go_simp; done) | rfl
      · try dsimp only
        exact (slots_put (ns := 35) (hsa.size.trans hsz) (by decide))
      · exact ⟨fun _ => Below.refl _ _, fun e => by cases e⟩
    | 14, ho =>
      obtain rfl := Option.some.inj ho
      try dsimp only at hd
      have d13 : a'.tmps.getD 21 undef = .int .u64 z2 := hd 13 (by rfl)
      refine wpOp_of rfl rfl ?_
      refine op_run (v := .int .i64 (IntKind.i64.wrap z2)) (w' := w') ?_ ⟨_, rfl, ?_, ?_⟩
      · simp only [execOp, Act.eval, List.map_toArray, List.map_cons, List.map_nil, d13]; first | (go_simp; done) | rfl
      · try dsimp only
        exact (slots_put (ns := 35) (hsa.size.trans hsz) (by decide))
      · exact ⟨fun _ => Below.refl _ _, fun e => by cases e⟩
    | 15, ho =>
      obtain rfl := Option.some.inj ho
      try dsimp only at hd
      have g4 := (hsa.rest 4 (by rfl)).trans h4
      refine wpOp_of rfl rfl ?_
      refine op_run (v := .slice (some ⟨g, off, none⟩) 5 5) (w' := w') ?_ ⟨_, rfl, ?_, ?_⟩
      · simp only [execOp, Act.eval, List.map_toArray, List.map_cons, List.map_nil, g4]; first | (go_simp; done) | rfl
      · try dsimp only
        exact (slots_put (ns := 35) (hsa.size.trans hsz) (by decide))
      · exact ⟨fun _ => Below.refl _ _, fun e => by cases e⟩
    | 16, ho =>
      obtain rfl := Option.some.inj ho
      try dsimp only at hd
      have d15 : a'.tmps.getD 23 undef = .slice (some ⟨g, off, none⟩) 5 5 := hd 15 (by rfl)
      refine wpOp_of rfl rfl ?_
      refine op_run (v := .pointer (some ⟨g, off + 9, none⟩)) (w' := w') ?_ ⟨_, rfl, ?_, ?_⟩
      · simp only [execOp, Act.eval, List.map_toArray, List.map_cons, List.map_nil, d15]; first | (go_simp; done) | rfl
      · try dsimp only
        exact (slots_put (ns := 35) (hsa.size.trans hsz) (by decide))
      · exact ⟨fun _ => Below.refl _ _, fun e => by cases e⟩
    | 17, ho =>
      obtain rfl := Option.some.inj ho
      try dsimp only at hd
      have d16 : a'.tmps.getD 24 undef = .pointer (some ⟨g, off + 9, none⟩) := hd 16 (by rfl)
      refine wpOp_of rfl rfl ?_
      refine op_run (v := .pointer (some ⟨g, off + 11, none⟩)) (w' := w') ?_ ⟨_, rfl, ?_, ?_⟩
      · simp only [execOp, Act.eval, List.map_toArray, List.map_cons, List.map_nil, d16]; first | (go_simp; done) | rfl
      · try dsimp only
        exact (slots_put (ns := 35) (hsa.size.trans hsz) (by decide))
      · exact ⟨fun _ => Below.refl _ _, fun e => by cases e⟩
    | 18, ho =>
      obtain rfl := Option.some.inj ho
      try dsimp only at hd
      have d17 : a'.tmps.getD 25 undef = .pointer (some ⟨g, off + 11, none⟩) := hd 17 (by rfl)
      have y := hb.2.cell _ y3 hng
      refine wpOp_of rfl rfl ?_
      refine op_run (v := .string zk) (w' := w') ?_ ⟨_, rfl, ?_, ?_⟩
      · simp only [execOp, Act.eval, List.map_toArray, List.map_cons, List.map_nil, d17, y]; first | (go_simp; done) | rfl
      · try dsimp only
        exact (slots_put (ns := 35) (hsa.size.trans hsz) (by decide))
      · exact ⟨fun _ => Below.refl _ _, fun e => by cases e⟩
    | 19, ho =>
      obtain rfl := Option.some.inj ho
      try dsimp only at hd
      have g4 := (hsa.rest 4 (by rfl)).trans h4
      refine wpOp_of rfl rfl ?_
      refine op_run (v := .slice (some ⟨g, off, none⟩) 5 5) (w' := w') ?_ ⟨_, rfl, ?_, ?_⟩
      · simp only [execOp, Act.eval, List.map_toArray, List.map_cons, List.map_nil, g4]; first | (go_simp; done) | rfl
      · try dsimp only
        exact (slots_put (ns := 35) (hsa.size.trans hsz) (by decide))
      · exact ⟨fun _ => Below.refl _ _, fun e => by cases e⟩
    | 20, ho =>
      obtain rfl := Option.some.inj ho
      try dsimp only at hd
      have d19 : a'.tmps.getD 27 undef = .slice (some ⟨g, off, none⟩) 5 5 := hd 19 (by rfl)
      refine wpOp_of rfl rfl ?_
      refine op_run (v := .pointer (some ⟨g, off + 12, none⟩)) (w' := w') ?_ ⟨_, rfl, ?_, ?_⟩
      · simp only [execOp, Act.eval, List.map_toArray, List.map_cons, List.map_nil, d19]; first | (go_simp; done) | rfl
      · try dsimp only
        exact (slots_put (ns := 35) (hsa.size.trans hsz) (by decide))
      · exact ⟨fun _ => Below.refl _ _, fun e => by cases e⟩
    | 21, ho =>
      obtain rfl := Option.some.inj ho
      try dsimp only at hd
      have d20 : a'.tmps.getD 28 undef = .pointer (some ⟨g, off + 12, none⟩) := hd 20 (by rfl)
      refine wpOp_of rfl rfl ?_
      refine op_run (v := .pointer (some ⟨g, off + 14, none⟩)) (w' := w') ?_ ⟨_, rfl, ?_, ?_⟩
      · simp only [execOp, Act.eval, List.map_toArray, List.map_cons, List.map_nil, d20]; first | (go_simp; done) | rfl
      · try dsimp only
        exact (slots_put (ns := 35) (hsa.size.trans hsz) (by decide))
      · exact ⟨fun _ => Below.refl _ _, fun e => by cases e⟩
    | 22, ho =>
      obtain rfl := Option.some.inj ho
      try dsimp only at hd
      have d21 : a'.tmps.getD 29 undef = .pointer (some ⟨g, off + 14, none⟩) := hd 21 (by rfl)
      have y := hb.2.cell _ y4 hng
      refine wpOp_of rfl rfl ?_
      refine op_run (v := .string zv) (w' := w') ?_ ⟨_, rfl, ?_, ?_⟩
      · simp only [execOp, Act.eval, List.map_toArray, List.map_cons, List.map_nil, d21, y]; first | (go_simp; done) | rfl
      · try dsimp only
        exact (slots_put (ns := 35) (hsa.size.trans hsz) (by decide))
      · exact ⟨fun _ => Below.refl _ _, fun e => by cases e⟩
    | 23, ho =>
      obtain rfl := Option.some.inj ho
      try dsimp only at hd
      have d5 : a'.tmps.getD 13 undef = .int .i64 (IntKind.i64.wrap z0) := hd 5 (by rfl)
      have d9 : a'.tmps.getD 17 undef = .string zp := hd 9 (by rfl)
      have d14 : a'.tmps.getD 22 undef = .int .i64 (IntKind.i64.wrap z2) := hd 14 (by rfl)
      have d18 : a'.tmps.getD 26 undef = .string zk := hd 18 (by rfl)
      have d22 : a'.tmps.getD 30 undef = .string zv := hd 22 (by rfl)
      refine wpOp_of rfl rfl ?_
      refine op_run (v := .agg #[.int .i64 (IntKind.i64.wrap z0), .string zp, .int .i64 (IntKind.i64.wrap z2), .string zk, .string zv]) (w' := w') ?_ ⟨_, rfl, ?_, ?_⟩
      · simp only [execOp, Act.eval, List.map_toArray, List.map_cons, List.map_nil, d5, d9, d14, d18, d22]; first | (go_simp; done) | rfl
      · try dsimp only
        exact (slots_put (ns := 35) (hsa.size.trans hsz) (by decide))
      · exact ⟨fun _ => Below.refl _ _, fun e => by cases e⟩
    | 24, ho =>
      obtain rfl := Option.some.inj ho
      try dsimp only at hd
      have d23 : a'.tmps.getD 31 undef = .agg #[.int .i64 (IntKind.i64.wrap z0), .string zp, .int .i64 (IntKind.i64.wrap z2), .string zk, .string zv] := hd 23 (by rfl)
      refine wpOp_of rfl rfl ?_
      refine op_run (v := Value.slice (some ⟨w'.heap.size, 0, none⟩) 1 1) (w' := w'.alloc (.cells #[.int .i64 (IntKind.i64.wrap z0), .string zp, .int .i64 (IntKind.i64.wrap z2), .string zk, .string zv] 39)) ?_ ⟨_, rfl, ?_, ?_⟩
      · simp only [execOp, Act.eval, List.map_toArray, List.map_cons, List.map_nil, d23]; first | (go_simp; done) | rfl
      · try dsimp only
        exact ⟨_, (slots_put (ns := 35) (hsa.size.trans hsz) (by decide)), hb.2.size, heap_alloc_new _ _⟩
      · exact ⟨fun _ => (Below.refl _ _).alloc (Nat.le_refl _) _, fun e => by cases e⟩
    | 25, ho =>
      obtain rfl := Option.some.inj ho
      try dsimp only at hd
      have d0 : a'.tmps.getD 8 undef = Value.slice ro k rc := hd 0 (by rfl)
      have d24 : ∃ gb, a'.tmps.getD 32 undef = .slice (some ⟨gb, 0, none⟩) 1 1 ∧ W.heap.size ≤ gb ∧ w'.heap[gb]? = some (.cells #[.int .i64 (IntKind.i64.wrap z0), .string zp, .int .i64 (IntKind.i64.wrap z2), .string zk, .string zv] 39 (0, 0)) := hd 24 (by rfl)
      refine wpOp_of rfl rfl ?_
      obtain ⟨gb, d24, _, h6⟩ := d24
      have hbl := hb.1 (hbb rfl)
      refine wp_append_own w' _ _ 35 rfl n0 39 i0 (.agg #[.int .i64 0, .string ⟨#[]⟩, .int .i64 0, .string ⟨#[]⟩, .string ⟨#[]⟩]) 5 64 Tryz.underlying35 hi hz0 hz1 hz2 rfl (by decide) (Value.slice ro k rc) k xs (by simp only [Act.eval, d0]) (below_row hbl hrow) ⟨gb, 0, none⟩ 1 1 [.int .i64 (IntKind.i64.wrap z0), .string zp, .int .i64 (IntKind.i64.wrap z2), .string zk, .string zv] (by simp only [Act.eval, d24]) rfl (fun j u hj => by
        rw [Addr.add_lit]
        simp only [Nat.zero_add]
        exact box_cell h6 j (by simpa using hj)) (by simp [Value.oneCell']) (by have : maxLen = 9223372036854775807 := rfl; omega) (by omega) (Nat.le_trans hn0 hbl.size) ?_
      intro v' w'' h7 h8 _
      obtain ⟨ro2, rc2, rfl⟩ := row_slice h7
      refine ⟨_, rfl, ⟨ro2, rc2, (slots_put (ns := 35) (hsa.size.trans hsz) (by decide)), h7⟩, fun e => absurd rfl e, fun _ => h8⟩
    | 26, ho =>
      obtain rfl := Option.some.inj ho
      try dsimp only at hd
      refine wpOp_of rfl rfl ?_
      refine op_run (v := undef) (w' := w') ?_ ⟨_, rfl, ?_, ?_⟩
      · rfl
      · try dsimp only
        trivial
      · exact ⟨fun _ => Below.refl _ _, fun e => by cases e⟩
    | (n + 27), ho => exact absurd ho (by simp)
  case pdone =>
    intro a' w' hsa hb hd
    have d25 : ∃ ro2 rc2, a'.tmps.getD 33 undef = .slice ro2 (k + 1) rc2 ∧ w'.ownsRow n0 39 5 (.slice ro2 (k + 1) rc2) (k + 1) (xs ++ [.int .i64 (IntKind.i64.wrap z0), .string zp, .int .i64 (IntKind.i64.wrap z2), .string zk, .string zv]) := hd 25 (by decide)
    obtain ⟨ro2, rc2, d25, h7⟩ := d25
    intro K2 hK2
    have g3 := (hsa.rest 3 (by rfl)).trans h3
    have q0 := hb.2.at hBox hn4
    have q2 := box_cell q0 0 rfl
    have zf := box_free q0 0
    refine op_skip (w' := w'.setCell ⟨b3, 0, none⟩ (.slice ro2 (k + 1) rc2)) ?_ (hK2 _ _ ?_)
    · simp only [execOp, Act.eval, d25, g3]
      first | (go_simp; done) | (go_simp; rfl)
    have h9 : (w'.setCell ⟨b3, 0, none⟩ (.slice ro2 (k + 1) rc2)).heap[b3]? = some (.cells #[.slice ro2 (k + 1) rc2] 35 (0, 0)) := by simpa using box_set q0 0 (.slice ro2 (k + 1) rc2)
    have h10 : (w'.setCell ⟨b3, 0, none⟩ (.slice ro2 (k + 1) rc2)).ownsRow n0 39 5 (.slice ro2 (k + 1) rc2) (k + 1) (xs ++ [.int .i64 (IntKind.i64.wrap z0), .string zp, .int .i64 (IntKind.i64.wrap z2), .string zk, .string zv]) := set_row h7 b3 0 _ (fun e => row_other h7 e q0 (by decide))
    exact HQ.out _ _ ro2 rc2 h9 h10 ((hb.2.mono (own' := fun i => i = b3 ∨ (Value.slice ro k rc).ownBlock = some i) (fun i _ e => .inr e)).setCell ⟨b3, 0, none⟩ _ (fun _ => .inl rfl))
end Go.Proofs.YtfoomgdlbkjaeaaGreat.Y
