/-
  keep, as it runs (mkj4.py).
-/
import Derived.Test.YtlfodldlkchmoaaGreatZJ3
import Derived.Test.YtlfodldlkchmoaaGreatZC4
import Derived.Test.YtlfodldlkchmoaaGreatZPhiG
import Derived.Laws.EntriesVeiled
namespace Go.Proofs.YtlfodldlkchmoaaGreat.Y
open Go.RowKit
set_option maxHeartbeats 8000000
set_option maxRecDepth 100000
attribute [local go_sem ↓] Go.wp_at_zero Go.wp_at_succ
set_option linter.unusedSimpArgs false
set_option linter.unusedVariables false
open Go.Maps
theorem frame_kp (t : Array Value) (h : t.size = 20) : ∃ u : Nat → Value, t = List.toArray (u 0 :: u 1 :: u 2 :: u 3 :: u 4 :: u 5 :: u 6 :: u 7 :: u 8 :: u 9 :: u 10 :: u 11 :: u 12 :: u 13 :: u 14 :: u 15 :: u 16 :: u 17 :: u 18 :: u 19 :: []) := by
  refine ⟨fun i => t.getD i undef, ?_⟩
  refine Eq.trans (b := ((List.range 20).map fun i => t.getD i undef).toArray) ?_ rfl
  apply Array.ext
  · simp [h]
  · intro k h1 h2
    simp [Array.getD, h1]
structure Vkp where
  v0 : Value
  v1 : Value
  v2 : Value
  v4 : Value
  v6 : Value
structure Fkp (a : Act) (v : Vkp) : Prop where
  size : a.tmps.size = 20
  defers : a.defers = []
  s0 : a.tmps.getD 0 undef = v.v0
  s1 : a.tmps.getD 1 undef = v.v1
  s2 : a.tmps.getD 2 undef = v.v2
  s4 : a.tmps.getD 4 undef = v.v4
  s6 : a.tmps.getD 6 undef = v.v6
theorem frx_kp {a : Act} {v0 v1 v2 v4 v6 : Value} (h : Fkp a ⟨v0, v1, v2, v4, v6⟩) : ∃ u : Nat → Value, a = ⟨List.toArray (v0 :: v1 :: v2 :: u 3 :: v4 :: u 5 :: v6 :: u 7 :: u 8 :: u 9 :: u 10 :: u 11 :: u 12 :: u 13 :: u 14 :: u 15 :: u 16 :: u 17 :: u 18 :: u 19 :: []), []⟩ := by
  obtain ⟨t', d'⟩ := a
  obtain ⟨hs, hd, q0, q1, q2, q4, q6⟩ := h
  obtain ⟨u, hu⟩ := frame_kp t' hs
  simp only at hd q0 q1 q2 q4 q6
  subst hu hd
  have e0 : u 0 = v0 := q0
  have e1 : u 1 = v1 := q1
  have e2 : u 2 = v2 := q2
  have e4 : u 4 = v4 := q4
  have e6 : u 6 = v6 := q6
  refine ⟨u, ?_⟩
  rw [e0, e1, e2, e4, e6]
theorem kp_r0 {K : Act → World → Prop} {c : Code} (hc : regOf (Tryz.f105.body.getD .skip) 0 = some c) (a : Act) {v : Vkp} {wq : World} {ss : SB} (hF : Fkp a v) (h1v : v.v1 = .agg #[.string ss.name, .string ss.top, .int .i64 ss.cur, .int .i64 ss.next]) (hQ : ∀ a', Fkp a' { v with v4 := .pointer (some ⟨wq.heap.size, 0, none⟩), v6 := .pointer (some ⟨wq.heap.size + 1, 0, none⟩) } → K a' ((wq.alloc (.cells #[.string ss.name, .string ss.top, .int .i64 ss.cur, .int .i64 ss.next] 91)).alloc (.cells #[.int .i64 0, .int .i64 0, .slice none 0 0] 37))) :
    Code.wp Tryz.prog c (Exit.then K fun _ _ _ => False) a wq := by
  have HQ := hide hQ
  clear hQ
  obtain ⟨v0, v1, v2, v4, v6⟩ := v
  simp only at h1v HQ
  subst h1v
  obtain ⟨u, rfl⟩ := frx_kp hF
  clear hF
  simp only [Tryz.f105, Option.getD_some, regOf] at hc
  injection hc with hc
  subst hc
  go_wp2
  exact HQ.out _ ⟨rfl, rfl, rfl, rfl, rfl, rfl, rfl⟩
theorem kp_r1 {K : Act → World → Prop} {c : Code} (hc : regOf (Tryz.f105.body.getD .skip) 1 = some c) (a : Act) {v : Vkp} {wq : World} {cd : Int} (hF : Fkp a v) (h2v : v.v2 = .int .i64 cd) (hQ : ∀ a', Fkp a' v → a'.tmps.getD 8 undef = .bool (cd == 0) → K a' wq) :
    Code.wp Tryz.prog c (Exit.then K fun _ _ _ => False) a wq := by
  have HQ := hide hQ
  clear hQ
  obtain ⟨v0, v1, v2, v4, v6⟩ := v
  simp only at h2v HQ
  subst h2v
  obtain ⟨u, rfl⟩ := frx_kp hF
  clear hF
  simp only [Tryz.f105, Option.getD_some, regOf] at hc
  injection hc with hc
  subst hc
  go_wp2
  exact HQ.out _ ⟨rfl, rfl, rfl, rfl, rfl, rfl, rfl⟩ (by first | rfl | (simp; done))
theorem kp_r2 {K : Act → World → Prop} {c : Code} (hc : regOf (Tryz.f105.body.getD .skip) 2 = some c) (a : Act) {v : Vkp} {wq : World} {mb zb sb : Nat} {ss : SB} {R : World → World → Prop} (hF : Fkp a v) (h0v : v.v0 = .pointer (some ⟨mb, 0, none⟩)) (h4v : v.v4 = .pointer (some ⟨sb, 0, none⟩)) (hmb : mb < wq.heap.size) (hm : wq.cell? ⟨mb, 11, none⟩ = some (.map (some zb))) (hS : wq.heap[sb]? = some (.cells #[.string ss.name, .string ss.top, .int .i64 ss.cur, .int .i64 ss.next] 91 (0, 0))) (hM : ∀ W, Below wq.heap.size wq W → ∃ W2, (Instr.mapUpdate 64 (.map (some zb)) (.string ss.name) (.agg #[.string ss.name, .string ss.top, .int .i64 ss.cur, .int .i64 ss.next])).run Tryz.prog W = .ok () W2 ∧ R W W2)
    (hQ : ∀ a' w1 w2, Fkp a' v → Below wq.heap.size wq w1 → R w1 w2 → K a' w2) :
    Code.wp Tryz.prog c (Exit.then K fun _ _ _ => False) a wq := by
  have HQ := hide hQ
  clear hQ
  obtain ⟨v0, v1, v2, v4, v6⟩ := v
  simp only at h0v h4v HQ
  subst h0v h4v
  obtain ⟨u, rfl⟩ := frx_kp hF
  clear hF
  simp only [Tryz.f105, Option.getD_some, regOf] at hc
  injection hc with hc
  subst hc
  have HM := hide hM
  clear hM
  refine wp_region_last 7 rfl (by kernel_rfl) rfl rfl (by kernel_rfl) ?_
  intro ops' hops'
  simp only [idle, List.setIfInBounds_toArray, List.set_cons_succ, List.set_cons_zero] at hops'
  subst hops'
  refine wpAny_phi (ns := 20) (uses := (fun i => match i with | 0 => [9] | 1 => [10] | 2 => [11] | 3 => [12] | 4 => [13] | 5 => [14] | 6 => [15] | 7 => [] | _ => [])) (by kernel_rfl) (by kernel_rfl) (fun _ w w' => Below w.heap.size w w') (fun w => Below wq.heap.size wq w) (fun _ _ _ h r => h.trans (r.mono h.size)) ((Below.refl _ _).drew) (fun i => match i with | 0 => fun s w => s 9 = .pointer (some ⟨mb, 0, none⟩) | 1 => fun s w => s 10 = .pointer (some ⟨mb, 0, none⟩) | 2 => fun s w => s 11 = .pointer (some ⟨mb, 11, none⟩) | 3 => fun s w => s 12 = .map (some zb) | 4 => fun s w => s 13 = .pointer (some ⟨sb, 0, none⟩) | 5 => fun s w => s 14 = .string ss.name | 6 => fun s w => s 15 = .agg #[.string ss.name, .string ss.top, .int .i64 ss.cur, .int .i64 ss.next] | 7 => fun s w => True | _ => fun _ _ => True) ?phc ?phh ?pstep ?pdone
  case phc =>
    intro i s s' w hx h
    match i, hx, h with
    | 0, hx, h => exact (hx 9 (by simp)).symm.trans h
    | 1, hx, h => exact (hx 10 (by simp)).symm.trans h
    | 2, hx, h => exact (hx 11 (by simp)).symm.trans h
    | 3, hx, h => exact (hx 12 (by simp)).symm.trans h
    | 4, hx, h => exact (hx 13 (by simp)).symm.trans h
    | 5, hx, h => exact (hx 14 (by simp)).symm.trans h
    | 6, hx, h => exact (hx 15 (by simp)).symm.trans h
    | 7, hx, h =>
      exact h
    | (n + 8), _, h => exact h
  case phh =>
    intro i j s w w' hij h hb r
    match i, hij, h with
    | 0, hij, h =>
      exact h
    | 1, hij, h =>
      exact h
    | 2, hij, h =>
      exact h
    | 3, hij, h =>
      exact h
    | 4, hij, h =>
      exact h
    | 5, hij, h =>
      exact h
    | 6, hij, h =>
      exact h
    | 7, hij, h =>
      exact h
    | (n + 8), _, h => exact h
  case pstep =>
    intro i o ho a' w' hsa hb hd
    match i, ho with
    | 0, ho =>
      obtain rfl := Option.some.inj ho
      try dsimp only at hd
      have g0 : a'.tmps.getD 0 undef = .pointer (some ⟨mb, 0, none⟩) := hsa.rest 0 (by rfl)
      refine wpOp_of rfl rfl ?_
      refine op_run (v := .pointer (some ⟨mb, 0, none⟩)) (w' := w') ?_ ⟨_, rfl, ?_, ?_⟩
      · simp only [execOp, Act.eval, g0]; first | (go_simp; done) | rfl
      · try dsimp only
        exact (slots_put (ns := 20) (hsa.size.trans rfl) (by decide))
      · exact Below.refl _ _
    | 1, ho =>
      obtain rfl := Option.some.inj ho
      try dsimp only at hd
      have d0 : a'.tmps.getD 9 undef = .pointer (some ⟨mb, 0, none⟩) := hd 0 (by rfl)
      refine wpOp_of rfl rfl ?_
      refine op_run (v := .pointer (some ⟨mb, 0, none⟩)) (w' := w') ?_ ⟨_, rfl, ?_, ?_⟩
      · simp only [execOp, Act.eval, d0]; first | (go_simp; done) | rfl
      · try dsimp only
        exact (slots_put (ns := 20) (hsa.size.trans rfl) (by decide))
      · exact Below.refl _ _
    | 2, ho =>
      obtain rfl := Option.some.inj ho
      try dsimp only at hd
      have d1 : a'.tmps.getD 10 undef = .pointer (some ⟨mb, 0, none⟩) := hd 1 (by rfl)
      refine wpOp_of rfl rfl ?_
      refine op_run (v := .pointer (some ⟨mb, 11, none⟩)) (w' := w') ?_ ⟨_, rfl, ?_, ?_⟩
      · simp only [execOp, Act.eval, d1]; first | (go_simp; done) | rfl
      · try dsimp only
        exact (slots_put (ns := 20) (hsa.size.trans rfl) (by decide))
      · exact Below.refl _ _
    | 3, ho =>
      obtain rfl := Option.some.inj ho
      try dsimp only at hd
      have d2 : a'.tmps.getD 11 undef = .pointer (some ⟨mb, 11, none⟩) := hd 2 (by rfl)
      have y : w'.cell? ⟨mb, 11, none⟩ = some (.map (some zb)) := (hb.cell (p := ⟨mb, 11, none⟩) hmb).trans hm
      refine wpOp_of rfl rfl ?_
      refine op_run (v := .map (some zb)) (w' := w') ?_ ⟨_, rfl, ?_, ?_⟩
      · simp only [execOp, Act.eval, d2, y]; first | (go_simp; done) | rfl
      · try dsimp only
        exact (slots_put (ns := 20) (hsa.size.trans rfl) (by decide))
      · exact Below.refl _ _
    | 4, ho =>
      obtain rfl := Option.some.inj ho
      try dsimp only at hd
      have g4 : a'.tmps.getD 4 undef = .pointer (some ⟨sb, 0, none⟩) := hsa.rest 4 (by rfl)
      refine wpOp_of rfl rfl ?_
      refine op_run (v := .pointer (some ⟨sb, 0, none⟩)) (w' := w') ?_ ⟨_, rfl, ?_, ?_⟩
      · simp only [execOp, Act.eval, g4]; first | (go_simp; done) | rfl
      · try dsimp only
        exact (slots_put (ns := 20) (hsa.size.trans rfl) (by decide))
      · exact Below.refl _ _
    | 5, ho =>
      obtain rfl := Option.some.inj ho
      try dsimp only at hd
      have d4 : a'.tmps.getD 13 undef = .pointer (some ⟨sb, 0, none⟩) := hd 4 (by rfl)
      have x0 : w'.cell? ⟨sb, 0, none⟩ = some (.string ss.name) := (hb.cell (p := ⟨sb, 0, none⟩) (heap_lt hS)).trans (box_cell hS 0 rfl)
      refine wpOp_of rfl rfl ?_
      refine op_run (v := .string ss.name) (w' := w') ?_ ⟨_, rfl, ?_, ?_⟩
      · simp only [execOp, Act.eval, d4, x0]; first | (go_simp; done) | rfl
      · try dsimp only
        exact (slots_put (ns := 20) (hsa.size.trans rfl) (by decide))
      · exact Below.refl _ _
    | 6, ho =>
      obtain rfl := Option.some.inj ho
      try dsimp only at hd
      have g4 : a'.tmps.getD 4 undef = .pointer (some ⟨sb, 0, none⟩) := hsa.rest 4 (by rfl)
      have x0 : w'.cell? ⟨sb, 0, none⟩ = some (.string ss.name) := (hb.cell (p := ⟨sb, 0, none⟩) (heap_lt hS)).trans (box_cell hS 0 rfl)
      have x1 : w'.cell? ⟨sb, 1, none⟩ = some (.string ss.top) := (hb.cell (p := ⟨sb, 1, none⟩) (heap_lt hS)).trans (box_cell hS 1 rfl)
      have x2 : w'.cell? ⟨sb, 2, none⟩ = some (.int .i64 ss.cur) := (hb.cell (p := ⟨sb, 2, none⟩) (heap_lt hS)).trans (box_cell hS 2 rfl)
      have x3 : w'.cell? ⟨sb, 3, none⟩ = some (.int .i64 ss.next) := (hb.cell (p := ⟨sb, 3, none⟩) (heap_lt hS)).trans (box_cell hS 3 rfl)
      refine wpOp_of rfl rfl ?_
      refine op_run (v := .agg #[.string ss.name, .string ss.top, .int .i64 ss.cur, .int .i64 ss.next]) (w' := w') ?_ ⟨_, rfl, ?_, ?_⟩
      · simp only [execOp, Act.eval, g4, x0, x1, x2, x3]; first | (go_simp; done) | rfl
      · try dsimp only
        exact (slots_put (ns := 20) (hsa.size.trans rfl) (by decide))
      · exact Below.refl _ _
    | 7, ho =>
      obtain rfl := Option.some.inj ho
      try dsimp only at hd
      refine wpOp_of rfl rfl ?_
      refine op_run (v := undef) (w' := w') ?_ ⟨_, rfl, ?_, ?_⟩
      · rfl
      · try dsimp only
        trivial
      · exact Below.refl _ _
    | (n + 8), ho => exact absurd ho (by simp)
  case pdone =>
    intro a' w' hsa hb hd
    have d0 : a'.tmps.getD 9 undef = .pointer (some ⟨mb, 0, none⟩) := hd 0 (by decide)
    have d1 : a'.tmps.getD 10 undef = .pointer (some ⟨mb, 0, none⟩) := hd 1 (by decide)
    have d2 : a'.tmps.getD 11 undef = .pointer (some ⟨mb, 11, none⟩) := hd 2 (by decide)
    have d3 : a'.tmps.getD 12 undef = .map (some zb) := hd 3 (by decide)
    have d4 : a'.tmps.getD 13 undef = .pointer (some ⟨sb, 0, none⟩) := hd 4 (by decide)
    have d5 : a'.tmps.getD 14 undef = .string ss.name := hd 5 (by decide)
    have d6 : a'.tmps.getD 15 undef = .agg #[.string ss.name, .string ss.top, .int .i64 ss.cur, .int .i64 ss.next] := hd 6 (by decide)
    have d7 : True := hd 7 (by decide)
    intro K2 hK2
    obtain ⟨w2, hrun, r2⟩ := HM.out w' hb
    refine op_skip (w' := w2) ?_ (hK2 _ _ ?_)
    · simp only [execOp, Act.eval, d3, d5, d6]
      first | (go_simp; done) | (simp [hrun]; done) | (rw [hrun]; rfl)
    exact HQ.out _ _ _ ⟨hsa.size.trans rfl, hsa.defers.trans rfl, hsa.rest 0 (by rfl), hsa.rest 1 (by rfl), hsa.rest 2 (by rfl), hsa.rest 4 (by rfl), hsa.rest 6 (by rfl)⟩ hb r2
theorem kp_r3 {K : Act → World → Prop} {c : Code} (hc : regOf (Tryz.f105.body.getD .skip) 3 = some c) (a : Act) {v : Vkp} {wq : World} {rb : Nat} {cd : Int} {sb : Nat} {ss : SB} (hF : Fkp a v) (h6v : v.v6 = .pointer (some ⟨rb, 0, none⟩)) (h2v : v.v2 = .int .i64 cd) (h4v : v.v4 = .pointer (some ⟨sb, 0, none⟩)) (hR : wq.heap[rb]? = some (.cells #[.int .i64 0, .int .i64 0, .slice none 0 0] 37 (0, 0))) (hS : wq.heap[sb]? = some (.cells #[.string ss.name, .string ss.top, .int .i64 ss.cur, .int .i64 ss.next] 91 (0, 0)))
    (hQ : ∀ a' w1, Fkp a' v → Below wq.heap.size wq w1 → K a' (set3 w1 rb (.int .i64 (numM cd ss.cur).code) (.int .i64 (numM cd ss.cur).n) (.slice none 0 0))) :
    Code.wp Tryz.prog c (Exit.then K fun _ _ _ => False) a wq := by
  have HQ := hide hQ
  clear hQ
  obtain ⟨v0, v1, v2, v4, v6⟩ := v
  simp only at h6v h2v h4v HQ
  subst h6v h2v h4v
  obtain ⟨u, rfl⟩ := frx_kp hF
  clear hF
  simp only [Tryz.f105, Option.getD_some, regOf] at hc
  injection hc with hc
  subst hc
  have HR := hide hR
  have s2c := box_cell hS 2 rfl
  clear hS
  have HE : Hid (Calls Tryz.prog 104 #[.int .i64 cd, .int .i64 ss.cur] wq fun e w' => e = .returned (.agg #[.int .i64 (numM cd ss.cur).code, .int .i64 (numM cd ss.cur).n, .slice none 0 0]) ∧ Below wq.heap.size wq w') := pnumbered cd ss.cur wq
  clear hR
  unfold set3 at HQ
  go_wp2_with (go_at_call 104; refine HE.out.mono ?_; rintro e w1 ⟨rfl, b1⟩; have hR2 := Below.at b1 HR.out; have R1 := hide b1; clear b1; have y0 := box_cell hR2 0 rfl; have y1 := box_cell hR2 1 rfl; have y2 := box_cell hR2 2 rfl; have f0 := box_free hR2 0; have f1 := box_free hR2 1; have f2 := box_free hR2 2; clear hR2)
  exact HQ.out _ _ ⟨rfl, rfl, rfl, rfl, rfl, rfl, rfl⟩ R1.out
theorem kp_ret {W : World} {a : Act} {v : Vkp} {rb : Nat} {x y : Int} {ao : Option Addr} {ln cp : Nat} {R : Ending → World → Prop} (hF : Fkp a v) (h0 : v.v6 = .pointer (some ⟨rb, 0, none⟩)) (hB : W.heap[rb]? = some (.cells #[.int .i64 x, .int .i64 y, .slice ao ln cp] 37 (0, 0))) (h : R (.returned (.agg #[.int .i64 x, .int .i64 y, .slice ao ln cp])) W) :
    bodyPost Tryz.prog Tryz.f105 R .ret a W := by
  have g0 := slot_get (hF.s6.trans h0)
  have e0 := box_cell hB 0 rfl
  have e1 := box_cell hB 1 rfl
  have e2 := box_cell hB 2 rfl
  refine bodyPost_ret (v := .agg #[.int .i64 x, .int .i64 y, .slice ao ln cp]) ?_ hF.defers h
  simp [results, Tryz.results105, go_sem, g0, e0, e1, e2]
theorem pkeep {w : World} {L : LM} {X : MS} (h : MAt w L X) (s : SB) (hs : s.name.size ≤ maxLen) (cd : Int) (hsn : X.sn < maxLen) :
    Calls Tryz.prog 105 #[.pointer (some ⟨L.b, 0, none⟩), .agg #[.string s.name, .string s.top, .int .i64 s.cur, .int .i64 s.next], .int .i64 cd] w fun e w' => e = .returned (keepM X s cd).1.v0 ∧ ∃ L', MAt w' L' (keepM X s cd).2 ∧ MStep w w' L L' := by
  have b1 : Below w.heap.size w ((w.alloc (.cells #[.string s.name, .string s.top, .int .i64 s.cur, .int .i64 s.next] 91)).alloc (.cells #[.int .i64 0, .int .i64 0, .slice none 0 0] 37)) := ((Below.refl w.heap.size w).alloc (Nat.le_refl _) _).alloc (by simp) _
  have s1 : ((w.alloc (.cells #[.string s.name, .string s.top, .int .i64 s.cur, .int .i64 s.next] 91)).alloc (.cells #[.int .i64 0, .int .i64 0, .slice none 0 0] 37)).heap[w.heap.size]? = some (.cells #[.string s.name, .string s.top, .int .i64 s.cur, .int .i64 s.next] 91 (0, 0)) := Below.at ((Below.refl _ _).alloc (Nat.le_refl _) _) (heap_alloc_new w _)
  have r1 : ((w.alloc (.cells #[.string s.name, .string s.top, .int .i64 s.cur, .int .i64 s.next] 91)).alloc (.cells #[.int .i64 0, .int .i64 0, .slice none 0 0] 37)).heap[w.heap.size + 1]? = some (.cells #[.int .i64 0, .int .i64 0, .slice none 0 0] 37 (0, 0)) := by
    have := heap_alloc_new (w.alloc (.cells #[.string s.name, .string s.top, .int .i64 s.cur, .int .i64 s.next] 91)) (.cells #[.int .i64 0, .int .i64 0, .slice none 0 0] 37)
    simpa using this
  go_enter Tryz.func105, Tryz.ntmps105
  refine wp_seq (reg_mono (kp_r0 (by kernel_rfl) _ (v := ⟨_, _, _, _, _⟩) (ss := s) ⟨rfl, rfl, rfl, rfl, rfl, rfl, rfl⟩ rfl ?_))
  intro a0 F0
  try dsimp only at F0
  generalize (w.alloc _).alloc _ = w1 at *
  have h1 := h.below b1
  have l1 := h1.lt.1
  have hl := h.lt
  refine wp_seq (wp_seq (reg_mono (kp_r1 (by kernel_rfl) _ F0 rfl ?_)))
  intro a1 F1 g1
  unfold keepM
  by_cases hc : cd = 0
  · subst hc
    rw [if_pos rfl]
    refine wp_cond_true g1 ?_
    refine reg_all (kp_r2 (R := fun W W2 => W2.ownsMap Tryz.prog 9 subR L.sb (X.sn + 1) (L.sD.put (.string s.name.data.toList) s.d) ∧ W.mapTurned W2 L.sb) (by kernel_rfl) _ F1 rfl rfl l1 (h1.cells.2.2.2.2) s1 (fun W hW => ?_) ?_)
    · obtain ⟨W2, e1, e2, e3⟩ := (h1.below hW).smap.store keyedS Tryz.underlying64 hsn (Go.WideMaps.keyOf_string_mk (P := Tryz.prog) Tryz.underlying9 (s := s.name) hs) (subR_mk s)
      exact ⟨W2, e1, e2, e3⟩
    intro a2 w2 w3 F2 b2 ⟨o3, t3⟩
    have h2 := h1.below b2
    obtain ⟨h3, st3⟩ := h2.subbed s.name hs rfl t3 o3
    have s3 := (turned_touch t3).at (Below.at b2 s1) (fun e => by omega)
    have r3 := (turned_touch t3).at (Below.at b2 r1) (fun e => by omega)
    show Code.wp _ _ _ _ _
    refine wp_seq (reg_mono (kp_r3 (by kernel_rfl) _ F2 rfl rfl rfl r3 s3 ?_))
    intro a3 w4 F3 b4
    refine wp_ret ?_
    obtain ⟨h5, st5⟩ := h.fin (rb := w.heap.size + 1) b1 (Nat.le_succ _) (heap_lt r1) (h3.below b4) ((MStep.below b2).trans (st3.then b4)) (set3_touch (x0 := .int .i64 (numM 0 s.cur).code) (x1 := .int .i64 (numM 0 s.cur).n) (x2 := .slice none 0 0))
    exact kp_ret F3 rfl (set3_box (Below.at b4 r3)) ⟨rfl, _, h5, st5⟩
  · rw [if_neg hc]
    rw [beq_eq_false_iff_ne.2 hc] at g1
    refine wp_cond_false g1 (wp_skip ?_)
    show Code.wp _ _ _ _ _
    refine wp_seq (reg_mono (kp_r3 (by kernel_rfl) _ F1 rfl rfl rfl r1 s1 ?_))
    intro a3 w4 F3 b4
    refine wp_ret ?_
    have bb : Below w.heap.size w (set3 w4 (w.heap.size + 1) (.int .i64 (numM cd s.cur).code) (.int .i64 (numM cd s.cur).n) (.slice none 0 0)) := (b1.trans (b4.mono b1.size)).trans (touch_newX set3_touch (Nat.le_trans b1.size b4.size) (fun k e => by omega))
    exact kp_ret F3 rfl (set3_box (Below.at b4 r1)) ⟨rfl, L, h.below bb, MStep.below bb⟩
end Go.Proofs.YtlfodldlkchmoaaGreat.Y
