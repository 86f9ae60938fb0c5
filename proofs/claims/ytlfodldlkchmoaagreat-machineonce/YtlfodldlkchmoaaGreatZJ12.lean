/-
  create, as it runs (mkj12.py).
-/
import Derived.Test.YtlfodldlkchmoaaGreatZJ6
import Derived.Test.YtlfodldlkchmoaaGreatZPhiS
namespace Go.Proofs.YtlfodldlkchmoaaGreat.Y
open Go.RowKit
set_option maxHeartbeats 8000000
set_option maxRecDepth 100000
attribute [local go_sem ↓] Go.wp_at_zero Go.wp_at_succ
set_option linter.unusedSimpArgs false
set_option linter.unusedVariables false
open Go.Maps
theorem frame_mg (t : Array Value) (h : t.size = 39) : ∃ u : Nat → Value, t = List.toArray (u 0 :: u 1 :: u 2 :: u 3 :: u 4 :: u 5 :: u 6 :: u 7 :: u 8 :: u 9 :: u 10 :: u 11 :: u 12 :: u 13 :: u 14 :: u 15 :: u 16 :: u 17 :: u 18 :: u 19 :: u 20 :: u 21 :: u 22 :: u 23 :: u 24 :: u 25 :: u 26 :: u 27 :: u 28 :: u 29 :: u 30 :: u 31 :: u 32 :: u 33 :: u 34 :: u 35 :: u 36 :: u 37 :: u 38 :: []) := by
  refine ⟨fun i => t.getD i undef, ?_⟩
  refine Eq.trans (b := ((List.range 39).map fun i => t.getD i undef).toArray) ?_ rfl
  apply Array.ext
  · simp [h]
  · intro k h1 h2
    simp [Array.getD, h1]
structure Vmg where
  v0 : Value
  v1 : Value
  v3 : Value
  v4 : Value
  v5 : Value
  v6 : Value
structure Fmg (a : Act) (v : Vmg) : Prop where
  size : a.tmps.size = 39
  defers : a.defers = []
  s0 : a.tmps.getD 0 undef = v.v0
  s1 : a.tmps.getD 1 undef = v.v1
  s3 : a.tmps.getD 3 undef = v.v3
  s4 : a.tmps.getD 4 undef = v.v4
  s5 : a.tmps.getD 5 undef = v.v5
  s6 : a.tmps.getD 6 undef = v.v6
theorem frx_mg {a : Act} {v0 v1 v3 v4 v5 v6 : Value} (h : Fmg a ⟨v0, v1, v3, v4, v5, v6⟩) : ∃ u : Nat → Value, a = ⟨List.toArray (v0 :: v1 :: u 2 :: v3 :: v4 :: v5 :: v6 :: u 7 :: u 8 :: u 9 :: u 10 :: u 11 :: u 12 :: u 13 :: u 14 :: u 15 :: u 16 :: u 17 :: u 18 :: u 19 :: u 20 :: u 21 :: u 22 :: u 23 :: u 24 :: u 25 :: u 26 :: u 27 :: u 28 :: u 29 :: u 30 :: u 31 :: u 32 :: u 33 :: u 34 :: u 35 :: u 36 :: u 37 :: u 38 :: []), []⟩ := by
  obtain ⟨t', d'⟩ := a
  obtain ⟨hs, hd, q0, q1, q3, q4, q5, q6⟩ := h
  obtain ⟨u, hu⟩ := frame_mg t' hs
  simp only at hd q0 q1 q3 q4 q5 q6
  subst hu hd
  have e0 : u 0 = v0 := q0
  have e1 : u 1 = v1 := q1
  have e3 : u 3 = v3 := q3
  have e4 : u 4 = v4 := q4
  have e5 : u 5 = v5 := q5
  have e6 : u 6 = v6 := q6
  refine ⟨u, ?_⟩
  rw [e0, e1, e3, e4, e5, e6]
theorem mg_r0 {K : Act → World → Prop} {c : Code} (hc : regOf (Tryz.f57.body.getD .skip) 0 = some c) (a : Act) {v : Vmg} {wq : World} {cm : CM} (hF : Fmg a v) (h1v : v.v1 = .agg #[.int .i64 cm.kind, .string cm.topic, .string cm.name, .int .i64 cm.seq, .string cm.key, .string cm.val, .int .i64 cm.n, .int .i64 cm.node, .int .i64 cm.ask]) (hQ : ∀ a', Fmg a' { v with v3 := .pointer (some ⟨wq.heap.size, 0, none⟩), v4 := .pointer (some ⟨wq.heap.size + 1, 0, none⟩) } → K a' ((wq.alloc (.cells #[.int .i64 cm.kind, .string cm.topic, .string cm.name, .int .i64 cm.seq, .string cm.key, .string cm.val, .int .i64 cm.n, .int .i64 cm.node, .int .i64 cm.ask] 31)).alloc (.cells #[.int .i64 0, .int .i64 0, .slice none 0 0] 37))) :
    Code.wp Tryz.prog c (Exit.then K fun _ _ _ => False) a wq := by
  have HQ := hide hQ
  clear hQ
  obtain ⟨v0, v1, v3, v4, v5, v6⟩ := v
  simp only at h1v HQ
  subst h1v
  obtain ⟨u, rfl⟩ := frx_mg hF
  clear hF
  simp only [Tryz.f57, Option.getD_some, regOf] at hc
  injection hc with hc
  subst hc
  go_wp2
  exact HQ.out _ ⟨rfl, rfl, rfl, rfl, rfl, rfl, rfl, rfl⟩
theorem mg_ret {W : World} {a : Act} {v : Vmg} {rb : Nat} {x y : Int} {ao : Option Addr} {ln cp : Nat} {R : Ending → World → Prop} (hF : Fmg a v) (h0 : v.v4 = .pointer (some ⟨rb, 0, none⟩)) (hB : W.heap[rb]? = some (.cells #[.int .i64 x, .int .i64 y, .slice ao ln cp] 37 (0, 0))) (h : R (.returned (.agg #[.int .i64 x, .int .i64 y, .slice ao ln cp])) W) :
    bodyPost Tryz.prog Tryz.f57 R .ret a W := by
  have g0 := slot_get (hF.s4.trans h0)
  have e0 := box_cell hB 0 rfl
  have e1 := box_cell hB 1 rfl
  have e2 := box_cell hB 2 rfl
  refine bodyPost_ret (v := .agg #[.int .i64 x, .int .i64 y, .slice ao ln cp]) ?_ hF.defers h
  simp [results, Tryz.results57, go_sem, g0, e0, e1, e2]
theorem mg_r1 {K : Act → World → Prop} {c : Code} (hc : regOf (Tryz.f57.body.getD .skip) 1 = some c) (a : Act) {v : Vmg} {wq : World} {mb zb cb : Nat} {cm : CM} {tv : Option Addr} {ok : Bool} (hF : Fmg a v) (h0v : v.v0 = .pointer (some ⟨mb, 0, none⟩)) (h3v : v.v3 = .pointer (some ⟨cb, 0, none⟩)) (hmb : mb < wq.heap.size) (hm : wq.cell? ⟨mb, 10, none⟩ = some (.map (some zb))) (hC : wq.heap[cb]? = some (.cells #[.int .i64 cm.kind, .string cm.topic, .string cm.name, .int .i64 cm.seq, .string cm.key, .string cm.val, .int .i64 cm.n, .int .i64 cm.node, .int .i64 cm.ask] 31 (0, 0))) (hL : (Instr.lookup 63 (.map (some zb)) (.string cm.topic) true).run Tryz.prog wq.drew = .ok (.tuple #[.pointer tv, .bool ok]) wq.drew)
    (hQ : ∀ a', Fmg a' { v with v5 := .pointer tv, v6 := .bool ok } → K a' wq.drew) :
    Code.wp Tryz.prog c (Exit.then K fun _ _ _ => False) a wq := by
  have HQ := hide hQ
  clear hQ
  obtain ⟨v0, v1, v3, v4, v5, v6⟩ := v
  simp only at h0v h3v HQ
  subst h0v h3v
  obtain ⟨u, rfl⟩ := frx_mg hF
  clear hF
  simp only [Tryz.f57, Option.getD_some, regOf] at hc
  injection hc with hc
  subst hc
  have z1 := box_cell hC 1 rfl
  clear hC
  go_region
  all_goals exact HQ.out _ ⟨rfl, rfl, rfl, rfl, rfl, rfl, rfl, rfl⟩
theorem mg_r2 {K : Act → World → Prop} {c : Code} (hc : regOf (Tryz.f57.body.getD .skip) 2 = some c) (a : Act) {v : Vmg} {wq : World} {ok : Bool} (hF : Fmg a v) (h6v : v.v6 = .bool ok) (hQ : ∀ a', Fmg a' v → a'.tmps.getD 17 undef = .bool ok → K a' wq) :
    Code.wp Tryz.prog c (Exit.then K fun _ _ _ => False) a wq := by
  have HQ := hide hQ
  clear hQ
  obtain ⟨v0, v1, v3, v4, v5, v6⟩ := v
  simp only at h6v HQ
  subst h6v
  obtain ⟨u, rfl⟩ := frx_mg hF
  clear hF
  simp only [Tryz.f57, Option.getD_some, regOf] at hc
  injection hc with hc
  subst hc
  go_wp2
  exact HQ.out _ ⟨rfl, rfl, rfl, rfl, rfl, rfl, rfl, rfl⟩ (by first | rfl | (simp; done))
theorem mg_r3 {K : Act → World → Prop} {c : Code} (hc : regOf (Tryz.f57.body.getD .skip) 3 = some c) (a : Act) {v : Vmg} {wq : World} {rb : Nat}  (hF : Fmg a v) (h4v : v.v4 = .pointer (some ⟨rb, 0, none⟩)) (hR : wq.heap[rb]? = some (.cells #[.int .i64 0, .int .i64 0, .slice none 0 0] 37 (0, 0)))
    (hQ : ∀ a' w1, Fmg a' v → Below wq.heap.size wq w1 → K a' (set3 w1 rb (.int .i64 4) (.int .i64 0) (.slice none 0 0))) :
    Code.wp Tryz.prog c (Exit.then K fun _ _ _ => False) a wq := by
  have HQ := hide hQ
  clear hQ
  obtain ⟨v0, v1, v3, v4, v5, v6⟩ := v
  simp only at h4v HQ
  subst h4v
  obtain ⟨u, rfl⟩ := frx_mg hF
  clear hF
  simp only [Tryz.f57, Option.getD_some, regOf] at hc
  injection hc with hc
  subst hc
  have HR := hide hR
  have HE : Hid (Calls Tryz.prog 29 #[.int .i64 4] wq fun e w' => e = .returned (.agg #[.int .i64 4, .int .i64 0, .slice none 0 0]) ∧ Below wq.heap.size wq w') := pcoded 4 wq
  clear hR
  unfold set3 at HQ
  go_wp2_with (go_at_call 29; refine HE.out.mono ?_; rintro e w1 ⟨rfl, b1⟩; have hR2 := Below.at b1 HR.out; have R1 := hide b1; clear b1; have y0 := box_cell hR2 0 rfl; have y1 := box_cell hR2 1 rfl; have y2 := box_cell hR2 2 rfl; have f0 := box_free hR2 0; have f1 := box_free hR2 1; have f2 := box_free hR2 2; clear hR2)
  exact HQ.out _ _ ⟨rfl, rfl, rfl, rfl, rfl, rfl, rfl, rfl⟩ R1.out
theorem mg_r4 {K : Act → World → Prop} {c : Code} (hc : regOf (Tryz.f57.body.getD .skip) 4 = some c) (a : Act) {v : Vmg} {wq : World} {mb zb n : Nat} (hF : Fmg a v) (h0v : v.v0 = .pointer (some ⟨mb, 0, none⟩)) (hmb : mb < wq.heap.size) (hm : wq.cell? ⟨mb, 10, none⟩ = some (.map (some zb))) (hN : (Builtin.len_ #[63] 3 #[.map (some zb)]).run Tryz.prog wq = .ok (.int .i64 (n : Int)) wq)
    (hQ : ∀ a', Fmg a' v → a'.tmps.getD 24 undef = .bool (decide (20 ≤ n)) → K a' wq) :
    Code.wp Tryz.prog c (Exit.then K fun _ _ _ => False) a wq := by
  have HQ := hide hQ
  clear hQ
  obtain ⟨v0, v1, v3, v4, v5, v6⟩ := v
  simp only at h0v HQ
  subst h0v
  obtain ⟨u, rfl⟩ := frx_mg hF
  clear hF
  simp only [Tryz.f57, Option.getD_some, regOf] at hc
  injection hc with hc
  subst hc
  go_wp2
  exact HQ.out _ ⟨rfl, rfl, rfl, rfl, rfl, rfl, rfl, rfl⟩ (by first | rfl | (simp; done) | (simp; omega))
theorem mg_r5 {K : Act → World → Prop} {c : Code} (hc : regOf (Tryz.f57.body.getD .skip) 5 = some c) (a : Act) {v : Vmg} {wq : World} {rb : Nat}  (hF : Fmg a v) (h4v : v.v4 = .pointer (some ⟨rb, 0, none⟩)) (hR : wq.heap[rb]? = some (.cells #[.int .i64 0, .int .i64 0, .slice none 0 0] 37 (0, 0)))
    (hQ : ∀ a' w1, Fmg a' v → Below wq.heap.size wq w1 → K a' (set3 w1 rb (.int .i64 3) (.int .i64 0) (.slice none 0 0))) :
    Code.wp Tryz.prog c (Exit.then K fun _ _ _ => False) a wq := by
  have HQ := hide hQ
  clear hQ
  obtain ⟨v0, v1, v3, v4, v5, v6⟩ := v
  simp only at h4v HQ
  subst h4v
  obtain ⟨u, rfl⟩ := frx_mg hF
  clear hF
  simp only [Tryz.f57, Option.getD_some, regOf] at hc
  injection hc with hc
  subst hc
  have HR := hide hR
  have HE : Hid (Calls Tryz.prog 29 #[.int .i64 3] wq fun e w' => e = .returned (.agg #[.int .i64 3, .int .i64 0, .slice none 0 0]) ∧ Below wq.heap.size wq w') := pcoded 3 wq
  clear hR
  unfold set3 at HQ
  go_wp2_with (go_at_call 29; refine HE.out.mono ?_; rintro e w1 ⟨rfl, b1⟩; have hR2 := Below.at b1 HR.out; have R1 := hide b1; clear b1; have y0 := box_cell hR2 0 rfl; have y1 := box_cell hR2 1 rfl; have y2 := box_cell hR2 2 rfl; have f0 := box_free hR2 0; have f1 := box_free hR2 1; have f2 := box_free hR2 2; clear hR2)
  exact HQ.out _ _ ⟨rfl, rfl, rfl, rfl, rfl, rfl, rfl, rfl⟩ R1.out
theorem mg_r6 {K : Act → World → Prop} {c : Code} (hc : regOf (Tryz.f57.body.getD .skip) 6 = some c) (a : Act) {v : Vmg} {wq : World} {mb zb cb : Nat} {cm : CM} {RT : LOC → World → Prop} {R : LOC → World → World → Prop} (hF : Fmg a v) (h0v : v.v0 = .pointer (some ⟨mb, 0, none⟩)) (h3v : v.v3 = .pointer (some ⟨cb, 0, none⟩)) (hmb : mb < wq.heap.size) (hm : wq.cell? ⟨mb, 10, none⟩ = some (.map (some zb))) (hC : wq.heap[cb]? = some (.cells #[.int .i64 cm.kind, .string cm.topic, .string cm.name, .int .i64 cm.seq, .string cm.key, .string cm.val, .int .i64 cm.n, .int .i64 cm.node, .int .i64 cm.ask] 31 (0, 0))) (hst : ∀ T w w', RT T w → Below w.heap.size w w' → RT T w') (hst2 : ∀ T w w', RT T w → Touch (fun k => k = zb) w w' → RT T w') (hr : ∀ T w1 w w', R T w1 w → Below w.heap.size w w' → R T w1 w') (hA : ∀ W, Below wq.heap.size wq W → Calls Tryz.prog 102 #[.string cm.topic] W fun e w' => ∃ T : LOC, e = .returned (.tuple #[.pointer (some ⟨LOC.b T, 0, none⟩), .int .i64 0]) ∧ RT T w' ∧ Below W.heap.size W w') (hM : ∀ W T, Below wq.heap.size wq W → RT T W → ∃ W2, (Instr.mapUpdate 63 (.map (some zb)) (.string cm.topic) (.pointer (some ⟨LOC.b T, 0, none⟩))).run Tryz.prog W = .ok () W2 ∧ R T W W2 ∧ Touch (fun k => k = zb) W W2)
    (hQ : ∀ a' w1 w2 T, Fmg a' v → Below wq.heap.size wq w1 → RT T w1 → R T w1 w2 → K a' w2) :
    Code.wp Tryz.prog c (Exit.then K fun _ _ _ => False) a wq := by
  have HQ := hide hQ
  clear hQ
  obtain ⟨v0, v1, v3, v4, v5, v6⟩ := v
  simp only at h0v h3v HQ
  subst h0v h3v
  obtain ⟨u, rfl⟩ := frx_mg hF
  clear hF
  simp only [Tryz.f57, Option.getD_some, regOf] at hc
  injection hc with hc
  subst hc
  have HA := hide hA
  have HM := hide hM
  have HST := hide hst
  have HST2 := hide hst2
  have HR := hide hr
  clear hA hM hst hst2 hr
  refine wp_region_any rfl ?_
  refine wpAny_store (ns := 39) (uses := (fun i => match i with | 0 => [27] | 1 => [28] | 2 => [29] | 3 => [30] | 4 => [31] | 5 => [32] | 6 => [33] | 7 => [34] | 8 => [35] | 9 => [26] | 10 => [36] | 11 => [37] | 12 => [] | _ => [])) (by kernel_rfl) (by kernel_rfl) (fun j w w' => (j ≠ 12 → Below w.heap.size w w') ∧ (j = 12 → Touch (fun k => k = zb) w w')) 12 (by decide) (fun bb w => (bb = false → Below wq.heap.size wq w) ∧ Touch (fun k => k = zb) wq w) (fun j b w w' hj h r => ⟨fun e => (h.1 e).trans ((r.1 hj).mono (h.1 e).size), h.2.below (r.1 hj)⟩) (fun w w' h r => ⟨fun e => (by cases e), h.2.andThen (r.2 rfl) (fun _ _ e => e)⟩) ⟨fun _ => (Below.refl _ _).drew, (Touch.refl _ _).drew⟩ (fun i => match i with | 0 => fun s w => s 27 = .pointer (some ⟨mb, 0, none⟩) | 1 => fun s w => s 28 = .pointer (some ⟨mb, 0, none⟩) | 2 => fun s w => s 29 = .pointer (some ⟨mb, 10, none⟩) | 3 => fun s w => s 30 = .map (some zb) | 4 => fun s w => s 31 = .pointer (some ⟨cb, 1, none⟩) | 5 => fun s w => s 32 = .string cm.topic | 6 => fun s w => s 33 = .pointer (some ⟨cb, 1, none⟩) | 7 => fun s w => s 34 = .string cm.topic | 8 => fun s w => ∃ T : LOC, s 35 = .tuple #[.pointer (some ⟨LOC.b T, 0, none⟩), .int .i64 0] ∧ RT T w | 9 => fun s w => ∃ T : LOC, s 26 = .tuple #[.pointer (some ⟨LOC.b T, 0, none⟩), .int .i64 0] ∧ RT T w | 10 => fun s w => ∃ T : LOC, s 36 = .pointer (some ⟨LOC.b T, 0, none⟩) ∧ RT T w | 11 => fun s w => s 37 = .int .i64 0 | 12 => fun s w => ∃ (T : LOC) (w1 : World), RT T w1 ∧ Below wq.heap.size wq w1 ∧ R T w1 w | _ => fun _ _ => True) ?phc ?phh ?pstep ?pdone
  case phc =>
    intro i s s' w hx h
    match i, hx, h with
    | 0, hx, h =>
      have e27 := hx 27 (by simp)
      first | exact (show _ from by simp only [← e27] at *; exact h) | (simp only [e27] at h; exact h)
    | 1, hx, h =>
      have e28 := hx 28 (by simp)
      first | exact (show _ from by simp only [← e28] at *; exact h) | (simp only [e28] at h; exact h)
    | 2, hx, h =>
      have e29 := hx 29 (by simp)
      first | exact (show _ from by simp only [← e29] at *; exact h) | (simp only [e29] at h; exact h)
    | 3, hx, h =>
      have e30 := hx 30 (by simp)
      first | exact (show _ from by simp only [← e30] at *; exact h) | (simp only [e30] at h; exact h)
    | 4, hx, h =>
      have e31 := hx 31 (by simp)
      first | exact (show _ from by simp only [← e31] at *; exact h) | (simp only [e31] at h; exact h)
    | 5, hx, h =>
      have e32 := hx 32 (by simp)
      first | exact (show _ from by simp only [← e32] at *; exact h) | (simp only [e32] at h; exact h)
    | 6, hx, h =>
      have e33 := hx 33 (by simp)
      first | exact (show _ from by simp only [← e33] at *; exact h) | (simp only [e33] at h; exact h)
    | 7, hx, h =>
      have e34 := hx 34 (by simp)
      first | exact (show _ from by simp only [← e34] at *; exact h) | (simp only [e34] at h; exact h)
    | 8, hx, h =>
      have e35 := hx 35 (by simp)
      first | exact (show _ from by simp only [← e35] at *; exact h) | (simp only [e35] at h; exact h)
    | 9, hx, h =>
      have e26 := hx 26 (by simp)
      first | exact (show _ from by simp only [← e26] at *; exact h) | (simp only [e26] at h; exact h)
    | 10, hx, h =>
      have e36 := hx 36 (by simp)
      first | exact (show _ from by simp only [← e36] at *; exact h) | (simp only [e36] at h; exact h)
    | 11, hx, h =>
      have e37 := hx 37 (by simp)
      first | exact (show _ from by simp only [← e37] at *; exact h) | (simp only [e37] at h; exact h)
    | 12, hx, h =>
      exact h
    | (n + 13), _, h => exact h
  case phh =>
    intro i j s w w' hij h r
    match i, hij, h with
    | 0, hij, h =>
      exact h
    | 1, hij, h =>
      exact h
    | 2, hij, h =>
      exact h
    | 3, hij, h =>
      exact h
    | 4, hij, h =>
      exact h
    | 5, hij, h =>
      exact h
    | 6, hij, h =>
      exact h
    | 7, hij, h =>
      exact h
    | 8, hij, h =>
      obtain ⟨T, h1, h2⟩ := h
      by_cases e12 : j = 12
      · exact ⟨T, h1, HST2.out _ _ _ h2 (r.2 e12)⟩
      · exact ⟨T, h1, HST.out _ _ _ h2 (r.1 e12)⟩
    | 9, hij, h =>
      obtain ⟨T, h1, h2⟩ := h
      by_cases e12 : j = 12
      · exact ⟨T, h1, HST2.out _ _ _ h2 (r.2 e12)⟩
      · exact ⟨T, h1, HST.out _ _ _ h2 (r.1 e12)⟩
    | 10, hij, h =>
      obtain ⟨T, h1, h2⟩ := h
      by_cases e12 : j = 12
      · exact ⟨T, h1, HST2.out _ _ _ h2 (r.2 e12)⟩
      · exact ⟨T, h1, HST.out _ _ _ h2 (r.1 e12)⟩
    | 11, hij, h =>
      exact h
    | 12, hij, h =>
      obtain ⟨T, w1, h1, h2, h3⟩ := h
      exact ⟨T, w1, h1, h2, HR.out _ _ _ _ h3 (r.1 (fun e => hij e.symm))⟩
    | (n + 13), _, h => exact h
  case pstep =>
    intro i o ho a' w' bb hbb hsa hb hd
    match i, ho with
    | 0, ho =>
      obtain rfl := Option.some.inj ho
      try dsimp only at hd
      have g0 : a'.tmps.getD 0 undef = .pointer (some ⟨mb, 0, none⟩) := hsa.rest 0 (by rfl)
      refine wpOp_of rfl rfl ?_
      refine op_run (v := .pointer (some ⟨mb, 0, none⟩)) (w' := w') ?_ ⟨_, rfl, ?_, ?_⟩
      · simp only [execOp, Act.eval, List.map_toArray, List.map_cons, List.map_nil, g0]; first | (go_simp; done) | rfl
      · try dsimp only
        exact (slots_put (ns := 39) (hsa.size.trans rfl) (by decide))
      · exact ⟨fun _ => Below.refl _ _, fun e => by cases e⟩
    | 1, ho =>
      obtain rfl := Option.some.inj ho
      try dsimp only at hd
      have d0 : a'.tmps.getD 27 undef = .pointer (some ⟨mb, 0, none⟩) := hd 0 (by rfl)
      refine wpOp_of rfl rfl ?_
      refine op_run (v := .pointer (some ⟨mb, 0, none⟩)) (w' := w') ?_ ⟨_, rfl, ?_, ?_⟩
      · simp only [execOp, Act.eval, List.map_toArray, List.map_cons, List.map_nil, d0]; first | (go_simp; done) | rfl
      · try dsimp only
        exact (slots_put (ns := 39) (hsa.size.trans rfl) (by decide))
      · exact ⟨fun _ => Below.refl _ _, fun e => by cases e⟩
    | 2, ho =>
      obtain rfl := Option.some.inj ho
      try dsimp only at hd
      have d1 : a'.tmps.getD 28 undef = .pointer (some ⟨mb, 0, none⟩) := hd 1 (by rfl)
      refine wpOp_of rfl rfl ?_
      refine op_run (v := .pointer (some ⟨mb, 10, none⟩)) (w' := w') ?_ ⟨_, rfl, ?_, ?_⟩
      · simp only [execOp, Act.eval, List.map_toArray, List.map_cons, List.map_nil, d1]; first | (go_simp; done) | rfl
      · try dsimp only
        exact (slots_put (ns := 39) (hsa.size.trans rfl) (by decide))
      · exact ⟨fun _ => Below.refl _ _, fun e => by cases e⟩
    | 3, ho =>
      obtain rfl := Option.some.inj ho
      try dsimp only at hd
      have hb0 := hb.1 (hbb (by kernel_rfl))
      have d2 : a'.tmps.getD 29 undef = .pointer (some ⟨mb, 10, none⟩) := hd 2 (by rfl)
      have y : w'.cell? ⟨mb, 10, none⟩ = some (.map (some zb)) := (hb0.cell (p := ⟨mb, 10, none⟩) hmb).trans hm
      refine wpOp_of rfl rfl ?_
      refine op_run (v := .map (some zb)) (w' := w') ?_ ⟨_, rfl, ?_, ?_⟩
      · simp only [execOp, Act.eval, List.map_toArray, List.map_cons, List.map_nil, d2, y]; first | (go_simp; done) | rfl
      · try dsimp only
        exact (slots_put (ns := 39) (hsa.size.trans rfl) (by decide))
      · exact ⟨fun _ => Below.refl _ _, fun e => by cases e⟩
    | 4, ho =>
      obtain rfl := Option.some.inj ho
      try dsimp only at hd
      have g3 : a'.tmps.getD 3 undef = .pointer (some ⟨cb, 0, none⟩) := hsa.rest 3 (by rfl)
      refine wpOp_of rfl rfl ?_
      refine op_run (v := .pointer (some ⟨cb, 1, none⟩)) (w' := w') ?_ ⟨_, rfl, ?_, ?_⟩
      · simp only [execOp, Act.eval, List.map_toArray, List.map_cons, List.map_nil, g3]; first | (go_simp; done) | rfl
      · try dsimp only
        exact (slots_put (ns := 39) (hsa.size.trans rfl) (by decide))
      · exact ⟨fun _ => Below.refl _ _, fun e => by cases e⟩
    | 5, ho =>
      obtain rfl := Option.some.inj ho
      try dsimp only at hd
      have hb0 := hb.1 (hbb (by kernel_rfl))
      have d4 : a'.tmps.getD 31 undef = .pointer (some ⟨cb, 1, none⟩) := hd 4 (by rfl)
      have z : w'.cell? ⟨cb, 1, none⟩ = some (.string cm.topic) := (hb0.cell (p := ⟨cb, 1, none⟩) (heap_lt hC)).trans (box_cell hC 1 rfl)
      refine wpOp_of rfl rfl ?_
      refine op_run (v := .string cm.topic) (w' := w') ?_ ⟨_, rfl, ?_, ?_⟩
      · simp only [execOp, Act.eval, List.map_toArray, List.map_cons, List.map_nil, d4, z]; first | (go_simp; done) | rfl
      · try dsimp only
        exact (slots_put (ns := 39) (hsa.size.trans rfl) (by decide))
      · exact ⟨fun _ => Below.refl _ _, fun e => by cases e⟩
    | 6, ho =>
      obtain rfl := Option.some.inj ho
      try dsimp only at hd
      have g3 : a'.tmps.getD 3 undef = .pointer (some ⟨cb, 0, none⟩) := hsa.rest 3 (by rfl)
      refine wpOp_of rfl rfl ?_
      refine op_run (v := .pointer (some ⟨cb, 1, none⟩)) (w' := w') ?_ ⟨_, rfl, ?_, ?_⟩
      · simp only [execOp, Act.eval, List.map_toArray, List.map_cons, List.map_nil, g3]; first | (go_simp; done) | rfl
      · try dsimp only
        exact (slots_put (ns := 39) (hsa.size.trans rfl) (by decide))
      · exact ⟨fun _ => Below.refl _ _, fun e => by cases e⟩
    | 7, ho =>
      obtain rfl := Option.some.inj ho
      try dsimp only at hd
      have hb0 := hb.1 (hbb (by kernel_rfl))
      have d6 : a'.tmps.getD 33 undef = .pointer (some ⟨cb, 1, none⟩) := hd 6 (by rfl)
      have z : w'.cell? ⟨cb, 1, none⟩ = some (.string cm.topic) := (hb0.cell (p := ⟨cb, 1, none⟩) (heap_lt hC)).trans (box_cell hC 1 rfl)
      refine wpOp_of rfl rfl ?_
      refine op_run (v := .string cm.topic) (w' := w') ?_ ⟨_, rfl, ?_, ?_⟩
      · simp only [execOp, Act.eval, List.map_toArray, List.map_cons, List.map_nil, d6, z]; first | (go_simp; done) | rfl
      · try dsimp only
        exact (slots_put (ns := 39) (hsa.size.trans rfl) (by decide))
      · exact ⟨fun _ => Below.refl _ _, fun e => by cases e⟩
    | 8, ho =>
      obtain rfl := Option.some.inj ho
      try dsimp only at hd
      have hb0 := hb.1 (hbb (by kernel_rfl))
      have d7 : a'.tmps.getD 34 undef = .string cm.topic := hd 7 (by rfl)
      refine wpOp_of rfl rfl ?_
      refine op_call 102 _ _ rfl (enters_of Tryz.func102 (by kernel_rfl) rfl) [.string cm.topic] (by simp only [List.map, Act.eval, d7]) (HA.out w' hb0) ?_
      rintro e w'' ⟨T, rfl, ra, b2⟩
      refine ⟨_, rfl, _, rfl, ?_, ?_⟩
      · try dsimp only
        exact ⟨T, (slots_put (ns := 39) (hsa.size.trans rfl) (by decide)), ra⟩
      · exact ⟨fun _ => b2, fun e => by cases e⟩
    | 9, ho =>
      obtain rfl := Option.some.inj ho
      try dsimp only at hd
      have d8 : ∃ T : LOC, a'.tmps.getD 35 undef = .tuple #[.pointer (some ⟨LOC.b T, 0, none⟩), .int .i64 0] ∧ RT T w' := hd 8 (by rfl)
      obtain ⟨T, q1, q2⟩ := d8
      refine wpOp_of rfl rfl ?_
      refine op_run (v := .tuple #[.pointer (some ⟨LOC.b T, 0, none⟩), .int .i64 0]) (w' := w') ?_ ⟨_, rfl, ?_, ?_⟩
      · simp only [execOp, Act.eval, List.map_toArray, List.map_cons, List.map_nil, q1]; first | (go_simp; done) | rfl
      · try dsimp only
        exact ⟨T, (slots_put (ns := 39) (hsa.size.trans rfl) (by decide)), q2⟩
      · exact ⟨fun _ => Below.refl _ _, fun e => by cases e⟩
    | 10, ho =>
      obtain rfl := Option.some.inj ho
      try dsimp only at hd
      have d9 : ∃ T : LOC, a'.tmps.getD 26 undef = .tuple #[.pointer (some ⟨LOC.b T, 0, none⟩), .int .i64 0] ∧ RT T w' := hd 9 (by rfl)
      obtain ⟨T, q1, q2⟩ := d9
      refine wpOp_of rfl rfl ?_
      refine op_run (v := .pointer (some ⟨LOC.b T, 0, none⟩)) (w' := w') ?_ ⟨_, rfl, ?_, ?_⟩
      · simp only [execOp, Act.eval, List.map_toArray, List.map_cons, List.map_nil, q1]; first | (go_simp; done) | rfl
      · try dsimp only
        exact ⟨T, (slots_put (ns := 39) (hsa.size.trans rfl) (by decide)), q2⟩
      · exact ⟨fun _ => Below.refl _ _, fun e => by cases e⟩
    | 11, ho =>
      obtain rfl := Option.some.inj ho
      try dsimp only at hd
      have d9 : ∃ T : LOC, a'.tmps.getD 26 undef = .tuple #[.pointer (some ⟨LOC.b T, 0, none⟩), .int .i64 0] ∧ RT T w' := hd 9 (by rfl)
      obtain ⟨T, q1, q2⟩ := d9
      refine wpOp_of rfl rfl ?_
      refine op_run (v := .int .i64 0) (w' := w') ?_ ⟨_, rfl, ?_, ?_⟩
      · simp only [execOp, Act.eval, List.map_toArray, List.map_cons, List.map_nil, q1]; first | (go_simp; done) | rfl
      · try dsimp only
        exact (slots_put (ns := 39) (hsa.size.trans rfl) (by decide))
      · exact ⟨fun _ => Below.refl _ _, fun e => by cases e⟩
    | 12, ho =>
      obtain rfl := Option.some.inj ho
      try dsimp only at hd
      have hb0 := hb.1 (hbb (by kernel_rfl))
      have d3 : a'.tmps.getD 30 undef = .map (some zb) := hd 3 (by rfl)
      have d5 : a'.tmps.getD 32 undef = .string cm.topic := hd 5 (by rfl)
      have d10 : ∃ T : LOC, a'.tmps.getD 36 undef = .pointer (some ⟨LOC.b T, 0, none⟩) ∧ RT T w' := hd 10 (by rfl)
      obtain ⟨T, q1, q2⟩ := d10
      obtain ⟨w2, hrun, r2, tt2⟩ := HM.out w' T hb0 q2
      refine wpOp_of rfl rfl ?_
      refine op_skip (w' := w2) ?_ ⟨undef, rfl, ?_, ?_⟩
      · simp only [execOp, Act.eval, q1, d3, d5, hrun]; first | (go_simp; done) | rfl
      · try dsimp only
        exact ⟨T, w', q2, hb0, r2⟩
      · exact ⟨fun e => absurd rfl e, fun _ => tt2⟩
    | (n + 13), ho => exact absurd ho (by simp)
  case pdone =>
    intro a' w' hsa hb hd
    have d0 : a'.tmps.getD 27 undef = .pointer (some ⟨mb, 0, none⟩) := hd 0 (by decide)
    have d1 : a'.tmps.getD 28 undef = .pointer (some ⟨mb, 0, none⟩) := hd 1 (by decide)
    have d2 : a'.tmps.getD 29 undef = .pointer (some ⟨mb, 10, none⟩) := hd 2 (by decide)
    have d3 : a'.tmps.getD 30 undef = .map (some zb) := hd 3 (by decide)
    have d4 : a'.tmps.getD 31 undef = .pointer (some ⟨cb, 1, none⟩) := hd 4 (by decide)
    have d5 : a'.tmps.getD 32 undef = .string cm.topic := hd 5 (by decide)
    have d6 : a'.tmps.getD 33 undef = .pointer (some ⟨cb, 1, none⟩) := hd 6 (by decide)
    have d7 : a'.tmps.getD 34 undef = .string cm.topic := hd 7 (by decide)
    have d8 : ∃ T : LOC, a'.tmps.getD 35 undef = .tuple #[.pointer (some ⟨LOC.b T, 0, none⟩), .int .i64 0] ∧ RT T w' := hd 8 (by decide)
    have d9 : ∃ T : LOC, a'.tmps.getD 26 undef = .tuple #[.pointer (some ⟨LOC.b T, 0, none⟩), .int .i64 0] ∧ RT T w' := hd 9 (by decide)
    have d10 : ∃ T : LOC, a'.tmps.getD 36 undef = .pointer (some ⟨LOC.b T, 0, none⟩) ∧ RT T w' := hd 10 (by decide)
    have d11 : a'.tmps.getD 37 undef = .int .i64 0 := hd 11 (by decide)
    have d12 : ∃ (T : LOC) (w1 : World), RT T w1 ∧ Below wq.heap.size wq w1 ∧ R T w1 w' := hd 12 (by decide)
    obtain ⟨T, w1, k1, k2, k3⟩ := d12
    exact HQ.out _ w1 w' T ⟨hsa.size.trans rfl, hsa.defers.trans rfl, hsa.rest 0 (by rfl), hsa.rest 1 (by rfl), hsa.rest 3 (by rfl), hsa.rest 4 (by rfl), hsa.rest 5 (by rfl), hsa.rest 6 (by rfl)⟩ k2 k1 k3
theorem mg_r7 {K : Act → World → Prop} {c : Code} (hc : regOf (Tryz.f57.body.getD .skip) 7 = some c) (a : Act) {v : Vmg} {wq : World} {rb : Nat}  (hF : Fmg a v) (h4v : v.v4 = .pointer (some ⟨rb, 0, none⟩)) (hR : wq.heap[rb]? = some (.cells #[.int .i64 0, .int .i64 0, .slice none 0 0] 37 (0, 0)))
    (hQ : ∀ a' w1, Fmg a' v → Below wq.heap.size wq w1 → K a' (set3 w1 rb (.int .i64 0) (.int .i64 0) (.slice none 0 0))) :
    Code.wp Tryz.prog c (Exit.then K fun _ _ _ => False) a wq := by
  have HQ := hide hQ
  clear hQ
  obtain ⟨v0, v1, v3, v4, v5, v6⟩ := v
  simp only at h4v HQ
  subst h4v
  obtain ⟨u, rfl⟩ := frx_mg hF
  clear hF
  simp only [Tryz.f57, Option.getD_some, regOf] at hc
  injection hc with hc
  subst hc
  have HR := hide hR
  have HE : Hid (Calls Tryz.prog 29 #[.int .i64 0] wq fun e w' => e = .returned (.agg #[.int .i64 0, .int .i64 0, .slice none 0 0]) ∧ Below wq.heap.size wq w') := pcoded 0 wq
  clear hR
  unfold set3 at HQ
  go_wp2_with (go_at_call 29; refine HE.out.mono ?_; rintro e w1 ⟨rfl, b1⟩; have hR2 := Below.at b1 HR.out; have R1 := hide b1; clear b1; have y0 := box_cell hR2 0 rfl; have y1 := box_cell hR2 1 rfl; have y2 := box_cell hR2 2 rfl; have f0 := box_free hR2 0; have f1 := box_free hR2 1; have f2 := box_free hR2 2; clear hR2)
  exact HQ.out _ _ ⟨rfl, rfl, rfl, rfl, rfl, rfl, rfl, rfl⟩ R1.out
theorem pmcreate {w : World} {L : LM} {X : MS} {c : Nat} (h : MAt w L X) (hk : X.Ok c) (hc : c + 1 ≤ 100000) (cm : CM) (hx : cm.right = true) (hword : wordB cm.topic = true) :
    Calls Tryz.prog 57 #[.pointer (some ⟨L.b, 0, none⟩), .agg #[.int .i64 cm.kind, .string cm.topic, .string cm.name, .int .i64 cm.seq, .string cm.key, .string cm.val, .int .i64 cm.n, .int .i64 cm.node, .int .i64 cm.ask]] w fun e w' => Gave w L (createM X cm) e w' := by
  have b1 : Below w.heap.size w ((w.alloc (.cells #[.int .i64 cm.kind, .string cm.topic, .string cm.name, .int .i64 cm.seq, .string cm.key, .string cm.val, .int .i64 cm.n, .int .i64 cm.node, .int .i64 cm.ask] 31)).alloc (.cells #[.int .i64 0, .int .i64 0, .slice none 0 0] 37)) := ((Below.refl w.heap.size w).alloc (Nat.le_refl _) _).alloc (by simp) _
  have c1 : ((w.alloc (.cells #[.int .i64 cm.kind, .string cm.topic, .string cm.name, .int .i64 cm.seq, .string cm.key, .string cm.val, .int .i64 cm.n, .int .i64 cm.node, .int .i64 cm.ask] 31)).alloc (.cells #[.int .i64 0, .int .i64 0, .slice none 0 0] 37)).heap[w.heap.size]? = some (.cells #[.int .i64 cm.kind, .string cm.topic, .string cm.name, .int .i64 cm.seq, .string cm.key, .string cm.val, .int .i64 cm.n, .int .i64 cm.node, .int .i64 cm.ask] 31 (0, 0)) := Below.at ((Below.refl _ _).alloc (Nat.le_refl _) _) (heap_alloc_new w _)
  have r1 : ((w.alloc (.cells #[.int .i64 cm.kind, .string cm.topic, .string cm.name, .int .i64 cm.seq, .string cm.key, .string cm.val, .int .i64 cm.n, .int .i64 cm.node, .int .i64 cm.ask] 31)).alloc (.cells #[.int .i64 0, .int .i64 0, .slice none 0 0] 37)).heap[w.heap.size + 1]? = some (.cells #[.int .i64 0, .int .i64 0, .slice none 0 0] 37 (0, 0)) := by
    have := heap_alloc_new (w.alloc (.cells #[.int .i64 cm.kind, .string cm.topic, .string cm.name, .int .i64 cm.seq, .string cm.key, .string cm.val, .int .i64 cm.n, .int .i64 cm.node, .int .i64 cm.ask] 31)) (.cells #[.int .i64 0, .int .i64 0, .slice none 0 0] 37)
    simpa using this
  obtain ⟨sz1, sz2, sz3, sz4⟩ := cm_sizes hx
  have szT : cm.topic.size ≤ maxLen := by unfold maxLen; omega
  have szN : cm.name.size ≤ maxLen := by unfold maxLen; omega
  go_enter Tryz.func57, Tryz.ntmps57
  refine wp_seq (reg_mono (mg_r0 (by kernel_rfl) _ (v := ⟨_, _, _, _, _, _⟩) (cm := cm) ⟨rfl, rfl, rfl, rfl, rfl, rfl, rfl, rfl⟩ rfl ?_))
  intro a0 F0
  try dsimp only at F0
  generalize (w.alloc _).alloc _ = w1 at *
  have h1 := h.below b1
  have l1 := h1.lt.1
  have m1 := h1.cells
  have LT := h1.lookT (W := w1.drew) rfl cm.topic szT
  refine wp_seq (wp_seq (reg_mono (mg_r1 (by kernel_rfl) _ F0 rfl rfl l1 m1.2.2.2.1 c1 LT ?_)))
  intro a1 F1
  try dsimp only at F1
  have b2 : Below w.heap.size w w1.drew := b1.drew
  have h2 : MAt w1.drew L X := h1.below ⟨rfl, rfl, rfl, Nat.le_refl _, fun _ _ => rfl⟩
  have c2 : w1.drew.heap[w.heap.size]? = _ := c1
  have r2 : w1.drew.heap[w.heap.size + 1]? = _ := r1
  generalize w1.drew = w2 at *
  refine wp_seq (reg_mono (mg_r2 (by kernel_rfl) _ F1 rfl ?_))
  intro a2 F2 g2
  cases hT : X.T cm.topic.data.toList with
  | some H =>
    rw [hT] at g2
    have hE : createM X cm = (codedM 4, X) := by unfold createM; rw [hT]
    rw [hE]
    refine wp_cond_true g2 ?_
    refine wp_seq (reg_mono (mg_r3 (by kernel_rfl) _ F2 rfl r2 ?_))
    intro a9 w9 F9 b9
    refine wp_ret ?_
    have bb : Below w.heap.size w (set3 w9 (w.heap.size + 1) (.int .i64 4) (.int .i64 0) (.slice none 0 0)) := (b2.trans (b9.mono b2.size)).trans (touch_newX set3_touch (Nat.le_trans b2.size b9.size) (fun k e => by omega))
    exact mg_ret F9 rfl (set3_box (Below.at b9 r2)) (gave0 rfl rfl rfl (h.below bb) (MStep.below bb))
  | none =>
    rw [hT] at g2
    refine wp_cond_false g2 (wp_skip ?_)
    show Code.wp _ _ _ _ _
    have LN := h2.tmap.len Tryz.underlying63 3
    rw [h2.tsize] at LN
    refine wp_seq (wp_seq (reg_mono (mg_r4 (by kernel_rfl) _ F2 rfl h2.lt.1 h2.cells.2.2.2.1 LN ?_)))
    intro a4 F4 g4
    by_cases h20 : 20 ≤ X.tn
    case pos =>
      rw [decide_eq_true h20] at g4
      have hE : createM X cm = (codedM 3, X) := by unfold createM; rw [hT]; exact if_pos h20
      rw [hE]
      refine wp_cond_true g4 ?_
      refine wp_seq (reg_mono (mg_r5 (by kernel_rfl) _ F4 rfl r2 ?_))
      intro a9 w9 F9 b9
      refine wp_ret ?_
      have bb : Below w.heap.size w (set3 w9 (w.heap.size + 1) (.int .i64 3) (.int .i64 0) (.slice none 0 0)) := (b2.trans (b9.mono b2.size)).trans (touch_newX set3_touch (Nat.le_trans b2.size b9.size) (fun k e => by omega))
      exact mg_ret F9 rfl (set3_box (Below.at b9 r2)) (gave0 rfl rfl rfl (h.below bb) (MStep.below bb))
    rw [decide_eq_false h20] at g4
    refine wp_cond_false g4 (wp_skip ?_)
    show Code.wp _ _ _ _ _
    have hE : createM X cm = (codedM 0, X.newT cm.topic.data.toList (TG.new cm.topic)) := by unfold createM; rw [hT]; exact if_neg h20
    rw [hE]
    have szn : X.tn < maxLen := by have := hk.tn; unfold maxLen; omega
    have szw := b2.size
    refine wp_seq (reg_mono (mg_r6 (RT := fun T W => TAt W T (TG.new cm.topic) ∧ ∀ j, T.own j → w2.heap.size ≤ j) (R := fun T W W2 => W2.ownsMap Tryz.prog 9 ptrR L.tb (X.tn + 1) (dput L.tD cm.topic.data.toList T.b) ∧ Touch (fun k => k = L.tb) W W2) (by kernel_rfl) _ F4 rfl rfl h2.lt.1 h2.cells.2.2.2.1 c2 (fun T W W' q b => ⟨q.1.below b, q.2⟩) (fun T W W' q t => ⟨q.1.keep t (fun j hj e => by have := q.2 j hj; have := h2.lt.2.1; omega), q.2⟩) (fun T W1 W W' q b => ⟨(Touch.of_below (own := fun _ => False) b).map q.1 (fun e => e), q.2.below b⟩) (fun W hW => (tnew cm.topic (by omega) W).mono fun e w' q => ?_) (fun W T hW q => ?_) ?_))
    · obtain ⟨q1, q2 | ⟨q2, T, q3, q4, q5⟩⟩ := q
      · rw [hword] at q2; cases q2.1
      · exact ⟨T, q3, ⟨q4, fun j hj => Nat.le_trans hW.size (q5 j hj)⟩, q1⟩
    · obtain ⟨W2, e1, e2, e3⟩ := (h2.below hW).tmap.store keyedS Tryz.underlying63 szn (Go.WideMaps.keyOf_string_mk (P := Tryz.prog) Tryz.underlying9 (s := cm.topic) szT) (ptrR_some T.b)
      exact ⟨W2, e1, ⟨e2, turned_touch e3⟩, turned_touch e3⟩
    rintro a6 w6 w7 T F6 b6 ⟨tA, tB⟩ ⟨o7, t7⟩
    have h6 := h2.below b6
    have free : ∀ j, T.own j → L.r j = none := by
      intro j hj
      cases e : L.r j with
      | none => rfl
      | some x =>
        have := h2.lim j (by rw [e]; exact fun e => by cases e)
        have := tB j hj
        omega
    obtain ⟨h7, st7⟩ := h6.newed hT tA free t7 o7
    have st : MStep w2 w7 L (L.new cm.topic.data.toList T) := by
      refine ⟨(MStep.below b6).touch.andThen st7 (fun _ _ e => e), rfl, fun j hj => ?_⟩
      by_cases e : T.own j
      · exact .inr (tB j e)
      · have e2 : (L.put cm.topic.data.toList T).r j ≠ none := hj
        rw [LM.put_not e] at e2
        exact .inl e2
    have tbl := h.lt.2.1
    have r7 := t7.at (Below.at b6 r2) (fun e => by omega)
    refine wp_seq (reg_mono (mg_r7 (by kernel_rfl) _ F6 rfl r7 ?_))
    intro a9 w9 F9 b9
    refine wp_ret ?_
    obtain ⟨h5, st5⟩ := h.fin (rb := w.heap.size + 1) b2 (Nat.le_succ _) (heap_lt r2) (h7.below b9) (st.then b9) (set3_touch (x0 := .int .i64 0) (x1 := .int .i64 0) (x2 := .slice none 0 0))
    exact mg_ret F9 rfl (set3_box (Below.at b9 r7)) (gave0 rfl rfl rfl h5 st5)
end Go.Proofs.YtlfodldlkchmoaaGreat.Y
