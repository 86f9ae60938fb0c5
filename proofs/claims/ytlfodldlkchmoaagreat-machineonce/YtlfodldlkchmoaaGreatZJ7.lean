/-
  subscribe, seek, as they run (mkj7.py).
-/
import Derived.Test.YtlfodldlkchmoaaGreatZJ6
import Derived.Deep.RegionWith
namespace Go.Proofs.YtlfodldlkchmoaaGreat.Y
open Go.RowKit
set_option maxHeartbeats 8000000
set_option maxRecDepth 100000
attribute [local go_sem ↓] Go.wp_at_zero Go.wp_at_succ
set_option linter.unusedSimpArgs false
set_option linter.unusedVariables false
open Go.Maps
theorem frame_mu (t : Array Value) (h : t.size = 51) : ∃ u : Nat → Value, t = List.toArray (u 0 :: u 1 :: u 2 :: u 3 :: u 4 :: u 5 :: u 6 :: u 7 :: u 8 :: u 9 :: u 10 :: u 11 :: u 12 :: u 13 :: u 14 :: u 15 :: u 16 :: u 17 :: u 18 :: u 19 :: u 20 :: u 21 :: u 22 :: u 23 :: u 24 :: u 25 :: u 26 :: u 27 :: u 28 :: u 29 :: u 30 :: u 31 :: u 32 :: u 33 :: u 34 :: u 35 :: u 36 :: u 37 :: u 38 :: u 39 :: u 40 :: u 41 :: u 42 :: u 43 :: u 44 :: u 45 :: u 46 :: u 47 :: u 48 :: u 49 :: u 50 :: []) := by
  refine ⟨fun i => t.getD i undef, ?_⟩
  refine Eq.trans (b := ((List.range 51).map fun i => t.getD i undef).toArray) ?_ rfl
  apply Array.ext
  · simp [h]
  · intro k h1 h2
    simp [Array.getD, h1]
structure Vmu where
  v0 : Value
  v1 : Value
  v3 : Value
  v4 : Value
  v5 : Value
  v6 : Value
  v7 : Value
  v8 : Value
structure Fmu (a : Act) (v : Vmu) : Prop where
  size : a.tmps.size = 51
  defers : a.defers = []
  s0 : a.tmps.getD 0 undef = v.v0
  s1 : a.tmps.getD 1 undef = v.v1
  s3 : a.tmps.getD 3 undef = v.v3
  s4 : a.tmps.getD 4 undef = v.v4
  s5 : a.tmps.getD 5 undef = v.v5
  s6 : a.tmps.getD 6 undef = v.v6
  s7 : a.tmps.getD 7 undef = v.v7
  s8 : a.tmps.getD 8 undef = v.v8
theorem frx_mu {a : Act} {v0 v1 v3 v4 v5 v6 v7 v8 : Value} (h : Fmu a ⟨v0, v1, v3, v4, v5, v6, v7, v8⟩) : ∃ u : Nat → Value, a = ⟨List.toArray (v0 :: v1 :: u 2 :: v3 :: v4 :: v5 :: v6 :: v7 :: v8 :: u 9 :: u 10 :: u 11 :: u 12 :: u 13 :: u 14 :: u 15 :: u 16 :: u 17 :: u 18 :: u 19 :: u 20 :: u 21 :: u 22 :: u 23 :: u 24 :: u 25 :: u 26 :: u 27 :: u 28 :: u 29 :: u 30 :: u 31 :: u 32 :: u 33 :: u 34 :: u 35 :: u 36 :: u 37 :: u 38 :: u 39 :: u 40 :: u 41 :: u 42 :: u 43 :: u 44 :: u 45 :: u 46 :: u 47 :: u 48 :: u 49 :: u 50 :: []), []⟩ := by
  obtain ⟨t', d'⟩ := a
  obtain ⟨hs, hd, q0, q1, q3, q4, q5, q6, q7, q8⟩ := h
  obtain ⟨u, hu⟩ := frame_mu t' hs
  simp only at hd q0 q1 q3 q4 q5 q6 q7 q8
  subst hu hd
  have e0 : u 0 = v0 := q0
  have e1 : u 1 = v1 := q1
  have e3 : u 3 = v3 := q3
  have e4 : u 4 = v4 := q4
  have e5 : u 5 = v5 := q5
  have e6 : u 6 = v6 := q6
  have e7 : u 7 = v7 := q7
  have e8 : u 8 = v8 := q8
  refine ⟨u, ?_⟩
  rw [e0, e1, e3, e4, e5, e6, e7, e8]
theorem mu_r0 {K : Act → World → Prop} {c : Code} (hc : regOf (Tryz.f59.body.getD .skip) 0 = some c) (a : Act) {v : Vmu} {wq : World} {cm : CM} (hF : Fmu a v) (h1v : v.v1 = .agg #[.int .i64 cm.kind, .string cm.topic, .string cm.name, .int .i64 cm.seq, .string cm.key, .string cm.val, .int .i64 cm.n, .int .i64 cm.node, .int .i64 cm.ask]) (hQ : ∀ a', Fmu a' { v with v3 := .pointer (some ⟨wq.heap.size, 0, none⟩), v4 := .pointer (some ⟨wq.heap.size + 1, 0, none⟩) } → K a' ((wq.alloc (.cells #[.int .i64 cm.kind, .string cm.topic, .string cm.name, .int .i64 cm.seq, .string cm.key, .string cm.val, .int .i64 cm.n, .int .i64 cm.node, .int .i64 cm.ask] 31)).alloc (.cells #[.int .i64 0, .int .i64 0, .slice none 0 0] 37))) :
    Code.wp Tryz.prog c (Exit.then K fun _ _ _ => False) a wq := by
  have HQ := hide hQ
  clear hQ
  obtain ⟨v0, v1, v3, v4, v5, v6, v7, v8⟩ := v
  simp only at h1v HQ
  subst h1v
  obtain ⟨u, rfl⟩ := frx_mu hF
  clear hF
  simp only [Tryz.f59, Option.getD_some, regOf] at hc
  injection hc with hc
  subst hc
  go_wp2
  exact HQ.out _ ⟨rfl, rfl, rfl, rfl, rfl, rfl, rfl, rfl, rfl, rfl⟩
theorem mu_ret {W : World} {a : Act} {v : Vmu} {rb : Nat} {x y : Int} {ao : Option Addr} {ln cp : Nat} {R : Ending → World → Prop} (hF : Fmu a v) (h0 : v.v4 = .pointer (some ⟨rb, 0, none⟩)) (hB : W.heap[rb]? = some (.cells #[.int .i64 x, .int .i64 y, .slice ao ln cp] 37 (0, 0))) (h : R (.returned (.agg #[.int .i64 x, .int .i64 y, .slice ao ln cp])) W) :
    bodyPost Tryz.prog Tryz.f59 R .ret a W := by
  have g0 := slot_get (hF.s4.trans h0)
  have e0 := box_cell hB 0 rfl
  have e1 := box_cell hB 1 rfl
  have e2 := box_cell hB 2 rfl
  refine bodyPost_ret (v := .agg #[.int .i64 x, .int .i64 y, .slice ao ln cp]) ?_ hF.defers h
  simp [results, Tryz.results59, go_sem, g0, e0, e1, e2]
theorem mu_r1 {K : Act → World → Prop} {c : Code} (hc : regOf (Tryz.f59.body.getD .skip) 1 = some c) (a : Act) {v : Vmu} {wq : World} {mb zb cb : Nat} {cm : CM} {tv : Option Addr} {ok : Bool} (hF : Fmu a v) (h0v : v.v0 = .pointer (some ⟨mb, 0, none⟩)) (h3v : v.v3 = .pointer (some ⟨cb, 0, none⟩)) (hmb : mb < wq.heap.size) (hm : wq.cell? ⟨mb, 10, none⟩ = some (.map (some zb))) (hC : wq.heap[cb]? = some (.cells #[.int .i64 cm.kind, .string cm.topic, .string cm.name, .int .i64 cm.seq, .string cm.key, .string cm.val, .int .i64 cm.n, .int .i64 cm.node, .int .i64 cm.ask] 31 (0, 0))) (hL : (Instr.lookup 63 (.map (some zb)) (.string cm.topic) true).run Tryz.prog wq.drew = .ok (.tuple #[.pointer tv, .bool ok]) wq.drew)
    (hQ : ∀ a', Fmu a' { v with v5 := .pointer tv, v6 := .bool ok } → K a' wq.drew) :
    Code.wp Tryz.prog c (Exit.then K fun _ _ _ => False) a wq := by
  have HQ := hide hQ
  clear hQ
  obtain ⟨v0, v1, v3, v4, v5, v6, v7, v8⟩ := v
  simp only at h0v h3v HQ
  subst h0v h3v
  obtain ⟨u, rfl⟩ := frx_mu hF
  clear hF
  simp only [Tryz.f59, Option.getD_some, regOf] at hc
  injection hc with hc
  subst hc
  have z1 := box_cell hC 1 rfl
  clear hC
  go_region
  all_goals exact HQ.out _ ⟨rfl, rfl, rfl, rfl, rfl, rfl, rfl, rfl, rfl, rfl⟩
theorem mu_r2 {K : Act → World → Prop} {c : Code} (hc : regOf (Tryz.f59.body.getD .skip) 2 = some c) (a : Act) {v : Vmu} {wq : World} {ok : Bool} (hF : Fmu a v) (h6v : v.v6 = .bool ok) (hQ : ∀ a', Fmu a' v → a'.tmps.getD 20 undef = .bool (!ok) → K a' wq) :
    Code.wp Tryz.prog c (Exit.then K fun _ _ _ => False) a wq := by
  have HQ := hide hQ
  clear hQ
  obtain ⟨v0, v1, v3, v4, v5, v6, v7, v8⟩ := v
  simp only at h6v HQ
  subst h6v
  obtain ⟨u, rfl⟩ := frx_mu hF
  clear hF
  simp only [Tryz.f59, Option.getD_some, regOf] at hc
  injection hc with hc
  subst hc
  go_wp2
  exact HQ.out _ ⟨rfl, rfl, rfl, rfl, rfl, rfl, rfl, rfl, rfl, rfl⟩ (by first | rfl | (simp; done))
theorem mu_r3 {K : Act → World → Prop} {c : Code} (hc : regOf (Tryz.f59.body.getD .skip) 3 = some c) (a : Act) {v : Vmu} {wq : World} {rb : Nat}  (hF : Fmu a v) (h4v : v.v4 = .pointer (some ⟨rb, 0, none⟩)) (hR : wq.heap[rb]? = some (.cells #[.int .i64 0, .int .i64 0, .slice none 0 0] 37 (0, 0)))
    (hQ : ∀ a' w1, Fmu a' v → Below wq.heap.size wq w1 → K a' (set3 w1 rb (.int .i64 5) (.int .i64 0) (.slice none 0 0))) :
    Code.wp Tryz.prog c (Exit.then K fun _ _ _ => False) a wq := by
  have HQ := hide hQ
  clear hQ
  obtain ⟨v0, v1, v3, v4, v5, v6, v7, v8⟩ := v
  simp only at h4v HQ
  subst h4v
  obtain ⟨u, rfl⟩ := frx_mu hF
  clear hF
  simp only [Tryz.f59, Option.getD_some, regOf] at hc
  injection hc with hc
  subst hc
  have HR := hide hR
  have HE : Hid (Calls Tryz.prog 29 #[.int .i64 5] wq fun e w' => e = .returned (.agg #[.int .i64 5, .int .i64 0, .slice none 0 0]) ∧ Below wq.heap.size wq w') := pcoded 5 wq
  clear hR
  unfold set3 at HQ
  go_wp2_with (go_at_call 29; refine HE.out.mono ?_; rintro e w1 ⟨rfl, b1⟩; have hR2 := Below.at b1 HR.out; have R1 := hide b1; clear b1; have y0 := box_cell hR2 0 rfl; have y1 := box_cell hR2 1 rfl; have y2 := box_cell hR2 2 rfl; have f0 := box_free hR2 0; have f1 := box_free hR2 1; have f2 := box_free hR2 2; clear hR2)
  exact HQ.out _ _ ⟨rfl, rfl, rfl, rfl, rfl, rfl, rfl, rfl, rfl, rfl⟩ R1.out
theorem mu_r4 {K : Act → World → Prop} {c : Code} (hc : regOf (Tryz.f59.body.getD .skip) 4 = some c) (a : Act) {v : Vmu} {wq : World} {mb zb cb : Nat} {cm : CM} {ss : SB} {ok : Bool} (hF : Fmu a v) (h0v : v.v0 = .pointer (some ⟨mb, 0, none⟩)) (h3v : v.v3 = .pointer (some ⟨cb, 0, none⟩)) (hmb : mb < wq.heap.size) (hm : wq.cell? ⟨mb, 11, none⟩ = some (.map (some zb))) (hC : wq.heap[cb]? = some (.cells #[.int .i64 cm.kind, .string cm.topic, .string cm.name, .int .i64 cm.seq, .string cm.key, .string cm.val, .int .i64 cm.n, .int .i64 cm.node, .int .i64 cm.ask] 31 (0, 0))) (hL : ∀ W : World, W.heap[zb]? = wq.heap[zb]? → (Instr.lookup 64 (.map (some zb)) (.string cm.name) true).run Tryz.prog W = .ok (.tuple #[.agg #[.string ss.name, .string ss.top, .int .i64 ss.cur, .int .i64 ss.next], .bool ok]) W) (hzb : zb < wq.heap.size)
    (hQ : ∀ a', Fmu a' { v with v7 := .pointer (some ⟨wq.heap.size, 0, none⟩), v8 := .bool ok } → K a' (wq.alloc (.cells #[.string ss.name, .string ss.top, .int .i64 ss.cur, .int .i64 ss.next] 91)).drew) :
    Code.wp Tryz.prog c (Exit.then K fun _ _ _ => False) a wq := by
  have HQ := hide hQ
  clear hQ
  obtain ⟨v0, v1, v3, v4, v5, v6, v7, v8⟩ := v
  simp only at h0v h3v HQ
  subst h0v h3v
  obtain ⟨u, rfl⟩ := frx_mu hF
  clear hF
  simp only [Tryz.f59, Option.getD_some, regOf] at hc
  injection hc with hc
  subst hc
  have hA := (Below.refl wq.heap.size wq).alloc (Nat.le_refl _) (.cells #[.string ⟨#[]⟩, .string ⟨#[]⟩, .int .i64 0, .int .i64 0] 91)
  have hl1 := hL wq.drew rfl
  have hl2 := hL (wq.alloc (.cells #[.string ⟨#[]⟩, .string ⟨#[]⟩, .int .i64 0, .int .i64 0] 91)).drew (hA.block _ hzb)
  have z2 := box_cell hC 2 rfl
  have z2b := (hA.cell (p := ⟨cb, 2, none⟩) (heap_lt hC)).trans z2
  have hmb2 := (hA.cell (p := ⟨mb, 11, none⟩) hmb).trans hm
  clear hC hL hA
  go_region
  all_goals exact HQ.out _ ⟨rfl, rfl, rfl, rfl, rfl, rfl, rfl, rfl, rfl, rfl⟩
theorem mu_r5 {K : Act → World → Prop} {c : Code} (hc : regOf (Tryz.f59.body.getD .skip) 5 = some c) (a : Act) {v : Vmu} {wq : World} {ok : Bool} (hF : Fmu a v) (h8v : v.v8 = .bool ok) (hQ : ∀ a', Fmu a' v → a'.tmps.getD 32 undef = .bool ok → K a' wq) :
    Code.wp Tryz.prog c (Exit.then K fun _ _ _ => False) a wq := by
  have HQ := hide hQ
  clear hQ
  obtain ⟨v0, v1, v3, v4, v5, v6, v7, v8⟩ := v
  simp only at h8v HQ
  subst h8v
  obtain ⟨u, rfl⟩ := frx_mu hF
  clear hF
  simp only [Tryz.f59, Option.getD_some, regOf] at hc
  injection hc with hc
  subst hc
  go_wp2
  exact HQ.out _ ⟨rfl, rfl, rfl, rfl, rfl, rfl, rfl, rfl, rfl, rfl⟩ (by first | rfl | (simp; done))
theorem mu_r6 {K : Act → World → Prop} {c : Code} (hc : regOf (Tryz.f59.body.getD .skip) 6 = some c) (a : Act) {v : Vmu} {wq : World} {rb : Nat}  (hF : Fmu a v) (h4v : v.v4 = .pointer (some ⟨rb, 0, none⟩)) (hR : wq.heap[rb]? = some (.cells #[.int .i64 0, .int .i64 0, .slice none 0 0] 37 (0, 0)))
    (hQ : ∀ a' w1, Fmu a' v → Below wq.heap.size wq w1 → K a' (set3 w1 rb (.int .i64 4) (.int .i64 0) (.slice none 0 0))) :
    Code.wp Tryz.prog c (Exit.then K fun _ _ _ => False) a wq := by
  have HQ := hide hQ
  clear hQ
  obtain ⟨v0, v1, v3, v4, v5, v6, v7, v8⟩ := v
  simp only at h4v HQ
  subst h4v
  obtain ⟨u, rfl⟩ := frx_mu hF
  clear hF
  simp only [Tryz.f59, Option.getD_some, regOf] at hc
  injection hc with hc
  subst hc
  have HR := hide hR
  have HE : Hid (Calls Tryz.prog 29 #[.int .i64 4] wq fun e w' => e = .returned (.agg #[.int .i64 4, .int .i64 0, .slice none 0 0]) ∧ Below wq.heap.size wq w') := pcoded 4 wq
  clear hR
  unfold set3 at HQ
  go_wp2_with (go_at_call 29; refine HE.out.mono ?_; rintro e w1 ⟨rfl, b1⟩; have hR2 := Below.at b1 HR.out; have R1 := hide b1; clear b1; have y0 := box_cell hR2 0 rfl; have y1 := box_cell hR2 1 rfl; have y2 := box_cell hR2 2 rfl; have f0 := box_free hR2 0; have f1 := box_free hR2 1; have f2 := box_free hR2 2; clear hR2)
  exact HQ.out _ _ ⟨rfl, rfl, rfl, rfl, rfl, rfl, rfl, rfl, rfl, rfl⟩ R1.out
theorem mu_r7 {K : Act → World → Prop} {c : Code} (hc : regOf (Tryz.f59.body.getD .skip) 7 = some c) (a : Act) {v : Vmu} {wq : World} {mb zb n : Nat} (hF : Fmu a v) (h0v : v.v0 = .pointer (some ⟨mb, 0, none⟩)) (hmb : mb < wq.heap.size) (hm : wq.cell? ⟨mb, 11, none⟩ = some (.map (some zb))) (hN : (Builtin.len_ #[64] 3 #[.map (some zb)]).run Tryz.prog wq = .ok (.int .i64 (n : Int)) wq)
    (hQ : ∀ a', Fmu a' v → a'.tmps.getD 39 undef = .bool (decide (50 ≤ n)) → K a' wq) :
    Code.wp Tryz.prog c (Exit.then K fun _ _ _ => False) a wq := by
  have HQ := hide hQ
  clear hQ
  obtain ⟨v0, v1, v3, v4, v5, v6, v7, v8⟩ := v
  simp only at h0v HQ
  subst h0v
  obtain ⟨u, rfl⟩ := frx_mu hF
  clear hF
  simp only [Tryz.f59, Option.getD_some, regOf] at hc
  injection hc with hc
  subst hc
  go_wp2
  exact HQ.out _ ⟨rfl, rfl, rfl, rfl, rfl, rfl, rfl, rfl, rfl, rfl⟩ (by first | rfl | (simp; done) | (simp; omega))
theorem mu_r8 {K : Act → World → Prop} {c : Code} (hc : regOf (Tryz.f59.body.getD .skip) 8 = some c) (a : Act) {v : Vmu} {wq : World} {rb : Nat}  (hF : Fmu a v) (h4v : v.v4 = .pointer (some ⟨rb, 0, none⟩)) (hR : wq.heap[rb]? = some (.cells #[.int .i64 0, .int .i64 0, .slice none 0 0] 37 (0, 0)))
    (hQ : ∀ a' w1, Fmu a' v → Below wq.heap.size wq w1 → K a' (set3 w1 rb (.int .i64 3) (.int .i64 0) (.slice none 0 0))) :
    Code.wp Tryz.prog c (Exit.then K fun _ _ _ => False) a wq := by
  have HQ := hide hQ
  clear hQ
  obtain ⟨v0, v1, v3, v4, v5, v6, v7, v8⟩ := v
  simp only at h4v HQ
  subst h4v
  obtain ⟨u, rfl⟩ := frx_mu hF
  clear hF
  simp only [Tryz.f59, Option.getD_some, regOf] at hc
  injection hc with hc
  subst hc
  have HR := hide hR
  have HE : Hid (Calls Tryz.prog 29 #[.int .i64 3] wq fun e w' => e = .returned (.agg #[.int .i64 3, .int .i64 0, .slice none 0 0]) ∧ Below wq.heap.size wq w') := pcoded 3 wq
  clear hR
  unfold set3 at HQ
  go_wp2_with (go_at_call 29; refine HE.out.mono ?_; rintro e w1 ⟨rfl, b1⟩; have hR2 := Below.at b1 HR.out; have R1 := hide b1; clear b1; have y0 := box_cell hR2 0 rfl; have y1 := box_cell hR2 1 rfl; have y2 := box_cell hR2 2 rfl; have f0 := box_free hR2 0; have f1 := box_free hR2 1; have f2 := box_free hR2 2; clear hR2)
  exact HQ.out _ _ ⟨rfl, rfl, rfl, rfl, rfl, rfl, rfl, rfl, rfl, rfl⟩ R1.out
theorem mu_r9 {K : Act → World → Prop} {c : Code} (hc : regOf (Tryz.f59.body.getD .skip) 9 = some c) (a : Act) {v : Vmu} {wq : World} {rb mb cb xb : Nat} {cm : CM} {tt : SB} {x y cd : Int} {R : World → World → Prop} (hF : Fmu a v) (h0v : v.v0 = .pointer (some ⟨mb, 0, none⟩)) (h3v : v.v3 = .pointer (some ⟨cb, 0, none⟩)) (h4v : v.v4 = .pointer (some ⟨rb, 0, none⟩)) (h5v : v.v5 = .pointer (some ⟨xb, 0, none⟩)) (hC : wq.heap[cb]? = some (.cells #[.int .i64 cm.kind, .string cm.topic, .string cm.name, .int .i64 cm.seq, .string cm.key, .string cm.val, .int .i64 cm.n, .int .i64 cm.node, .int .i64 cm.ask] 31 (0, 0))) (hR : wq.heap[rb]? = some (.cells #[.int .i64 0, .int .i64 0, .slice none 0 0] 37 (0, 0))) (hA : Calls Tryz.prog 106 #[.string cm.name, .pointer (some ⟨xb, 0, none⟩), .int .i64 cm.n] wq fun e w' => e = .returned (.tuple #[.agg #[.string tt.name, .string tt.top, .int .i64 tt.cur, .int .i64 tt.next], .int .i64 cd]) ∧ Below wq.heap.size wq w') (hK : ∀ W, Below wq.heap.size wq W → Calls Tryz.prog 105 #[.pointer (some ⟨mb, 0, none⟩), .agg #[.string tt.name, .string tt.top, .int .i64 tt.cur, .int .i64 tt.next], .int .i64 cd] W fun e w' => e = .returned (.agg #[.int .i64 x, .int .i64 y, .slice none 0 0]) ∧ (w'.heap[rb]? = some (.cells #[.int .i64 0, .int .i64 0, .slice none 0 0] 37 (0, 0)) ∧ R W w'))
    (hQ : ∀ a' W w1, Fmu a' v → Below wq.heap.size wq W → R W w1 → K a' (set3 w1 rb (.int .i64 x) (.int .i64 y) (.slice none 0 0))) :
    Code.wp Tryz.prog c (Exit.then K fun _ _ _ => False) a wq := by
  have HQ := hide hQ
  clear hQ
  obtain ⟨v0, v1, v3, v4, v5, v6, v7, v8⟩ := v
  simp only at h0v h3v h4v h5v HQ
  subst h0v h3v h4v h5v
  obtain ⟨u, rfl⟩ := frx_mu hF
  clear hF
  simp only [Tryz.f59, Option.getD_some, regOf] at hc
  injection hc with hc
  subst hc
  have HA := hide hA
  have HK := hide hK
  have HR := hide hR
  have z2 := box_cell hC 2 rfl
  have z6 := box_cell hC 6 rfl
  clear hC
  clear hA hK hR
  unfold set3 at HQ
  go_wp2_with (first | (go_at_call 106; refine HA.out.mono ?_; rintro e w1 ⟨rfl, b1⟩; have B1 := hide b1; clear b1) | (go_at_call 105; refine (HK.out _ B1.out).mono ?_; rintro e w2 ⟨rfl, hR2, r1⟩; have R1 := hide r1; clear r1; have y0 := box_cell hR2 0 rfl; have y1 := box_cell hR2 1 rfl; have y2 := box_cell hR2 2 rfl; have f0 := box_free hR2 0; have f1 := box_free hR2 1; have f2 := box_free hR2 2; clear hR2))
  exact HQ.out _ _ _ ⟨rfl, rfl, rfl, rfl, rfl, rfl, rfl, rfl, rfl, rfl⟩ B1.out R1.out
theorem pmsubscribe {w : World} {L : LM} {X : MS} {c : Nat} (h : MAt w L X) (hk : X.Ok c) (hc : c + 1 ≤ 100000) (cm : CM) (hx : cm.right = true) :
    Calls Tryz.prog 59 #[.pointer (some ⟨L.b, 0, none⟩), .agg #[.int .i64 cm.kind, .string cm.topic, .string cm.name, .int .i64 cm.seq, .string cm.key, .string cm.val, .int .i64 cm.n, .int .i64 cm.node, .int .i64 cm.ask]] w fun e w' => Gave w L (subscribeM X cm) e w' := by
  have b1 : Below w.heap.size w ((w.alloc (.cells #[.int .i64 cm.kind, .string cm.topic, .string cm.name, .int .i64 cm.seq, .string cm.key, .string cm.val, .int .i64 cm.n, .int .i64 cm.node, .int .i64 cm.ask] 31)).alloc (.cells #[.int .i64 0, .int .i64 0, .slice none 0 0] 37)) := ((Below.refl w.heap.size w).alloc (Nat.le_refl _) _).alloc (by simp) _
  have c1 : ((w.alloc (.cells #[.int .i64 cm.kind, .string cm.topic, .string cm.name, .int .i64 cm.seq, .string cm.key, .string cm.val, .int .i64 cm.n, .int .i64 cm.node, .int .i64 cm.ask] 31)).alloc (.cells #[.int .i64 0, .int .i64 0, .slice none 0 0] 37)).heap[w.heap.size]? = some (.cells #[.int .i64 cm.kind, .string cm.topic, .string cm.name, .int .i64 cm.seq, .string cm.key, .string cm.val, .int .i64 cm.n, .int .i64 cm.node, .int .i64 cm.ask] 31 (0, 0)) := Below.at ((Below.refl _ _).alloc (Nat.le_refl _) _) (heap_alloc_new w _)
  have r1 : ((w.alloc (.cells #[.int .i64 cm.kind, .string cm.topic, .string cm.name, .int .i64 cm.seq, .string cm.key, .string cm.val, .int .i64 cm.n, .int .i64 cm.node, .int .i64 cm.ask] 31)).alloc (.cells #[.int .i64 0, .int .i64 0, .slice none 0 0] 37)).heap[w.heap.size + 1]? = some (.cells #[.int .i64 0, .int .i64 0, .slice none 0 0] 37 (0, 0)) := by
    have := heap_alloc_new (w.alloc (.cells #[.int .i64 cm.kind, .string cm.topic, .string cm.name, .int .i64 cm.seq, .string cm.key, .string cm.val, .int .i64 cm.n, .int .i64 cm.node, .int .i64 cm.ask] 31)) (.cells #[.int .i64 0, .int .i64 0, .slice none 0 0] 37)
    simpa using this
  obtain ⟨sz1, sz2, sz3, sz4⟩ := cm_sizes hx
  have szT : cm.topic.size ≤ maxLen := by unfold maxLen; omega
  have szN : cm.name.size ≤ maxLen := by unfold maxLen; omega
  go_enter Tryz.func59, Tryz.ntmps59
  refine wp_seq (reg_mono (mu_r0 (by kernel_rfl) _ (v := ⟨_, _, _, _, _, _, _, _⟩) (cm := cm) ⟨rfl, rfl, rfl, rfl, rfl, rfl, rfl, rfl, rfl, rfl⟩ rfl ?_))
  intro a0 F0
  try dsimp only at F0
  generalize (w.alloc _).alloc _ = w1 at *
  have h1 := h.below b1
  have l1 := h1.lt.1
  have m1 := h1.cells
  have LT := h1.lookT (W := w1.drew) rfl cm.topic szT
  cases hT : X.T cm.topic.data.toList with
  | none =>
    rw [hT] at LT
    have hE : subscribeM X cm = (codedM 5, X) := by unfold subscribeM; rw [hT]
    rw [hE]
    refine wp_seq (reg_mono (mu_r1 (by kernel_rfl) _ F0 rfl rfl l1 m1.2.2.2.1 c1 LT ?_))
    intro a1 F1
    try dsimp only at F1
    have b2 : Below w.heap.size w w1.drew := b1.drew
    refine wp_seq (wp_seq (reg_mono (mu_r2 (by kernel_rfl) _ F1 rfl ?_)))
    intro a2 F2 g2
    refine wp_cond_true g2 ?_
    refine wp_seq (reg_mono (mu_r3 (by kernel_rfl) _ F2 rfl r1 ?_))
    intro a9 w9 F9 b9
    refine wp_ret ?_
    have bb : Below w.heap.size w (set3 w9 (w.heap.size + 1) (.int .i64 5) (.int .i64 0) (.slice none 0 0)) := (b2.trans (b9.mono b2.size)).trans (touch_newX set3_touch (Nat.le_trans b2.size b9.size) (fun k e => by omega))
    exact mu_ret F9 rfl (set3_box (Below.at b9 r1)) (gave0 rfl rfl rfl (h.below bb) (MStep.below bb))
  | some H =>
    rw [hT] at LT
    refine wp_seq (reg_mono (mu_r1 (by kernel_rfl) _ F0 rfl rfl l1 m1.2.2.2.1 c1 LT ?_))
    intro a1 F1
    try dsimp only at F1
    have b2 : Below w.heap.size w w1.drew := b1.drew
    have h2 : MAt w1.drew L X := h1.below ⟨rfl, rfl, rfl, Nat.le_refl _, fun _ _ => rfl⟩
    have tA := h2.top _ H hT
    obtain ⟨tk, tn⟩ := hk.tops _ H hT
    refine wp_seq (wp_seq (reg_mono (mu_r2 (by kernel_rfl) _ F1 rfl ?_)))
    intro a2 F2 g2
    refine wp_cond_false g2 (wp_skip ?_)
    show Code.wp _ _ _ _ _
    have c2 : w1.drew.heap[w.heap.size]? = _ := c1
    have r2 : w1.drew.heap[w.heap.size + 1]? = _ := r1
    generalize w1.drew = w2 at *
    have l2 := h2.lt.1
    have m2 := h2.cells
    have LS := fun W e => h2.lookS (W := W) e cm.name szN
    have szn : X.sn < maxLen := by have := hk.sn; unfold maxLen; omega
    have rno : ¬ L.own (w.heap.size + 1) := fun e => by have := h.lim _ e; omega
    refine wp_seq (wp_seq (reg_mono (mu_r4 (ss := (X.S cm.name.data.toList).getD SB.zero) (by kernel_rfl) _ F2 rfl rfl l2 m2.2.2.2.2 c2 LS h2.lt.2.2 ?_)))
    intro a4 F4
    try dsimp only at F4
    have ba : Below w2.heap.size w2 (w2.alloc (.cells #[.string ((X.S cm.name.data.toList).getD SB.zero).name, .string ((X.S cm.name.data.toList).getD SB.zero).top, .int .i64 ((X.S cm.name.data.toList).getD SB.zero).cur, .int .i64 ((X.S cm.name.data.toList).getD SB.zero).next] 91)).drew := ((Below.refl w2.heap.size w2).alloc (Nat.le_refl _) _).drew
    have b3 : Below w.heap.size w (w2.alloc (.cells #[.string ((X.S cm.name.data.toList).getD SB.zero).name, .string ((X.S cm.name.data.toList).getD SB.zero).top, .int .i64 ((X.S cm.name.data.toList).getD SB.zero).cur, .int .i64 ((X.S cm.name.data.toList).getD SB.zero).next] 91)).drew := b2.trans (ba.mono b2.size)
    have h3 : MAt (w2.alloc (.cells #[.string ((X.S cm.name.data.toList).getD SB.zero).name, .string ((X.S cm.name.data.toList).getD SB.zero).top, .int .i64 ((X.S cm.name.data.toList).getD SB.zero).cur, .int .i64 ((X.S cm.name.data.toList).getD SB.zero).next] 91)).drew L X := h2.below ba
    have c3 := Below.at ba c2
    have r3 := Below.at ba r2
    have tA3 := tA.below ba
    generalize (w2.alloc _).drew = w3 at *
    refine wp_seq (reg_mono (mu_r5 (by kernel_rfl) _ F4 rfl ?_))
    intro a5 F5 g5
    cases hS : (X.S cm.name.data.toList).isSome with
    | true =>
      rw [hS] at g5
      have hE : subscribeM X cm = (codedM 4, X) := by unfold subscribeM; rw [hT]; simp only [hS, if_true]
      rw [hE]
      refine wp_cond_true g5 ?_
      refine wp_seq (reg_mono (mu_r6 (by kernel_rfl) _ F5 rfl r3 ?_))
      intro a9 w9 F9 b9
      refine wp_ret ?_
      have bb : Below w.heap.size w (set3 w9 (w.heap.size + 1) (.int .i64 4) (.int .i64 0) (.slice none 0 0)) := (b3.trans (b9.mono b3.size)).trans (touch_newX set3_touch (Nat.le_trans b3.size b9.size) (fun k e => by omega))
      exact mu_ret F9 rfl (set3_box (Below.at b9 r3)) (gave0 rfl rfl rfl (h.below bb) (MStep.below bb))
    | false =>
      rw [hS] at g5
      refine wp_cond_false g5 (wp_skip ?_)
      show Code.wp _ _ _ _ _
      have LN := h3.smap.len Tryz.underlying64 3
      rw [h3.ssize] at LN
      refine wp_seq (wp_seq (reg_mono (mu_r7 (by kernel_rfl) _ F5 rfl h3.lt.1 h3.cells.2.2.2.2 LN ?_)))
      intro a7 F7 g7
      by_cases h50 : 50 ≤ X.sn
      case pos =>
        rw [decide_eq_true h50] at g7
        have hE : subscribeM X cm = (codedM 3, X) := by unfold subscribeM; rw [hT]; simp only [hS, if_pos h50, Bool.false_eq_true, if_false]
        rw [hE]
        refine wp_cond_true g7 ?_
        refine wp_seq (reg_mono (mu_r8 (by kernel_rfl) _ F7 rfl r3 ?_))
        intro a9 w9 F9 b9
        refine wp_ret ?_
        have bb : Below w.heap.size w (set3 w9 (w.heap.size + 1) (.int .i64 3) (.int .i64 0) (.slice none 0 0)) := (b3.trans (b9.mono b3.size)).trans (touch_newX set3_touch (Nat.le_trans b3.size b9.size) (fun k e => by omega))
        exact mu_ret F9 rfl (set3_box (Below.at b9 r3)) (gave0 rfl rfl rfl (h.below bb) (MStep.below bb))
      rw [decide_eq_false h50] at g7
      refine wp_cond_false g7 (wp_skip ?_)
      show Code.wp _ _ _ _ _
      have hE : subscribeM X cm = keepM X (newF cm.name H cm.n).1 (newF cm.name H cm.n).2 := by unfold subscribeM; rw [hT]; simp only [hS, if_neg h50, Bool.false_eq_true, if_false]
      rw [hE]
      have HA := snew tA3 tk cm.name (by omega) cm.n
      have nsz : (newF cm.name H cm.n).1.name.size ≤ maxLen := by
        by_cases h0 : (newF cm.name H cm.n).2 = 0
        · rw [(new_name _ _ _ h0).1]; exact szN
        · unfold newF at h0 ⊢
          generalize seekF _ H _ = P at *
          split
          · rename_i h1
            rw [if_pos h1] at h0
            exact absurd h1 h0
          · exact Nat.zero_le _
      generalize newF cm.name H cm.n = P at *
      refine wp_seq (reg_mono (mu_r9 (tt := P.1) (x := (numM P.2 P.1.cur).code) (y := (numM P.2 P.1.cur).n) (R := fun W W2 => ∃ L', MAt W2 L' (keepM X P.1 P.2).2 ∧ MStep W W2 L L') (by kernel_rfl) _ F7 rfl rfl rfl rfl c3 r3 HA (fun W hW => keep_at (h3.below hW) P.1 nsz P.2 szn (Below.at hW r3) rno) ?_))
      rintro a8 W8 w9 F8 b8 ⟨L', h9, st9⟩
      refine wp_ret ?_
      have r9 := st9.touch.at (Below.at b8 r3) rno
      obtain ⟨h5, st5⟩ := h.fin (rb := w.heap.size + 1) b3 (Nat.le_succ _) (heap_lt r3) h9 ((MStep.below b8).trans st9) (set3_touch (x0 := .int .i64 (numM P.2 P.1.cur).code) (x1 := .int .i64 (numM P.2 P.1.cur).n) (x2 := .slice none 0 0))
      exact mu_ret F8 rfl (set3_box r9) (gave0 rfl rfl (num_recs _ _) h5 st5)
theorem frame_ms (t : Array Value) (h : t.size = 35) : ∃ u : Nat → Value, t = List.toArray (u 0 :: u 1 :: u 2 :: u 3 :: u 4 :: u 5 :: u 6 :: u 7 :: u 8 :: u 9 :: u 10 :: u 11 :: u 12 :: u 13 :: u 14 :: u 15 :: u 16 :: u 17 :: u 18 :: u 19 :: u 20 :: u 21 :: u 22 :: u 23 :: u 24 :: u 25 :: u 26 :: u 27 :: u 28 :: u 29 :: u 30 :: u 31 :: u 32 :: u 33 :: u 34 :: []) := by
  refine ⟨fun i => t.getD i undef, ?_⟩
  refine Eq.trans (b := ((List.range 35).map fun i => t.getD i undef).toArray) ?_ rfl
  apply Array.ext
  · simp [h]
  · intro k h1 h2
    simp [Array.getD, h1]
structure Vms where
  v0 : Value
  v1 : Value
  v3 : Value
  v4 : Value
  v5 : Value
  v6 : Value
structure Fms (a : Act) (v : Vms) : Prop where
  size : a.tmps.size = 35
  defers : a.defers = []
  s0 : a.tmps.getD 0 undef = v.v0
  s1 : a.tmps.getD 1 undef = v.v1
  s3 : a.tmps.getD 3 undef = v.v3
  s4 : a.tmps.getD 4 undef = v.v4
  s5 : a.tmps.getD 5 undef = v.v5
  s6 : a.tmps.getD 6 undef = v.v6
theorem frx_ms {a : Act} {v0 v1 v3 v4 v5 v6 : Value} (h : Fms a ⟨v0, v1, v3, v4, v5, v6⟩) : ∃ u : Nat → Value, a = ⟨List.toArray (v0 :: v1 :: u 2 :: v3 :: v4 :: v5 :: v6 :: u 7 :: u 8 :: u 9 :: u 10 :: u 11 :: u 12 :: u 13 :: u 14 :: u 15 :: u 16 :: u 17 :: u 18 :: u 19 :: u 20 :: u 21 :: u 22 :: u 23 :: u 24 :: u 25 :: u 26 :: u 27 :: u 28 :: u 29 :: u 30 :: u 31 :: u 32 :: u 33 :: u 34 :: []), []⟩ := by
  obtain ⟨t', d'⟩ := a
  obtain ⟨hs, hd, q0, q1, q3, q4, q5, q6⟩ := h
  obtain ⟨u, hu⟩ := frame_ms t' hs
  simp only at hd q0 q1 q3 q4 q5 q6
  subst hu hd
  have e0 : u 0 = v0 := q0
  have e1 : u 1 = v1 := q1
  have e3 : u 3 = v3 := q3
  have e4 : u 4 = v4 := q4
  have e5 : u 5 = v5 := q5
  have e6 : u 6 = v6 := q6
  refine ⟨u, ?_⟩
  rw [e0, e1, e3, e4, e5, e6]
theorem ms_r0 {K : Act → World → Prop} {c : Code} (hc : regOf (Tryz.f63.body.getD .skip) 0 = some c) (a : Act) {v : Vms} {wq : World} {cm : CM} (hF : Fms a v) (h1v : v.v1 = .agg #[.int .i64 cm.kind, .string cm.topic, .string cm.name, .int .i64 cm.seq, .string cm.key, .string cm.val, .int .i64 cm.n, .int .i64 cm.node, .int .i64 cm.ask]) (hQ : ∀ a', Fms a' { v with v3 := .pointer (some ⟨wq.heap.size, 0, none⟩), v4 := .pointer (some ⟨wq.heap.size + 1, 0, none⟩) } → K a' ((wq.alloc (.cells #[.int .i64 cm.kind, .string cm.topic, .string cm.name, .int .i64 cm.seq, .string cm.key, .string cm.val, .int .i64 cm.n, .int .i64 cm.node, .int .i64 cm.ask] 31)).alloc (.cells #[.int .i64 0, .int .i64 0, .slice none 0 0] 37))) :
    Code.wp Tryz.prog c (Exit.then K fun _ _ _ => False) a wq := by
  have HQ := hide hQ
  clear hQ
  obtain ⟨v0, v1, v3, v4, v5, v6⟩ := v
  simp only at h1v HQ
  subst h1v
  obtain ⟨u, rfl⟩ := frx_ms hF
  clear hF
  simp only [Tryz.f63, Option.getD_some, regOf] at hc
  injection hc with hc
  subst hc
  go_wp2
  exact HQ.out _ ⟨rfl, rfl, rfl, rfl, rfl, rfl, rfl, rfl⟩
theorem ms_ret {W : World} {a : Act} {v : Vms} {rb : Nat} {x y : Int} {ao : Option Addr} {ln cp : Nat} {R : Ending → World → Prop} (hF : Fms a v) (h0 : v.v4 = .pointer (some ⟨rb, 0, none⟩)) (hB : W.heap[rb]? = some (.cells #[.int .i64 x, .int .i64 y, .slice ao ln cp] 37 (0, 0))) (h : R (.returned (.agg #[.int .i64 x, .int .i64 y, .slice ao ln cp])) W) :
    bodyPost Tryz.prog Tryz.f63 R .ret a W := by
  have g0 := slot_get (hF.s4.trans h0)
  have e0 := box_cell hB 0 rfl
  have e1 := box_cell hB 1 rfl
  have e2 := box_cell hB 2 rfl
  refine bodyPost_ret (v := .agg #[.int .i64 x, .int .i64 y, .slice ao ln cp]) ?_ hF.defers h
  simp [results, Tryz.results63, go_sem, g0, e0, e1, e2]
theorem ms_r1 {K : Act → World → Prop} {c : Code} (hc : regOf (Tryz.f63.body.getD .skip) 1 = some c) (a : Act) {v : Vms} {wq : World} {mb zb cb : Nat} {cm : CM} {ss : SB} {ok : Bool} (hF : Fms a v) (h0v : v.v0 = .pointer (some ⟨mb, 0, none⟩)) (h3v : v.v3 = .pointer (some ⟨cb, 0, none⟩)) (hmb : mb < wq.heap.size) (hm : wq.cell? ⟨mb, 11, none⟩ = some (.map (some zb))) (hC : wq.heap[cb]? = some (.cells #[.int .i64 cm.kind, .string cm.topic, .string cm.name, .int .i64 cm.seq, .string cm.key, .string cm.val, .int .i64 cm.n, .int .i64 cm.node, .int .i64 cm.ask] 31 (0, 0))) (hL : ∀ W : World, W.heap[zb]? = wq.heap[zb]? → (Instr.lookup 64 (.map (some zb)) (.string cm.name) true).run Tryz.prog W = .ok (.tuple #[.agg #[.string ss.name, .string ss.top, .int .i64 ss.cur, .int .i64 ss.next], .bool ok]) W) (hzb : zb < wq.heap.size)
    (hQ : ∀ a', Fms a' { v with v5 := .pointer (some ⟨wq.heap.size, 0, none⟩), v6 := .bool ok } → K a' (wq.alloc (.cells #[.string ss.name, .string ss.top, .int .i64 ss.cur, .int .i64 ss.next] 91)).drew) :
    Code.wp Tryz.prog c (Exit.then K fun _ _ _ => False) a wq := by
  have HQ := hide hQ
  clear hQ
  obtain ⟨v0, v1, v3, v4, v5, v6⟩ := v
  simp only at h0v h3v HQ
  subst h0v h3v
  obtain ⟨u, rfl⟩ := frx_ms hF
  clear hF
  simp only [Tryz.f63, Option.getD_some, regOf] at hc
  injection hc with hc
  subst hc
  have hA := (Below.refl wq.heap.size wq).alloc (Nat.le_refl _) (.cells #[.string ⟨#[]⟩, .string ⟨#[]⟩, .int .i64 0, .int .i64 0] 91)
  have hl1 := hL wq.drew rfl
  have hl2 := hL (wq.alloc (.cells #[.string ⟨#[]⟩, .string ⟨#[]⟩, .int .i64 0, .int .i64 0] 91)).drew (hA.block _ hzb)
  have z2 := box_cell hC 2 rfl
  have z2b := (hA.cell (p := ⟨cb, 2, none⟩) (heap_lt hC)).trans z2
  have hmb2 := (hA.cell (p := ⟨mb, 11, none⟩) hmb).trans hm
  clear hC hL hA
  go_region
  all_goals exact HQ.out _ ⟨rfl, rfl, rfl, rfl, rfl, rfl, rfl, rfl⟩
theorem ms_r2 {K : Act → World → Prop} {c : Code} (hc : regOf (Tryz.f63.body.getD .skip) 2 = some c) (a : Act) {v : Vms} {wq : World} {ok : Bool} (hF : Fms a v) (h6v : v.v6 = .bool ok) (hQ : ∀ a', Fms a' v → a'.tmps.getD 18 undef = .bool (!ok) → K a' wq) :
    Code.wp Tryz.prog c (Exit.then K fun _ _ _ => False) a wq := by
  have HQ := hide hQ
  clear hQ
  obtain ⟨v0, v1, v3, v4, v5, v6⟩ := v
  simp only at h6v HQ
  subst h6v
  obtain ⟨u, rfl⟩ := frx_ms hF
  clear hF
  simp only [Tryz.f63, Option.getD_some, regOf] at hc
  injection hc with hc
  subst hc
  go_wp2
  exact HQ.out _ ⟨rfl, rfl, rfl, rfl, rfl, rfl, rfl, rfl⟩ (by first | rfl | (simp; done))
theorem ms_r3 {K : Act → World → Prop} {c : Code} (hc : regOf (Tryz.f63.body.getD .skip) 3 = some c) (a : Act) {v : Vms} {wq : World} {rb : Nat}  (hF : Fms a v) (h4v : v.v4 = .pointer (some ⟨rb, 0, none⟩)) (hR : wq.heap[rb]? = some (.cells #[.int .i64 0, .int .i64 0, .slice none 0 0] 37 (0, 0)))
    (hQ : ∀ a' w1, Fms a' v → Below wq.heap.size wq w1 → K a' (set3 w1 rb (.int .i64 5) (.int .i64 0) (.slice none 0 0))) :
    Code.wp Tryz.prog c (Exit.then K fun _ _ _ => False) a wq := by
  have HQ := hide hQ
  clear hQ
  obtain ⟨v0, v1, v3, v4, v5, v6⟩ := v
  simp only at h4v HQ
  subst h4v
  obtain ⟨u, rfl⟩ := frx_ms hF
  clear hF
  simp only [Tryz.f63, Option.getD_some, regOf] at hc
  injection hc with hc
  subst hc
  have HR := hide hR
  have HE : Hid (Calls Tryz.prog 29 #[.int .i64 5] wq fun e w' => e = .returned (.agg #[.int .i64 5, .int .i64 0, .slice none 0 0]) ∧ Below wq.heap.size wq w') := pcoded 5 wq
  clear hR
  unfold set3 at HQ
  go_wp2_with (go_at_call 29; refine HE.out.mono ?_; rintro e w1 ⟨rfl, b1⟩; have hR2 := Below.at b1 HR.out; have R1 := hide b1; clear b1; have y0 := box_cell hR2 0 rfl; have y1 := box_cell hR2 1 rfl; have y2 := box_cell hR2 2 rfl; have f0 := box_free hR2 0; have f1 := box_free hR2 1; have f2 := box_free hR2 2; clear hR2)
  exact HQ.out _ _ ⟨rfl, rfl, rfl, rfl, rfl, rfl, rfl, rfl⟩ R1.out
theorem ms_r4 {K : Act → World → Prop} {c : Code} (hc : regOf (Tryz.f63.body.getD .skip) 4 = some c) (a : Act) {v : Vms} {wq : World} {rb sb mb cb yb : Nat} {cm : CM} {ss tt : SB} {tv : Option Addr} {x y cd : Int} {R : World → World → Prop} (hF : Fms a v) (h0v : v.v0 = .pointer (some ⟨mb, 0, none⟩)) (h3v : v.v3 = .pointer (some ⟨cb, 0, none⟩)) (h4v : v.v4 = .pointer (some ⟨rb, 0, none⟩)) (h5v : v.v5 = .pointer (some ⟨sb, 0, none⟩)) (hC : wq.heap[cb]? = some (.cells #[.int .i64 cm.kind, .string cm.topic, .string cm.name, .int .i64 cm.seq, .string cm.key, .string cm.val, .int .i64 cm.n, .int .i64 cm.node, .int .i64 cm.ask] 31 (0, 0))) (hR : wq.heap[rb]? = some (.cells #[.int .i64 0, .int .i64 0, .slice none 0 0] 37 (0, 0))) (hS : wq.heap[sb]? = some (.cells #[.string ss.name, .string ss.top, .int .i64 ss.cur, .int .i64 ss.next] 91 (0, 0))) (hmt : wq.cell? ⟨mb, 10, none⟩ = some (.map (some yb))) (hL : (Instr.lookup 63 (.map (some yb)) (.string ss.top) false).run Tryz.prog wq.drew = .ok (.pointer tv) wq.drew) (hA : ∀ W, Below wq.heap.size wq W → Calls Tryz.prog 110 #[.agg #[.string ss.name, .string ss.top, .int .i64 ss.cur, .int .i64 ss.next], .pointer tv, .int .i64 cm.n] W fun e w' => e = .returned (.tuple #[.agg #[.string tt.name, .string tt.top, .int .i64 tt.cur, .int .i64 tt.next], .int .i64 cd]) ∧ Below W.heap.size W w') (hK : ∀ W, Below wq.heap.size wq W → Calls Tryz.prog 105 #[.pointer (some ⟨mb, 0, none⟩), .agg #[.string tt.name, .string tt.top, .int .i64 tt.cur, .int .i64 tt.next], .int .i64 cd] W fun e w' => e = .returned (.agg #[.int .i64 x, .int .i64 y, .slice none 0 0]) ∧ (w'.heap[rb]? = some (.cells #[.int .i64 0, .int .i64 0, .slice none 0 0] 37 (0, 0)) ∧ R W w'))
    (hQ : ∀ a' W w1, Fms a' v → Below wq.heap.size wq W → R W w1 → K a' (set3 w1 rb (.int .i64 x) (.int .i64 y) (.slice none 0 0))) :
    Code.wp Tryz.prog c (Exit.then K fun _ _ _ => False) a wq := by
  have HQ := hide hQ
  clear hQ
  obtain ⟨v0, v1, v3, v4, v5, v6⟩ := v
  simp only at h0v h3v h4v h5v HQ
  subst h0v h3v h4v h5v
  obtain ⟨u, rfl⟩ := frx_ms hF
  clear hF
  simp only [Tryz.f63, Option.getD_some, regOf] at hc
  injection hc with hc
  subst hc
  have HA := hide (hA wq.drew (Below.refl _ _).drew)
  have HK := hide hK
  have HR := hide hR
  have z6 := box_cell hC 6 rfl
  clear hC
  have s0c := box_cell hS 0 rfl
  have s1c := box_cell hS 1 rfl
  have s2c := box_cell hS 2 rfl
  have s3c := box_cell hS 3 rfl
  clear hS
  clear hA hK hR
  unfold set3 at HQ
  go_region_with (first | (go_at_call 110; refine HA.out.mono ?_; rintro e w1 ⟨rfl, b1⟩; have B1 := hide ((Below.refl wq.heap.size wq).drew.trans b1); clear b1) | (go_at_call 105; refine (HK.out _ B1.out).mono ?_; rintro e w2 ⟨rfl, hR2, r1⟩; have R1 := hide r1; clear r1; have y0 := box_cell hR2 0 rfl; have y1 := box_cell hR2 1 rfl; have y2 := box_cell hR2 2 rfl; have f0 := box_free hR2 0; have f1 := box_free hR2 1; have f2 := box_free hR2 2; clear hR2))
  all_goals exact HQ.out _ _ _ ⟨rfl, rfl, rfl, rfl, rfl, rfl, rfl, rfl⟩ B1.out R1.out
theorem pmseek {w : World} {L : LM} {X : MS} {c : Nat} (h : MAt w L X) (hk : X.Ok c) (hc : c + 1 ≤ 100000) (cm : CM) (hx : cm.right = true) :
    Calls Tryz.prog 63 #[.pointer (some ⟨L.b, 0, none⟩), .agg #[.int .i64 cm.kind, .string cm.topic, .string cm.name, .int .i64 cm.seq, .string cm.key, .string cm.val, .int .i64 cm.n, .int .i64 cm.node, .int .i64 cm.ask]] w fun e w' => Gave w L (seekM X cm) e w' := by
  have b1 : Below w.heap.size w ((w.alloc (.cells #[.int .i64 cm.kind, .string cm.topic, .string cm.name, .int .i64 cm.seq, .string cm.key, .string cm.val, .int .i64 cm.n, .int .i64 cm.node, .int .i64 cm.ask] 31)).alloc (.cells #[.int .i64 0, .int .i64 0, .slice none 0 0] 37)) := ((Below.refl w.heap.size w).alloc (Nat.le_refl _) _).alloc (by simp) _
  have c1 : ((w.alloc (.cells #[.int .i64 cm.kind, .string cm.topic, .string cm.name, .int .i64 cm.seq, .string cm.key, .string cm.val, .int .i64 cm.n, .int .i64 cm.node, .int .i64 cm.ask] 31)).alloc (.cells #[.int .i64 0, .int .i64 0, .slice none 0 0] 37)).heap[w.heap.size]? = some (.cells #[.int .i64 cm.kind, .string cm.topic, .string cm.name, .int .i64 cm.seq, .string cm.key, .string cm.val, .int .i64 cm.n, .int .i64 cm.node, .int .i64 cm.ask] 31 (0, 0)) := Below.at ((Below.refl _ _).alloc (Nat.le_refl _) _) (heap_alloc_new w _)
  have r1 : ((w.alloc (.cells #[.int .i64 cm.kind, .string cm.topic, .string cm.name, .int .i64 cm.seq, .string cm.key, .string cm.val, .int .i64 cm.n, .int .i64 cm.node, .int .i64 cm.ask] 31)).alloc (.cells #[.int .i64 0, .int .i64 0, .slice none 0 0] 37)).heap[w.heap.size + 1]? = some (.cells #[.int .i64 0, .int .i64 0, .slice none 0 0] 37 (0, 0)) := by
    have := heap_alloc_new (w.alloc (.cells #[.int .i64 cm.kind, .string cm.topic, .string cm.name, .int .i64 cm.seq, .string cm.key, .string cm.val, .int .i64 cm.n, .int .i64 cm.node, .int .i64 cm.ask] 31)) (.cells #[.int .i64 0, .int .i64 0, .slice none 0 0] 37)
    simpa using this
  obtain ⟨sz1, sz2, sz3, sz4⟩ := cm_sizes hx
  have szT : cm.topic.size ≤ maxLen := by unfold maxLen; omega
  have szN : cm.name.size ≤ maxLen := by unfold maxLen; omega
  go_enter Tryz.func63, Tryz.ntmps63
  refine wp_seq (reg_mono (ms_r0 (by kernel_rfl) _ (v := ⟨_, _, _, _, _, _⟩) (cm := cm) ⟨rfl, rfl, rfl, rfl, rfl, rfl, rfl, rfl⟩ rfl ?_))
  intro a0 F0
  try dsimp only at F0
  generalize (w.alloc _).alloc _ = w1 at *
  have h1 := h.below b1
  have l1 := h1.lt.1
  have m1 := h1.cells
  have LS := fun W e => h1.lookS (W := W) e cm.name szN
  have szn : X.sn < maxLen := by have := hk.sn; unfold maxLen; omega
  have rno : ¬ L.own (w.heap.size + 1) := fun e => by have := h.lim _ e; omega
  cases hS : X.S cm.name.data.toList with
  | none =>
    have hE : seekM X cm = (codedM 5, X) := by unfold seekM; rw [hS]
    rw [hE]
    refine wp_seq (reg_mono (ms_r1 (ss := SB.zero) (by kernel_rfl) _ F0 rfl rfl l1 m1.2.2.2.2 c1 (fun W e => by have := LS W e; rw [hS] at this; exact this) h1.lt.2.2 ?_))
    intro a1 F1
    try dsimp only at F1
    have b2 : Below w.heap.size w (w1.alloc (.cells #[.string SB.zero.name, .string SB.zero.top, .int .i64 SB.zero.cur, .int .i64 SB.zero.next] 91)).drew := (b1.alloc b1.size _).drew
    have r2 : (w1.alloc (.cells #[.string SB.zero.name, .string SB.zero.top, .int .i64 SB.zero.cur, .int .i64 SB.zero.next] 91)).drew.heap[w.heap.size + 1]? = _ := Below.at ((Below.refl w1.heap.size w1).alloc (Nat.le_refl _) _) r1
    generalize (w1.alloc _).drew = w2 at *
    refine wp_seq (wp_seq (reg_mono (ms_r2 (by kernel_rfl) _ F1 rfl ?_)))
    intro a2 F2 g2
    refine wp_cond_true g2 ?_
    refine wp_seq (reg_mono (ms_r3 (by kernel_rfl) _ F2 rfl r2 ?_))
    intro a9 w9 F9 b9
    refine wp_ret ?_
    have bb : Below w.heap.size w (set3 w9 (w.heap.size + 1) (.int .i64 5) (.int .i64 0) (.slice none 0 0)) := (b2.trans (b9.mono b2.size)).trans (touch_newX set3_touch (Nat.le_trans b2.size b9.size) (fun k e => by omega))
    exact ms_ret F9 rfl (set3_box (Below.at b9 r2)) (gave0 rfl rfl rfl (h.below bb) (MStep.below bb))
  | some s =>
    refine wp_seq (reg_mono (ms_r1 (ss := s) (by kernel_rfl) _ F0 rfl rfl l1 m1.2.2.2.2 c1 (fun W e => by have := LS W e; rw [hS] at this; exact this) h1.lt.2.2 ?_))
    intro a1 F1
    try dsimp only at F1
    have ba : Below w1.heap.size w1 (w1.alloc (.cells #[.string s.name, .string s.top, .int .i64 s.cur, .int .i64 s.next] 91)).drew := ((Below.refl w1.heap.size w1).alloc (Nat.le_refl _) _).drew
    have b2 : Below w.heap.size w (w1.alloc (.cells #[.string s.name, .string s.top, .int .i64 s.cur, .int .i64 s.next] 91)).drew := b1.trans (ba.mono b1.size)
    have h2 : MAt (w1.alloc (.cells #[.string s.name, .string s.top, .int .i64 s.cur, .int .i64 s.next] 91)).drew L X := h1.below ba
    have c2 := Below.at ba c1
    have r2 := Below.at ba r1
    have s2 : (w1.alloc (.cells #[.string s.name, .string s.top, .int .i64 s.cur, .int .i64 s.next] 91)).drew.heap[w1.heap.size]? = some (.cells #[.string s.name, .string s.top, .int .i64 s.cur, .int .i64 s.next] 91 (0, 0)) := heap_alloc_new w1 _
    obtain ⟨so, sn, st⟩ := hk.subs _ s hS
    refine wp_seq (wp_seq (reg_mono (ms_r2 (by kernel_rfl) _ F1 rfl ?_)))
    intro a2 F2 g2
    refine wp_cond_false g2 (wp_skip ?_)
    show Code.wp _ _ _ _ _
    have l2 := h2.lt.1
    have m2 := h2.cells
    generalize (w1.alloc _).drew = w2 at *
    cases hT : X.T s.top.data.toList with
    | none => rw [hT] at st; cases st
    | some H =>
      have hE : seekM X cm = keepM X (seekF s H cm.n).1 (seekF s H cm.n).2 := by unfold seekM; rw [hS]; simp only [hT]
      rw [hE]
      have nsz : (seekF s H cm.n).1.name.size ≤ maxLen := by have := so.nm; rw [(seek_name s H cm.n).1]; unfold maxLen; omega
      have LT := h2.lookT0 (W := w2.drew) rfl s.top (by have := so.tp; unfold maxLen; omega)
      rw [hT] at LT
      have tk := (hk.tops _ H hT).1
      have HA := fun W (hW : Below w2.heap.size w2 W) => sseekP ((h2.below hW).top _ H hT) tk s so cm.n
      generalize seekF s H cm.n = P at *
      refine wp_seq (reg_mono (ms_r4 (tt := P.1) (x := (numM P.2 P.1.cur).code) (y := (numM P.2 P.1.cur).n) (R := fun W W2 => ∃ L', MAt W2 L' (keepM X P.1 P.2).2 ∧ MStep W W2 L L') (by kernel_rfl) _ F2 rfl rfl rfl rfl c2 r2 s2 m2.2.2.2.1 LT HA (fun W hW => keep_at (h2.below hW) P.1 nsz P.2 szn (Below.at hW r2) rno) ?_))
      rintro a8 W8 w9 F8 b8 ⟨L', h9, st9⟩
      refine wp_ret ?_
      have r9 := st9.touch.at (Below.at b8 r2) rno
      obtain ⟨h5, st5⟩ := h.fin (rb := w.heap.size + 1) b2 (Nat.le_succ _) (heap_lt r2) h9 ((MStep.below b8).trans st9) (set3_touch (x0 := .int .i64 (numM P.2 P.1.cur).code) (x1 := .int .i64 (numM P.2 P.1.cur).n) (x2 := .slice none 0 0))
      exact ms_ret F8 rfl (set3_box r9) (gave0 rfl rfl (num_recs _ _) h5 st5)
end Go.Proofs.YtlfodldlkchmoaaGreat.Y
