/-
  poll, as it runs (mkj8.py).
-/
import Derived.Test.YtlfodldlkchmoaaGreatZJ6
namespace Go.Proofs.YtlfodldlkchmoaaGreat.Y
open Go.RowKit
set_option maxHeartbeats 8000000
set_option maxRecDepth 100000
attribute [local go_sem ↓] Go.wp_at_zero Go.wp_at_succ
set_option linter.unusedSimpArgs false
set_option linter.unusedVariables false
open Go.Maps
def RelQ (B st j : Nat) (w w' : World) : Prop := (j ≠ st ∧ Below w.heap.size w w') ∨ (j = st ∧ ∃ b, B ≤ b ∧ Touch (fun k => k = b) w w' ∧ (∃ u0 u1 u2 u3, w.heap[b]? = some (.cells #[u0, u1, u2, u3] 91 (0, 0))) ∧ ∃ v0 v1 v2 v3, w'.heap[b]? = some (.cells #[v0, v1, v2, v3] 91 (0, 0)))
theorem relq_other {B st j : Nat} {w w' : World} (h : j ≠ st) (r : RelQ B st j w w') : Below w.heap.size w w' := by
  rcases r with r | r
  · exact r.2
  · exact absurd r.1 h
theorem relq_bw {B st j : Nat} {wq w w' : World} (hB : B = wq.heap.size) (h : Below wq.heap.size wq w) (r : RelQ B st j w w') : Below wq.heap.size wq w' := by
  rcases r with r | ⟨_, b, hb, t, _, _⟩
  · exact h.trans (r.2.mono h.size)
  · exact h.trans (t.toBelow h.size fun k hk e => by omega)
theorem relq_box {B st j b : Nat} {w w' : World} (r : RelQ B st j w w') (h : ∃ u0 u1 u2 u3, w.heap[b]? = some (.cells #[u0, u1, u2, u3] 91 (0, 0))) : ∃ u0 u1 u2 u3, w'.heap[b]? = some (.cells #[u0, u1, u2, u3] 91 (0, 0)) := by
  obtain ⟨u0, u1, u2, u3, h⟩ := h
  rcases r with r | ⟨_, b', hb, t, _, hv⟩
  · exact ⟨u0, u1, u2, u3, Below.at r.2 h⟩
  · by_cases e : b = b'
    · subst e; exact hv
    · exact ⟨u0, u1, u2, u3, t.at h e⟩
theorem relq_recs {B st j : Nat} {w w' : World} {ao : Option Addr} {n cp : Nat} {l : List Rec} (r : RelQ B st j w w') (h : RecsAt w (.slice ao n cp) l) : RecsAt w' (.slice ao n cp) l := by
  rcases r with r | ⟨_, b', hb, t, ⟨u0, u1, u2, u3, hu⟩, _⟩
  · exact h.below r.2
  · obtain ⟨ao', cap, hv, hc, hi⟩ := h
    injection hv with e1 e2 e3
    subst e1 e2 e3
    refine ⟨ao, cp, rfl, hc, fun i hl => ?_⟩
    obtain ⟨b, off, e0, hb, hj⟩ := hi i hl
    have hne : ¬ b = b' := by
      intro e
      subst e
      have e4 : w.cell? ⟨b, off + i * 5 + 4, none⟩ = some (.string l[i].val) := hj 4 (by omega)
      rw [Lib.cell_of_heap hu] at e4
      rw [Array.getElem?_eq_none (by first | (simp; done) | (simp; omega))] at e4
      cases e4
    exact ⟨b, off, e0, Nat.lt_of_lt_of_le hb t.size, fun j hj5 => by
      have e := hj j hj5
      obtain ⟨v, hv⟩ : ∃ v, l[i].cells[j]? = some v := by
        have h5 : j = 0 ∨ j = 1 ∨ j = 2 ∨ j = 3 ∨ j = 4 := by omega
        rcases h5 with rfl | rfl | rfl | rfl | rfl <;> exact ⟨_, rfl⟩
      rw [hv] at e ⊢
      exact t.cell _ e hne⟩
theorem frame_ml (t : Array Value) (h : t.size = 53) : ∃ u : Nat → Value, t = List.toArray (u 0 :: u 1 :: u 2 :: u 3 :: u 4 :: u 5 :: u 6 :: u 7 :: u 8 :: u 9 :: u 10 :: u 11 :: u 12 :: u 13 :: u 14 :: u 15 :: u 16 :: u 17 :: u 18 :: u 19 :: u 20 :: u 21 :: u 22 :: u 23 :: u 24 :: u 25 :: u 26 :: u 27 :: u 28 :: u 29 :: u 30 :: u 31 :: u 32 :: u 33 :: u 34 :: u 35 :: u 36 :: u 37 :: u 38 :: u 39 :: u 40 :: u 41 :: u 42 :: u 43 :: u 44 :: u 45 :: u 46 :: u 47 :: u 48 :: u 49 :: u 50 :: u 51 :: u 52 :: []) := by
  refine ⟨fun i => t.getD i undef, ?_⟩
  refine Eq.trans (b := ((List.range 53).map fun i => t.getD i undef).toArray) ?_ rfl
  apply Array.ext
  · simp [h]
  · intro k h1 h2
    simp [Array.getD, h1]
structure Vml where
  v0 : Value
  v1 : Value
  v3 : Value
  v4 : Value
  v5 : Value
  v6 : Value
  v7 : Value
  v8 : Value
  v9 : Value
structure Fml (a : Act) (v : Vml) : Prop where
  size : a.tmps.size = 53
  defers : a.defers = []
  s0 : a.tmps.getD 0 undef = v.v0
  s1 : a.tmps.getD 1 undef = v.v1
  s3 : a.tmps.getD 3 undef = v.v3
  s4 : a.tmps.getD 4 undef = v.v4
  s5 : a.tmps.getD 5 undef = v.v5
  s6 : a.tmps.getD 6 undef = v.v6
  s7 : a.tmps.getD 7 undef = v.v7
  s8 : a.tmps.getD 8 undef = v.v8
  s9 : a.tmps.getD 9 undef = v.v9
theorem frx_ml {a : Act} {v0 v1 v3 v4 v5 v6 v7 v8 v9 : Value} (h : Fml a ⟨v0, v1, v3, v4, v5, v6, v7, v8, v9⟩) : ∃ u : Nat → Value, a = ⟨List.toArray (v0 :: v1 :: u 2 :: v3 :: v4 :: v5 :: v6 :: v7 :: v8 :: v9 :: u 10 :: u 11 :: u 12 :: u 13 :: u 14 :: u 15 :: u 16 :: u 17 :: u 18 :: u 19 :: u 20 :: u 21 :: u 22 :: u 23 :: u 24 :: u 25 :: u 26 :: u 27 :: u 28 :: u 29 :: u 30 :: u 31 :: u 32 :: u 33 :: u 34 :: u 35 :: u 36 :: u 37 :: u 38 :: u 39 :: u 40 :: u 41 :: u 42 :: u 43 :: u 44 :: u 45 :: u 46 :: u 47 :: u 48 :: u 49 :: u 50 :: u 51 :: u 52 :: []), []⟩ := by
  obtain ⟨t', d'⟩ := a
  obtain ⟨hs, hd, q0, q1, q3, q4, q5, q6, q7, q8, q9⟩ := h
  obtain ⟨u, hu⟩ := frame_ml t' hs
  simp only at hd q0 q1 q3 q4 q5 q6 q7 q8 q9
  subst hu hd
  have e0 : u 0 = v0 := q0
  have e1 : u 1 = v1 := q1
  have e3 : u 3 = v3 := q3
  have e4 : u 4 = v4 := q4
  have e5 : u 5 = v5 := q5
  have e6 : u 6 = v6 := q6
  have e7 : u 7 = v7 := q7
  have e8 : u 8 = v8 := q8
  have e9 : u 9 = v9 := q9
  refine ⟨u, ?_⟩
  rw [e0, e1, e3, e4, e5, e6, e7, e8, e9]
theorem ml_r0 {K : Act → World → Prop} {c : Code} (hc : regOf (Tryz.f61.body.getD .skip) 0 = some c) (a : Act) {v : Vml} {wq : World} {cm : CM} (hF : Fml a v) (h1v : v.v1 = .agg #[.int .i64 cm.kind, .string cm.topic, .string cm.name, .int .i64 cm.seq, .string cm.key, .string cm.val, .int .i64 cm.n, .int .i64 cm.node, .int .i64 cm.ask]) (hQ : ∀ a', Fml a' { v with v3 := .pointer (some ⟨wq.heap.size, 0, none⟩), v4 := .pointer (some ⟨wq.heap.size + 1, 0, none⟩) } → K a' ((wq.alloc (.cells #[.int .i64 cm.kind, .string cm.topic, .string cm.name, .int .i64 cm.seq, .string cm.key, .string cm.val, .int .i64 cm.n, .int .i64 cm.node, .int .i64 cm.ask] 31)).alloc (.cells #[.int .i64 0, .int .i64 0, .slice none 0 0] 37))) :
    Code.wp Tryz.prog c (Exit.then K fun _ _ _ => False) a wq := by
  have HQ := hide hQ
  clear hQ
  obtain ⟨v0, v1, v3, v4, v5, v6, v7, v8, v9⟩ := v
  simp only at h1v HQ
  subst h1v
  obtain ⟨u, rfl⟩ := frx_ml hF
  clear hF
  simp only [Tryz.f61, Option.getD_some, regOf] at hc
  injection hc with hc
  subst hc
  go_wp2
  exact HQ.out _ ⟨rfl, rfl, rfl, rfl, rfl, rfl, rfl, rfl, rfl, rfl, rfl⟩
theorem ml_ret {W : World} {a : Act} {v : Vml} {rb : Nat} {x y : Int} {ao : Option Addr} {ln cp : Nat} {R : Ending → World → Prop} (hF : Fml a v) (h0 : v.v4 = .pointer (some ⟨rb, 0, none⟩)) (hB : W.heap[rb]? = some (.cells #[.int .i64 x, .int .i64 y, .slice ao ln cp] 37 (0, 0))) (h : R (.returned (.agg #[.int .i64 x, .int .i64 y, .slice ao ln cp])) W) :
    bodyPost Tryz.prog Tryz.f61 R .ret a W := by
  have g0 := slot_get (hF.s4.trans h0)
  have e0 := box_cell hB 0 rfl
  have e1 := box_cell hB 1 rfl
  have e2 := box_cell hB 2 rfl
  refine bodyPost_ret (v := .agg #[.int .i64 x, .int .i64 y, .slice ao ln cp]) ?_ hF.defers h
  simp [results, Tryz.results61, go_sem, g0, e0, e1, e2]
theorem ml_r1 {K : Act → World → Prop} {c : Code} (hc : regOf (Tryz.f61.body.getD .skip) 1 = some c) (a : Act) {v : Vml} {wq : World} {mb zb cb : Nat} {cm : CM} {ss : SB} {ok : Bool} (hF : Fml a v) (h0v : v.v0 = .pointer (some ⟨mb, 0, none⟩)) (h3v : v.v3 = .pointer (some ⟨cb, 0, none⟩)) (hmb : mb < wq.heap.size) (hm : wq.cell? ⟨mb, 11, none⟩ = some (.map (some zb))) (hC : wq.heap[cb]? = some (.cells #[.int .i64 cm.kind, .string cm.topic, .string cm.name, .int .i64 cm.seq, .string cm.key, .string cm.val, .int .i64 cm.n, .int .i64 cm.node, .int .i64 cm.ask] 31 (0, 0))) (hL : ∀ W : World, W.heap[zb]? = wq.heap[zb]? → (Instr.lookup 64 (.map (some zb)) (.string cm.name) true).run Tryz.prog W = .ok (.tuple #[.agg #[.string ss.name, .string ss.top, .int .i64 ss.cur, .int .i64 ss.next], .bool ok]) W) (hzb : zb < wq.heap.size)
    (hQ : ∀ a', Fml a' { v with v5 := .pointer (some ⟨wq.heap.size, 0, none⟩), v6 := .bool ok } → K a' (wq.alloc (.cells #[.string ss.name, .string ss.top, .int .i64 ss.cur, .int .i64 ss.next] 91)).drew) :
    Code.wp Tryz.prog c (Exit.then K fun _ _ _ => False) a wq := by
  have HQ := hide hQ
  clear hQ
  obtain ⟨v0, v1, v3, v4, v5, v6, v7, v8, v9⟩ := v
  simp only at h0v h3v HQ
  subst h0v h3v
  obtain ⟨u, rfl⟩ := frx_ml hF
  clear hF
  simp only [Tryz.f61, Option.getD_some, regOf] at hc
  injection hc with hc
  subst hc
  have hA := (Below.refl wq.heap.size wq).alloc (Nat.le_refl _) (.cells #[.string ⟨#[]⟩, .string ⟨#[]⟩, .int .i64 0, .int .i64 0] 91)
  have hl1 := hL wq.drew rfl
  have hl2 := hL (wq.alloc (.cells #[.string ⟨#[]⟩, .string ⟨#[]⟩, .int .i64 0, .int .i64 0] 91)).drew (hA.block _ hzb)
  have z2 := box_cell hC 2 rfl
  have z2b := (hA.cell (p := ⟨cb, 2, none⟩) (heap_lt hC)).trans z2
  have hmb2 := (hA.cell (p := ⟨mb, 11, none⟩) hmb).trans hm
  clear hC hL hA
  go_region
  all_goals exact HQ.out _ ⟨rfl, rfl, rfl, rfl, rfl, rfl, rfl, rfl, rfl, rfl, rfl⟩
theorem ml_r2 {K : Act → World → Prop} {c : Code} (hc : regOf (Tryz.f61.body.getD .skip) 2 = some c) (a : Act) {v : Vml} {wq : World} {ok : Bool} (hF : Fml a v) (h6v : v.v6 = .bool ok) (hQ : ∀ a', Fml a' v → a'.tmps.getD 21 undef = .bool (!ok) → K a' wq) :
    Code.wp Tryz.prog c (Exit.then K fun _ _ _ => False) a wq := by
  have HQ := hide hQ
  clear hQ
  obtain ⟨v0, v1, v3, v4, v5, v6, v7, v8, v9⟩ := v
  simp only at h6v HQ
  subst h6v
  obtain ⟨u, rfl⟩ := frx_ml hF
  clear hF
  simp only [Tryz.f61, Option.getD_some, regOf] at hc
  injection hc with hc
  subst hc
  go_wp2
  exact HQ.out _ ⟨rfl, rfl, rfl, rfl, rfl, rfl, rfl, rfl, rfl, rfl, rfl⟩ (by first | rfl | (simp; done))
theorem ml_r3 {K : Act → World → Prop} {c : Code} (hc : regOf (Tryz.f61.body.getD .skip) 3 = some c) (a : Act) {v : Vml} {wq : World} {rb : Nat}  (hF : Fml a v) (h4v : v.v4 = .pointer (some ⟨rb, 0, none⟩)) (hR : wq.heap[rb]? = some (.cells #[.int .i64 0, .int .i64 0, .slice none 0 0] 37 (0, 0)))
    (hQ : ∀ a' w1, Fml a' v → Below wq.heap.size wq w1 → K a' (set3 w1 rb (.int .i64 5) (.int .i64 0) (.slice none 0 0))) :
    Code.wp Tryz.prog c (Exit.then K fun _ _ _ => False) a wq := by
  have HQ := hide hQ
  clear hQ
  obtain ⟨v0, v1, v3, v4, v5, v6, v7, v8, v9⟩ := v
  simp only at h4v HQ
  subst h4v
  obtain ⟨u, rfl⟩ := frx_ml hF
  clear hF
  simp only [Tryz.f61, Option.getD_some, regOf] at hc
  injection hc with hc
  subst hc
  have HR := hide hR
  have HE : Hid (Calls Tryz.prog 29 #[.int .i64 5] wq fun e w' => e = .returned (.agg #[.int .i64 5, .int .i64 0, .slice none 0 0]) ∧ Below wq.heap.size wq w') := pcoded 5 wq
  clear hR
  unfold set3 at HQ
  go_wp2_with (go_at_call 29; refine HE.out.mono ?_; rintro e w1 ⟨rfl, b1⟩; have hR2 := Below.at b1 HR.out; have R1 := hide b1; clear b1; have y0 := box_cell hR2 0 rfl; have y1 := box_cell hR2 1 rfl; have y2 := box_cell hR2 2 rfl; have f0 := box_free hR2 0; have f1 := box_free hR2 1; have f2 := box_free hR2 2; clear hR2)
  exact HQ.out _ _ ⟨rfl, rfl, rfl, rfl, rfl, rfl, rfl, rfl, rfl, rfl, rfl⟩ R1.out
theorem ml_r4 {K : Act → World → Prop} {c : Code} (hc : regOf (Tryz.f61.body.getD .skip) 4 = some c) (a : Act) {v : Vml} {wq : World} {sb mb cb yb : Nat} {cm : CM} {ss tt : SB} {tv : Option Addr} {cd : Int} {rs : List Rec} (hF : Fml a v) (h0v : v.v0 = .pointer (some ⟨mb, 0, none⟩)) (h3v : v.v3 = .pointer (some ⟨cb, 0, none⟩)) (h5v : v.v5 = .pointer (some ⟨sb, 0, none⟩)) (hmb : mb < wq.heap.size) (hC : wq.heap[cb]? = some (.cells #[.int .i64 cm.kind, .string cm.topic, .string cm.name, .int .i64 cm.seq, .string cm.key, .string cm.val, .int .i64 cm.n, .int .i64 cm.node, .int .i64 cm.ask] 31 (0, 0))) (hS : wq.heap[sb]? = some (.cells #[.string ss.name, .string ss.top, .int .i64 ss.cur, .int .i64 ss.next] 91 (0, 0))) (hmt : wq.cell? ⟨mb, 10, none⟩ = some (.map (some yb))) (hyb : yb < wq.heap.size) (hL : ∀ W : World, W.heap[yb]? = wq.heap[yb]? → (Instr.lookup 63 (.map (some yb)) (.string ss.top) false).run Tryz.prog W = .ok (.pointer tv) W) (hA : ∀ W, Below wq.heap.size wq W → Calls Tryz.prog 108 #[.agg #[.string ss.name, .string ss.top, .int .i64 ss.cur, .int .i64 ss.next], .pointer tv, .int .i64 cm.n] W fun e w' => ∃ ao cp, e = .returned (.tuple #[.agg #[.string tt.name, .string tt.top, .int .i64 tt.cur, .int .i64 tt.next], .slice ao rs.length cp, .int .i64 cd]) ∧ RecsAt w' (.slice ao rs.length cp) rs ∧ Below W.heap.size W w' ∧ ∀ z, (Value.slice ao 0 cp).ownBlock = some z → W.heap.size ≤ z)
    (hQ : ∀ a' w9 nb ao cp, Fml a' { v with v7 := .pointer (some ⟨nb, 0, none⟩), v8 := .slice ao rs.length cp, v9 := .int .i64 cd } → Below wq.heap.size wq w9 → wq.heap.size ≤ nb → w9.heap[nb]? = some (.cells #[.string tt.name, .string tt.top, .int .i64 tt.cur, .int .i64 tt.next] 91 (0, 0)) → RecsAt w9 (.slice ao rs.length cp) rs → (∀ z, (Value.slice ao 0 cp).ownBlock = some z → wq.heap.size ≤ z) → K a' w9) :
    Code.wp Tryz.prog c (Exit.then K fun _ _ _ => False) a wq := by
  have HQ := hide hQ
  clear hQ
  obtain ⟨v0, v1, v3, v4, v5, v6, v7, v8, v9⟩ := v
  simp only at h0v h3v h5v HQ
  subst h0v h3v h5v
  obtain ⟨u, rfl⟩ := frx_ml hF
  clear hF
  simp only [Tryz.f61, Option.getD_some, regOf] at hc
  injection hc with hc
  subst hc
  have HA := hide hA
  have HL := hide hL
  clear hA hL
  refine wp_region_phi (by kernel_rfl) (ns := 53) (uses := (fun i => match i with | 0 => [24] | 1 => [25] | 2 => [26] | 3 => [27] | 4 => [28] | 5 => [29] | 6 => [30] | 7 => [31] | 8 => [32] | 9 => [33] | 10 => [34] | 11 => [23] | 12 => [35] | 13 => [36] | 14 => [37] | 15 => [7] | 16 => [7] | 17 => [8] | 18 => [9] | _ => [])) (by kernel_rfl) (by kernel_rfl) (fun j w w' => RelQ wq.heap.size 16 j w w') (fun w => Below wq.heap.size wq w) (fun _ _ _ h r => relq_bw rfl h r) ((Below.refl _ _).drew) (fun i => match i with | 0 => fun s w => s 24 = .agg #[.string ss.name, .string ss.top, .int .i64 ss.cur, .int .i64 ss.next] | 1 => fun s w => s 25 = .pointer (some ⟨mb, 0, none⟩) | 2 => fun s w => s 26 = .pointer (some ⟨mb, 0, none⟩) | 3 => fun s w => s 27 = .pointer (some ⟨mb, 10, none⟩) | 4 => fun s w => s 28 = .map (some yb) | 5 => fun s w => s 29 = .pointer (some ⟨sb, 1, none⟩) | 6 => fun s w => s 30 = .string ss.top | 7 => fun s w => s 31 = .pointer tv | 8 => fun s w => s 32 = .pointer (some ⟨cb, 6, none⟩) | 9 => fun s w => s 33 = .int .i64 cm.n | 10 => fun s w => ∃ ao cp, s 34 = .tuple #[.agg #[.string tt.name, .string tt.top, .int .i64 tt.cur, .int .i64 tt.next], .slice ao rs.length cp, .int .i64 cd] ∧ RecsAt w (.slice ao rs.length cp) rs ∧ ∀ z, (Value.slice ao 0 cp).ownBlock = some z → wq.heap.size ≤ z | 11 => fun s w => ∃ ao cp, s 23 = .tuple #[.agg #[.string tt.name, .string tt.top, .int .i64 tt.cur, .int .i64 tt.next], .slice ao rs.length cp, .int .i64 cd] ∧ RecsAt w (.slice ao rs.length cp) rs ∧ ∀ z, (Value.slice ao 0 cp).ownBlock = some z → wq.heap.size ≤ z | 12 => fun s w => s 35 = .agg #[.string tt.name, .string tt.top, .int .i64 tt.cur, .int .i64 tt.next] | 13 => fun s w => ∃ ao cp, s 36 = .slice ao rs.length cp ∧ RecsAt w (.slice ao rs.length cp) rs ∧ ∀ z, (Value.slice ao 0 cp).ownBlock = some z → wq.heap.size ≤ z | 14 => fun s w => s 37 = .int .i64 cd | 15 => fun s w => ∃ b, s 7 = .pointer (some ⟨b, 0, none⟩) ∧ wq.heap.size ≤ b ∧ ∃ u0 u1 u2 u3, w.heap[b]? = some (.cells #[u0, u1, u2, u3] 91 (0, 0)) | 16 => fun s w => ∃ b, s 7 = .pointer (some ⟨b, 0, none⟩) ∧ wq.heap.size ≤ b ∧ w.heap[b]? = some (.cells #[.string tt.name, .string tt.top, .int .i64 tt.cur, .int .i64 tt.next] 91 (0, 0)) | 17 => fun s w => ∃ ao cp, s 8 = .slice ao rs.length cp ∧ RecsAt w (.slice ao rs.length cp) rs ∧ ∀ z, (Value.slice ao 0 cp).ownBlock = some z → wq.heap.size ≤ z | 18 => fun s w => s 9 = .int .i64 cd | _ => fun _ _ => True) ?phc ?phh ?pstep ?pdone
  case phc =>
    intro i s s' w hx h
    match i, hx, h with
    | 0, hx, h => exact (hx 24 (by simp)).symm.trans h
    | 1, hx, h => exact (hx 25 (by simp)).symm.trans h
    | 2, hx, h => exact (hx 26 (by simp)).symm.trans h
    | 3, hx, h => exact (hx 27 (by simp)).symm.trans h
    | 4, hx, h => exact (hx 28 (by simp)).symm.trans h
    | 5, hx, h => exact (hx 29 (by simp)).symm.trans h
    | 6, hx, h => exact (hx 30 (by simp)).symm.trans h
    | 7, hx, h => exact (hx 31 (by simp)).symm.trans h
    | 8, hx, h => exact (hx 32 (by simp)).symm.trans h
    | 9, hx, h => exact (hx 33 (by simp)).symm.trans h
    | 10, hx, h =>
      have e34 := hx 34 (by simp)
      first | exact (show _ from by simp only [← e34] at *; exact h) | (simp only [e34] at h; exact h)
    | 11, hx, h =>
      have e23 := hx 23 (by simp)
      first | exact (show _ from by simp only [← e23] at *; exact h) | (simp only [e23] at h; exact h)
    | 12, hx, h => exact (hx 35 (by simp)).symm.trans h
    | 13, hx, h =>
      have e36 := hx 36 (by simp)
      first | exact (show _ from by simp only [← e36] at *; exact h) | (simp only [e36] at h; exact h)
    | 14, hx, h => exact (hx 37 (by simp)).symm.trans h
    | 15, hx, h =>
      have e7 := hx 7 (by simp)
      first | exact (show _ from by simp only [← e7] at *; exact h) | (simp only [e7] at h; exact h)
    | 16, hx, h =>
      have e7 := hx 7 (by simp)
      first | exact (show _ from by simp only [← e7] at *; exact h) | (simp only [e7] at h; exact h)
    | 17, hx, h =>
      have e8 := hx 8 (by simp)
      first | exact (show _ from by simp only [← e8] at *; exact h) | (simp only [e8] at h; exact h)
    | 18, hx, h => exact (hx 9 (by simp)).symm.trans h
    | (n + 19), _, h => exact h
  case phh =>
    intro i j s w w' hij h hb r
    match i, hij, h with
    | 0, hij, h =>
      exact h
    | 1, hij, h =>
      exact h
    | 2, hij, h =>
      exact h
    | 3, hij, h =>
      exact h
    | 4, hij, h =>
      exact h
    | 5, hij, h =>
      exact h
    | 6, hij, h =>
      exact h
    | 7, hij, h =>
      exact h
    | 8, hij, h =>
      exact h
    | 9, hij, h =>
      exact h
    | 10, hij, h =>
      obtain ⟨ao, cp, h1, h2, h3⟩ := h
      exact ⟨ao, cp, h1, relq_recs r h2, h3⟩
    | 11, hij, h =>
      obtain ⟨ao, cp, h1, h2, h3⟩ := h
      exact ⟨ao, cp, h1, relq_recs r h2, h3⟩
    | 12, hij, h =>
      exact h
    | 13, hij, h =>
      obtain ⟨ao, cp, h1, h2, h3⟩ := h
      exact ⟨ao, cp, h1, relq_recs r h2, h3⟩
    | 14, hij, h =>
      exact h
    | 15, hij, h =>
      obtain ⟨b, h1, h2, h3⟩ := h
      exact ⟨b, h1, h2, relq_box r h3⟩
    | 16, hij, h =>
      obtain ⟨b, h1, h2, h3⟩ := h
      exact ⟨b, h1, h2, Below.at (relq_other (fun e => hij e.symm) r) h3⟩
    | 17, hij, h =>
      obtain ⟨ao, cp, h1, h2, h3⟩ := h
      exact ⟨ao, cp, h1, relq_recs r h2, h3⟩
    | 18, hij, h =>
      exact h
    | (n + 19), _, h => exact h
  case pstep =>
    intro i o ho a' w' hsa hb hd
    match i, ho with
    | 0, ho =>
      obtain rfl := Option.some.inj ho
      try dsimp only at hd
      have g5 : a'.tmps.getD 5 undef = .pointer (some ⟨sb, 0, none⟩) := hsa.rest 5 (by rfl)
      have x0 : w'.cell? ⟨sb, 0, none⟩ = some (.string ss.name) := (hb.cell (p := ⟨sb, 0, none⟩) (heap_lt hS)).trans (box_cell hS 0 rfl)
      have x1 : w'.cell? ⟨sb, 1, none⟩ = some (.string ss.top) := (hb.cell (p := ⟨sb, 1, none⟩) (heap_lt hS)).trans (box_cell hS 1 rfl)
      have x2 : w'.cell? ⟨sb, 2, none⟩ = some (.int .i64 ss.cur) := (hb.cell (p := ⟨sb, 2, none⟩) (heap_lt hS)).trans (box_cell hS 2 rfl)
      have x3 : w'.cell? ⟨sb, 3, none⟩ = some (.int .i64 ss.next) := (hb.cell (p := ⟨sb, 3, none⟩) (heap_lt hS)).trans (box_cell hS 3 rfl)
      refine wpOp_of rfl rfl ?_
      refine op_run (v := .agg #[.string ss.name, .string ss.top, .int .i64 ss.cur, .int .i64 ss.next]) (w' := w') ?_ ⟨_, rfl, ?_, ?_⟩
      · simp only [execOp, Act.eval, g5, x0, x1, x2, x3]; first | (go_simp; done) | rfl
      · try dsimp only
        exact (slots_put (ns := 53) (hsa.size.trans rfl) (by decide))
      · exact .inl ⟨(by decide), Below.refl _ _⟩
    | 1, ho =>
      obtain rfl := Option.some.inj ho
      try dsimp only at hd
      have g0 : a'.tmps.getD 0 undef = .pointer (some ⟨mb, 0, none⟩) := hsa.rest 0 (by rfl)
      refine wpOp_of rfl rfl ?_
      refine op_run (v := .pointer (some ⟨mb, 0, none⟩)) (w' := w') ?_ ⟨_, rfl, ?_, ?_⟩
      · simp only [execOp, Act.eval, g0]; first | (go_simp; done) | rfl
      · try dsimp only
        exact (slots_put (ns := 53) (hsa.size.trans rfl) (by decide))
      · exact .inl ⟨(by decide), Below.refl _ _⟩
    | 2, ho =>
      obtain rfl := Option.some.inj ho
      try dsimp only at hd
      have d1 : a'.tmps.getD 25 undef = .pointer (some ⟨mb, 0, none⟩) := hd 1 (by rfl)
      refine wpOp_of rfl rfl ?_
      refine op_run (v := .pointer (some ⟨mb, 0, none⟩)) (w' := w') ?_ ⟨_, rfl, ?_, ?_⟩
      · simp only [execOp, Act.eval, d1]; first | (go_simp; done) | rfl
      · try dsimp only
        exact (slots_put (ns := 53) (hsa.size.trans rfl) (by decide))
      · exact .inl ⟨(by decide), Below.refl _ _⟩
    | 3, ho =>
      obtain rfl := Option.some.inj ho
      try dsimp only at hd
      have d2 : a'.tmps.getD 26 undef = .pointer (some ⟨mb, 0, none⟩) := hd 2 (by rfl)
      refine wpOp_of rfl rfl ?_
      refine op_run (v := .pointer (some ⟨mb, 10, none⟩)) (w' := w') ?_ ⟨_, rfl, ?_, ?_⟩
      · simp only [execOp, Act.eval, d2]; first | (go_simp; done) | rfl
      · try dsimp only
        exact (slots_put (ns := 53) (hsa.size.trans rfl) (by decide))
      · exact .inl ⟨(by decide), Below.refl _ _⟩
    | 4, ho =>
      obtain rfl := Option.some.inj ho
      try dsimp only at hd
      have d3 : a'.tmps.getD 27 undef = .pointer (some ⟨mb, 10, none⟩) := hd 3 (by rfl)
      have y : w'.cell? ⟨mb, 10, none⟩ = some (.map (some yb)) := (hb.cell (p := ⟨mb, 10, none⟩) hmb).trans hmt
      refine wpOp_of rfl rfl ?_
      refine op_run (v := .map (some yb)) (w' := w') ?_ ⟨_, rfl, ?_, ?_⟩
      · simp only [execOp, Act.eval, d3, y]; first | (go_simp; done) | rfl
      · try dsimp only
        exact (slots_put (ns := 53) (hsa.size.trans rfl) (by decide))
      · exact .inl ⟨(by decide), Below.refl _ _⟩
    | 5, ho =>
      obtain rfl := Option.some.inj ho
      try dsimp only at hd
      have g5 : a'.tmps.getD 5 undef = .pointer (some ⟨sb, 0, none⟩) := hsa.rest 5 (by rfl)
      refine wpOp_of rfl rfl ?_
      refine op_run (v := .pointer (some ⟨sb, 1, none⟩)) (w' := w') ?_ ⟨_, rfl, ?_, ?_⟩
      · simp only [execOp, Act.eval, g5]; first | (go_simp; done) | rfl
      · try dsimp only
        exact (slots_put (ns := 53) (hsa.size.trans rfl) (by decide))
      · exact .inl ⟨(by decide), Below.refl _ _⟩
    | 6, ho =>
      obtain rfl := Option.some.inj ho
      try dsimp only at hd
      have d5 : a'.tmps.getD 29 undef = .pointer (some ⟨sb, 1, none⟩) := hd 5 (by rfl)
      have x1 : w'.cell? ⟨sb, 1, none⟩ = some (.string ss.top) := (hb.cell (p := ⟨sb, 1, none⟩) (heap_lt hS)).trans (box_cell hS 1 rfl)
      refine wpOp_of rfl rfl ?_
      refine op_run (v := .string ss.top) (w' := w') ?_ ⟨_, rfl, ?_, ?_⟩
      · simp only [execOp, Act.eval, d5, x1]; first | (go_simp; done) | rfl
      · try dsimp only
        exact (slots_put (ns := 53) (hsa.size.trans rfl) (by decide))
      · exact .inl ⟨(by decide), Below.refl _ _⟩
    | 7, ho =>
      obtain rfl := Option.some.inj ho
      try dsimp only at hd
      have d4 : a'.tmps.getD 28 undef = .map (some yb) := hd 4 (by rfl)
      have d6 : a'.tmps.getD 30 undef = .string ss.top := hd 6 (by rfl)
      have hl := HL.out w' (hb.block yb hyb)
      refine wpOp_of rfl rfl ?_
      refine op_run (v := .pointer tv) (w' := w') ?_ ⟨_, rfl, ?_, ?_⟩
      · simp only [execOp, Act.eval, d4, d6, hl]; first | (go_simp; done) | rfl
      · try dsimp only
        exact (slots_put (ns := 53) (hsa.size.trans rfl) (by decide))
      · exact .inl ⟨(by decide), Below.refl _ _⟩
    | 8, ho =>
      obtain rfl := Option.some.inj ho
      try dsimp only at hd
      have g3 : a'.tmps.getD 3 undef = .pointer (some ⟨cb, 0, none⟩) := hsa.rest 3 (by rfl)
      refine wpOp_of rfl rfl ?_
      refine op_run (v := .pointer (some ⟨cb, 6, none⟩)) (w' := w') ?_ ⟨_, rfl, ?_, ?_⟩
      · simp only [execOp, Act.eval, g3]; first | (go_simp; done) | rfl
      · try dsimp only
        exact (slots_put (ns := 53) (hsa.size.trans rfl) (by decide))
      · exact .inl ⟨(by decide), Below.refl _ _⟩
    | 9, ho =>
      obtain rfl := Option.some.inj ho
      try dsimp only at hd
      have d8 : a'.tmps.getD 32 undef = .pointer (some ⟨cb, 6, none⟩) := hd 8 (by rfl)
      have z : w'.cell? ⟨cb, 6, none⟩ = some (.int .i64 cm.n) := (hb.cell (p := ⟨cb, 6, none⟩) (heap_lt hC)).trans (box_cell hC 6 rfl)
      refine wpOp_of rfl rfl ?_
      refine op_run (v := .int .i64 cm.n) (w' := w') ?_ ⟨_, rfl, ?_, ?_⟩
      · simp only [execOp, Act.eval, d8, z]; first | (go_simp; done) | rfl
      · try dsimp only
        exact (slots_put (ns := 53) (hsa.size.trans rfl) (by decide))
      · exact .inl ⟨(by decide), Below.refl _ _⟩
    | 10, ho =>
      obtain rfl := Option.some.inj ho
      try dsimp only at hd
      have d0 : a'.tmps.getD 24 undef = .agg #[.string ss.name, .string ss.top, .int .i64 ss.cur, .int .i64 ss.next] := hd 0 (by rfl)
      have d7 : a'.tmps.getD 31 undef = .pointer tv := hd 7 (by rfl)
      have d9 : a'.tmps.getD 33 undef = .int .i64 cm.n := hd 9 (by rfl)
      refine wpOp_of rfl rfl ?_
      refine op_call 108 _ _ rfl (enters_of Tryz.func108 (by kernel_rfl) rfl) [.agg #[.string ss.name, .string ss.top, .int .i64 ss.cur, .int .i64 ss.next], .pointer tv, .int .i64 cm.n] (by simp only [List.map, Act.eval, d0, d7, d9]) (HA.out w' hb) ?_
      rintro e w'' ⟨ao, cp, rfl, ra, b2, ga⟩
      refine ⟨_, rfl, _, rfl, ?_, ?_⟩
      · try dsimp only
        exact ⟨ao, cp, (slots_put (ns := 53) (hsa.size.trans rfl) (by decide)), ra, fun z e => Nat.le_trans hb.size (ga z e)⟩
      · exact .inl ⟨(by decide), b2⟩
    | 11, ho =>
      obtain rfl := Option.some.inj ho
      try dsimp only at hd
      have d10 : ∃ ao cp, a'.tmps.getD 34 undef = .tuple #[.agg #[.string tt.name, .string tt.top, .int .i64 tt.cur, .int .i64 tt.next], .slice ao rs.length cp, .int .i64 cd] ∧ RecsAt w' (.slice ao rs.length cp) rs ∧ ∀ z, (Value.slice ao 0 cp).ownBlock = some z → wq.heap.size ≤ z := hd 10 (by rfl)
      obtain ⟨ao, cp, q1, q2, q3⟩ := d10
      refine wpOp_of rfl rfl ?_
      refine op_run (v := .tuple #[.agg #[.string tt.name, .string tt.top, .int .i64 tt.cur, .int .i64 tt.next], .slice ao rs.length cp, .int .i64 cd]) (w' := w') ?_ ⟨_, rfl, ?_, ?_⟩
      · simp only [execOp, Act.eval, q1]; first | (go_simp; done) | rfl
      · try dsimp only
        exact ⟨ao, cp, (slots_put (ns := 53) (hsa.size.trans rfl) (by decide)), q2, q3⟩
      · exact .inl ⟨(by decide), Below.refl _ _⟩
    | 12, ho =>
      obtain rfl := Option.some.inj ho
      try dsimp only at hd
      have d11 : ∃ ao cp, a'.tmps.getD 23 undef = .tuple #[.agg #[.string tt.name, .string tt.top, .int .i64 tt.cur, .int .i64 tt.next], .slice ao rs.length cp, .int .i64 cd] ∧ RecsAt w' (.slice ao rs.length cp) rs ∧ ∀ z, (Value.slice ao 0 cp).ownBlock = some z → wq.heap.size ≤ z := hd 11 (by rfl)
      obtain ⟨ao, cp, q1, q2, q3⟩ := d11
      refine wpOp_of rfl rfl ?_
      refine op_run (v := .agg #[.string tt.name, .string tt.top, .int .i64 tt.cur, .int .i64 tt.next]) (w' := w') ?_ ⟨_, rfl, ?_, ?_⟩
      · simp only [execOp, Act.eval, q1]; first | (go_simp; done) | rfl
      · try dsimp only
        exact (slots_put (ns := 53) (hsa.size.trans rfl) (by decide))
      · exact .inl ⟨(by decide), Below.refl _ _⟩
    | 13, ho =>
      obtain rfl := Option.some.inj ho
      try dsimp only at hd
      have d11 : ∃ ao cp, a'.tmps.getD 23 undef = .tuple #[.agg #[.string tt.name, .string tt.top, .int .i64 tt.cur, .int .i64 tt.next], .slice ao rs.length cp, .int .i64 cd] ∧ RecsAt w' (.slice ao rs.length cp) rs ∧ ∀ z, (Value.slice ao 0 cp).ownBlock = some z → wq.heap.size ≤ z := hd 11 (by rfl)
      obtain ⟨ao, cp, q1, q2, q3⟩ := d11
      refine wpOp_of rfl rfl ?_
      refine op_run (v := .slice ao rs.length cp) (w' := w') ?_ ⟨_, rfl, ?_, ?_⟩
      · simp only [execOp, Act.eval, q1]; first | (go_simp; done) | rfl
      · try dsimp only
        exact ⟨ao, cp, (slots_put (ns := 53) (hsa.size.trans rfl) (by decide)), q2, q3⟩
      · exact .inl ⟨(by decide), Below.refl _ _⟩
    | 14, ho =>
      obtain rfl := Option.some.inj ho
      try dsimp only at hd
      have d11 : ∃ ao cp, a'.tmps.getD 23 undef = .tuple #[.agg #[.string tt.name, .string tt.top, .int .i64 tt.cur, .int .i64 tt.next], .slice ao rs.length cp, .int .i64 cd] ∧ RecsAt w' (.slice ao rs.length cp) rs ∧ ∀ z, (Value.slice ao 0 cp).ownBlock = some z → wq.heap.size ≤ z := hd 11 (by rfl)
      obtain ⟨ao, cp, q1, q2, q3⟩ := d11
      refine wpOp_of rfl rfl ?_
      refine op_run (v := .int .i64 cd) (w' := w') ?_ ⟨_, rfl, ?_, ?_⟩
      · simp only [execOp, Act.eval, q1]; first | (go_simp; done) | rfl
      · try dsimp only
        exact (slots_put (ns := 53) (hsa.size.trans rfl) (by decide))
      · exact .inl ⟨(by decide), Below.refl _ _⟩
    | 15, ho =>
      obtain rfl := Option.some.inj ho
      try dsimp only at hd
      refine wpOp_of rfl rfl ?_
      refine op_run (v := (.pointer (some ⟨w'.heap.size, 0, none⟩))) (w' := (w'.alloc (.cells #[.string ⟨#[]⟩, .string ⟨#[]⟩, .int .i64 0, .int .i64 0] 91))) ?_ ⟨_, rfl, ?_, ?_⟩
      · simp only [execOp, Act.eval, List.map_toArray, List.map_cons, List.map_nil]; first | (go_simp; done) | rfl
      · try dsimp only
        exact ⟨_, (slots_put (ns := 53) (hsa.size.trans rfl) (by decide)), hb.size, _, _, _, _, heap_alloc_new w' _⟩
      · exact .inl ⟨(by decide), (Below.refl _ _).alloc (Nat.le_refl _) _⟩
    | 16, ho =>
      obtain rfl := Option.some.inj ho
      try dsimp only at hd
      have d12 : a'.tmps.getD 35 undef = .agg #[.string tt.name, .string tt.top, .int .i64 tt.cur, .int .i64 tt.next] := hd 12 (by rfl)
      have d15 : ∃ b, a'.tmps.getD 7 undef = .pointer (some ⟨b, 0, none⟩) ∧ wq.heap.size ≤ b ∧ ∃ u0 u1 u2 u3, w'.heap[b]? = some (.cells #[u0, u1, u2, u3] 91 (0, 0)) := hd 15 (by rfl)
      obtain ⟨nb, q1, q2, u0, u1, u2, u3, q3⟩ := d15
      obtain ⟨⟨e0, e1, e2, e3⟩, f0, f1, f2, f3⟩ := box4 q3
      refine wpOp_of rfl rfl ?_
      refine op_skip (w' := (set4 w' nb (.string tt.name) (.string tt.top) (.int .i64 tt.cur) (.int .i64 tt.next))) ?_ ⟨undef, rfl, ?_, ?_⟩
      · unfold set4; simp only [execOp, Act.eval, q1, d12]; first | (go_simp; done) | (go_simp; rfl) | rfl
      · try dsimp only
        exact ⟨nb, q1, q2, set4_box q3⟩
      · exact .inr ⟨rfl, nb, q2, set4_touch _ _, ⟨_, _, _, _, q3⟩, ⟨_, _, _, _, set4_box q3⟩⟩
    | 17, ho =>
      obtain rfl := Option.some.inj ho
      try dsimp only at hd
      have d13 : ∃ ao cp, a'.tmps.getD 36 undef = .slice ao rs.length cp ∧ RecsAt w' (.slice ao rs.length cp) rs ∧ ∀ z, (Value.slice ao 0 cp).ownBlock = some z → wq.heap.size ≤ z := hd 13 (by rfl)
      obtain ⟨ao, cp, q1, q2, q3⟩ := d13
      refine wpOp_of rfl rfl ?_
      refine op_run (v := .slice ao rs.length cp) (w' := w') ?_ ⟨_, rfl, ?_, ?_⟩
      · simp only [execOp, Act.eval, q1]; first | (go_simp; done) | rfl
      · try dsimp only
        exact ⟨ao, cp, (slots_put (ns := 53) (hsa.size.trans rfl) (by decide)), q2, q3⟩
      · exact .inl ⟨(by decide), Below.refl _ _⟩
    | 18, ho =>
      obtain rfl := Option.some.inj ho
      try dsimp only at hd
      have d14 : a'.tmps.getD 37 undef = .int .i64 cd := hd 14 (by rfl)
      refine wpOp_of rfl rfl ?_
      refine op_run (v := .int .i64 cd) (w' := w') ?_ ⟨_, rfl, ?_, ?_⟩
      · simp only [execOp, Act.eval, d14]; first | (go_simp; done) | rfl
      · try dsimp only
        exact (slots_put (ns := 53) (hsa.size.trans rfl) (by decide))
      · exact .inl ⟨(by decide), Below.refl _ _⟩
    | (n + 19), ho => exact absurd ho (by simp)
  case pdone =>
    intro a' w' hsa hb hd
    have d0 : a'.tmps.getD 24 undef = .agg #[.string ss.name, .string ss.top, .int .i64 ss.cur, .int .i64 ss.next] := hd 0 (by decide)
    have d1 : a'.tmps.getD 25 undef = .pointer (some ⟨mb, 0, none⟩) := hd 1 (by decide)
    have d2 : a'.tmps.getD 26 undef = .pointer (some ⟨mb, 0, none⟩) := hd 2 (by decide)
    have d3 : a'.tmps.getD 27 undef = .pointer (some ⟨mb, 10, none⟩) := hd 3 (by decide)
    have d4 : a'.tmps.getD 28 undef = .map (some yb) := hd 4 (by decide)
    have d5 : a'.tmps.getD 29 undef = .pointer (some ⟨sb, 1, none⟩) := hd 5 (by decide)
    have d6 : a'.tmps.getD 30 undef = .string ss.top := hd 6 (by decide)
    have d7 : a'.tmps.getD 31 undef = .pointer tv := hd 7 (by decide)
    have d8 : a'.tmps.getD 32 undef = .pointer (some ⟨cb, 6, none⟩) := hd 8 (by decide)
    have d9 : a'.tmps.getD 33 undef = .int .i64 cm.n := hd 9 (by decide)
    have d10 : ∃ ao cp, a'.tmps.getD 34 undef = .tuple #[.agg #[.string tt.name, .string tt.top, .int .i64 tt.cur, .int .i64 tt.next], .slice ao rs.length cp, .int .i64 cd] ∧ RecsAt w' (.slice ao rs.length cp) rs ∧ ∀ z, (Value.slice ao 0 cp).ownBlock = some z → wq.heap.size ≤ z := hd 10 (by decide)
    have d11 : ∃ ao cp, a'.tmps.getD 23 undef = .tuple #[.agg #[.string tt.name, .string tt.top, .int .i64 tt.cur, .int .i64 tt.next], .slice ao rs.length cp, .int .i64 cd] ∧ RecsAt w' (.slice ao rs.length cp) rs ∧ ∀ z, (Value.slice ao 0 cp).ownBlock = some z → wq.heap.size ≤ z := hd 11 (by decide)
    have d12 : a'.tmps.getD 35 undef = .agg #[.string tt.name, .string tt.top, .int .i64 tt.cur, .int .i64 tt.next] := hd 12 (by decide)
    have d13 : ∃ ao cp, a'.tmps.getD 36 undef = .slice ao rs.length cp ∧ RecsAt w' (.slice ao rs.length cp) rs ∧ ∀ z, (Value.slice ao 0 cp).ownBlock = some z → wq.heap.size ≤ z := hd 13 (by decide)
    have d14 : a'.tmps.getD 37 undef = .int .i64 cd := hd 14 (by decide)
    have d15 : ∃ b, a'.tmps.getD 7 undef = .pointer (some ⟨b, 0, none⟩) ∧ wq.heap.size ≤ b ∧ ∃ u0 u1 u2 u3, w'.heap[b]? = some (.cells #[u0, u1, u2, u3] 91 (0, 0)) := hd 15 (by decide)
    have d16 : ∃ b, a'.tmps.getD 7 undef = .pointer (some ⟨b, 0, none⟩) ∧ wq.heap.size ≤ b ∧ w'.heap[b]? = some (.cells #[.string tt.name, .string tt.top, .int .i64 tt.cur, .int .i64 tt.next] 91 (0, 0)) := hd 16 (by decide)
    have d17 : ∃ ao cp, a'.tmps.getD 8 undef = .slice ao rs.length cp ∧ RecsAt w' (.slice ao rs.length cp) rs ∧ ∀ z, (Value.slice ao 0 cp).ownBlock = some z → wq.heap.size ≤ z := hd 17 (by decide)
    have d18 : a'.tmps.getD 9 undef = .int .i64 cd := hd 18 (by decide)
    obtain ⟨ao, cp, k1, k2, k3⟩ := d17
    obtain ⟨nb, k4, k5, k6⟩ := d16
    exact HQ.out _ _ nb ao cp ⟨hsa.size.trans rfl, hsa.defers.trans rfl, hsa.rest 0 (by rfl), hsa.rest 1 (by rfl), hsa.rest 3 (by rfl), hsa.rest 4 (by rfl), hsa.rest 5 (by rfl), hsa.rest 6 (by rfl), k4, k1, d18⟩ hb k5 k6 k2 k3
theorem ml_r5 {K : Act → World → Prop} {c : Code} (hc : regOf (Tryz.f61.body.getD .skip) 5 = some c) (a : Act) {v : Vml} {wq : World} {cd : Int} (hF : Fml a v) (h9v : v.v9 = .int .i64 cd) (hQ : ∀ a', Fml a' v → a'.tmps.getD 39 undef = .bool (!(cd == 0)) → K a' wq) :
    Code.wp Tryz.prog c (Exit.then K fun _ _ _ => False) a wq := by
  have HQ := hide hQ
  clear hQ
  obtain ⟨v0, v1, v3, v4, v5, v6, v7, v8, v9⟩ := v
  simp only at h9v HQ
  subst h9v
  obtain ⟨u, rfl⟩ := frx_ml hF
  clear hF
  simp only [Tryz.f61, Option.getD_some, regOf] at hc
  injection hc with hc
  subst hc
  go_wp2
  exact HQ.out _ ⟨rfl, rfl, rfl, rfl, rfl, rfl, rfl, rfl, rfl, rfl, rfl⟩ (by first | rfl | (simp; done))
theorem ml_r6 {K : Act → World → Prop} {c : Code} (hc : regOf (Tryz.f61.body.getD .skip) 6 = some c) (a : Act) {v : Vml} {wq : World} {rb : Nat} {cd : Int} (hF : Fml a v) (h4v : v.v4 = .pointer (some ⟨rb, 0, none⟩)) (h9v : v.v9 = .int .i64 cd) (hR : wq.heap[rb]? = some (.cells #[.int .i64 0, .int .i64 0, .slice none 0 0] 37 (0, 0)))
    (hQ : ∀ a' w1, Fml a' v → Below wq.heap.size wq w1 → K a' (set3 w1 rb (.int .i64 cd) (.int .i64 0) (.slice none 0 0))) :
    Code.wp Tryz.prog c (Exit.then K fun _ _ _ => False) a wq := by
  have HQ := hide hQ
  clear hQ
  obtain ⟨v0, v1, v3, v4, v5, v6, v7, v8, v9⟩ := v
  simp only at h4v h9v HQ
  subst h4v h9v
  obtain ⟨u, rfl⟩ := frx_ml hF
  clear hF
  simp only [Tryz.f61, Option.getD_some, regOf] at hc
  injection hc with hc
  subst hc
  have HR := hide hR
  have HE : Hid (Calls Tryz.prog 29 #[.int .i64 cd] wq fun e w' => e = .returned (.agg #[.int .i64 cd, .int .i64 0, .slice none 0 0]) ∧ Below wq.heap.size wq w') := pcoded cd wq
  clear hR
  unfold set3 at HQ
  go_wp2_with (go_at_call 29; refine HE.out.mono ?_; rintro e w1 ⟨rfl, b1⟩; have hR2 := Below.at b1 HR.out; have R1 := hide b1; clear b1; have y0 := box_cell hR2 0 rfl; have y1 := box_cell hR2 1 rfl; have y2 := box_cell hR2 2 rfl; have f0 := box_free hR2 0; have f1 := box_free hR2 1; have f2 := box_free hR2 2; clear hR2)
  exact HQ.out _ _ ⟨rfl, rfl, rfl, rfl, rfl, rfl, rfl, rfl, rfl, rfl, rfl⟩ R1.out
theorem ml_r7 {K : Act → World → Prop} {c : Code} (hc : regOf (Tryz.f61.body.getD .skip) 7 = some c) (a : Act) {v : Vml} {wq : World} {mb zb cb nb : Nat} {cm : CM} {tt : SB} {R : World → World → Prop} (hF : Fml a v) (h0v : v.v0 = .pointer (some ⟨mb, 0, none⟩)) (h3v : v.v3 = .pointer (some ⟨cb, 0, none⟩)) (h7v : v.v7 = .pointer (some ⟨nb, 0, none⟩)) (hmb : mb < wq.heap.size) (hm : wq.cell? ⟨mb, 11, none⟩ = some (.map (some zb))) (hC : wq.heap[cb]? = some (.cells #[.int .i64 cm.kind, .string cm.topic, .string cm.name, .int .i64 cm.seq, .string cm.key, .string cm.val, .int .i64 cm.n, .int .i64 cm.node, .int .i64 cm.ask] 31 (0, 0))) (hT : wq.heap[nb]? = some (.cells #[.string tt.name, .string tt.top, .int .i64 tt.cur, .int .i64 tt.next] 91 (0, 0))) (hM : ∀ W, Below wq.heap.size wq W → ∃ W2, (Instr.mapUpdate 64 (.map (some zb)) (.string cm.name) (.agg #[.string tt.name, .string tt.top, .int .i64 tt.cur, .int .i64 tt.next])).run Tryz.prog W = .ok () W2 ∧ R W W2)
    (hQ : ∀ a' w1 w2, Fml a' v → Below wq.heap.size wq w1 → R w1 w2 → K a' w2) :
    Code.wp Tryz.prog c (Exit.then K fun _ _ _ => False) a wq := by
  have HQ := hide hQ
  clear hQ
  obtain ⟨v0, v1, v3, v4, v5, v6, v7, v8, v9⟩ := v
  simp only at h0v h3v h7v HQ
  subst h0v h3v h7v
  obtain ⟨u, rfl⟩ := frx_ml hF
  clear hF
  simp only [Tryz.f61, Option.getD_some, regOf] at hc
  injection hc with hc
  subst hc
  have HM := hide hM
  clear hM
  refine wp_region_last 7 rfl (by kernel_rfl) rfl rfl (by kernel_rfl) ?_
  intro ops' hops'
  simp only [idle, List.setIfInBounds_toArray, List.set_cons_succ, List.set_cons_zero] at hops'
  subst hops'
  refine wpAny_phi (ns := 53) (uses := (fun i => match i with | 0 => [42] | 1 => [43] | 2 => [44] | 3 => [45] | 4 => [46] | 5 => [47] | 6 => [48] | 7 => [] | _ => [])) (by kernel_rfl) (by kernel_rfl) (fun _ w w' => Below w.heap.size w w') (fun w => Below wq.heap.size wq w) (fun _ _ _ h r => h.trans (r.mono h.size)) ((Below.refl _ _).drew) (fun i => match i with | 0 => fun s w => s 42 = .pointer (some ⟨mb, 0, none⟩) | 1 => fun s w => s 43 = .pointer (some ⟨mb, 0, none⟩) | 2 => fun s w => s 44 = .pointer (some ⟨mb, 11, none⟩) | 3 => fun s w => s 45 = .map (some zb) | 4 => fun s w => s 46 = .pointer (some ⟨cb, 2, none⟩) | 5 => fun s w => s 47 = .string cm.name | 6 => fun s w => s 48 = .agg #[.string tt.name, .string tt.top, .int .i64 tt.cur, .int .i64 tt.next] | 7 => fun s w => True | _ => fun _ _ => True) ?phc ?phh ?pstep ?pdone
  case phc =>
    intro i s s' w hx h
    match i, hx, h with
    | 0, hx, h => exact (hx 42 (by simp)).symm.trans h
    | 1, hx, h => exact (hx 43 (by simp)).symm.trans h
    | 2, hx, h => exact (hx 44 (by simp)).symm.trans h
    | 3, hx, h => exact (hx 45 (by simp)).symm.trans h
    | 4, hx, h => exact (hx 46 (by simp)).symm.trans h
    | 5, hx, h => exact (hx 47 (by simp)).symm.trans h
    | 6, hx, h => exact (hx 48 (by simp)).symm.trans h
    | 7, hx, h =>
      exact h
    | (n + 8), _, h => exact h
  case phh =>
    intro i j s w w' hij h hb r
    match i, hij, h with
    | 0, hij, h =>
      exact h
    | 1, hij, h =>
      exact h
    | 2, hij, h =>
      exact h
    | 3, hij, h =>
      exact h
    | 4, hij, h =>
      exact h
    | 5, hij, h =>
      exact h
    | 6, hij, h =>
      exact h
    | 7, hij, h =>
      exact h
    | (n + 8), _, h => exact h
  case pstep =>
    intro i o ho a' w' hsa hb hd
    match i, ho with
    | 0, ho =>
      obtain rfl := Option.some.inj ho
      try dsimp only at hd
      have g0 : a'.tmps.getD 0 undef = .pointer (some ⟨mb, 0, none⟩) := hsa.rest 0 (by rfl)
      refine wpOp_of rfl rfl ?_
      refine op_run (v := .pointer (some ⟨mb, 0, none⟩)) (w' := w') ?_ ⟨_, rfl, ?_, ?_⟩
      · simp only [execOp, Act.eval, g0]; first | (go_simp; done) | rfl
      · try dsimp only
        exact (slots_put (ns := 53) (hsa.size.trans rfl) (by decide))
      · exact Below.refl _ _
    | 1, ho =>
      obtain rfl := Option.some.inj ho
      try dsimp only at hd
      have d0 : a'.tmps.getD 42 undef = .pointer (some ⟨mb, 0, none⟩) := hd 0 (by rfl)
      refine wpOp_of rfl rfl ?_
      refine op_run (v := .pointer (some ⟨mb, 0, none⟩)) (w' := w') ?_ ⟨_, rfl, ?_, ?_⟩
      · simp only [execOp, Act.eval, d0]; first | (go_simp; done) | rfl
      · try dsimp only
        exact (slots_put (ns := 53) (hsa.size.trans rfl) (by decide))
      · exact Below.refl _ _
    | 2, ho =>
      obtain rfl := Option.some.inj ho
      try dsimp only at hd
      have d1 : a'.tmps.getD 43 undef = .pointer (some ⟨mb, 0, none⟩) := hd 1 (by rfl)
      refine wpOp_of rfl rfl ?_
      refine op_run (v := .pointer (some ⟨mb, 11, none⟩)) (w' := w') ?_ ⟨_, rfl, ?_, ?_⟩
      · simp only [execOp, Act.eval, d1]; first | (go_simp; done) | rfl
      · try dsimp only
        exact (slots_put (ns := 53) (hsa.size.trans rfl) (by decide))
      · exact Below.refl _ _
    | 3, ho =>
      obtain rfl := Option.some.inj ho
      try dsimp only at hd
      have d2 : a'.tmps.getD 44 undef = .pointer (some ⟨mb, 11, none⟩) := hd 2 (by rfl)
      have y : w'.cell? ⟨mb, 11, none⟩ = some (.map (some zb)) := (hb.cell (p := ⟨mb, 11, none⟩) hmb).trans hm
      refine wpOp_of rfl rfl ?_
      refine op_run (v := .map (some zb)) (w' := w') ?_ ⟨_, rfl, ?_, ?_⟩
      · simp only [execOp, Act.eval, d2, y]; first | (go_simp; done) | rfl
      · try dsimp only
        exact (slots_put (ns := 53) (hsa.size.trans rfl) (by decide))
      · exact Below.refl _ _
    | 4, ho =>
      obtain rfl := Option.some.inj ho
      try dsimp only at hd
      have g3 : a'.tmps.getD 3 undef = .pointer (some ⟨cb, 0, none⟩) := hsa.rest 3 (by rfl)
      refine wpOp_of rfl rfl ?_
      refine op_run (v := .pointer (some ⟨cb, 2, none⟩)) (w' := w') ?_ ⟨_, rfl, ?_, ?_⟩
      · simp only [execOp, Act.eval, g3]; first | (go_simp; done) | rfl
      · try dsimp only
        exact (slots_put (ns := 53) (hsa.size.trans rfl) (by decide))
      · exact Below.refl _ _
    | 5, ho =>
      obtain rfl := Option.some.inj ho
      try dsimp only at hd
      have d4 : a'.tmps.getD 46 undef = .pointer (some ⟨cb, 2, none⟩) := hd 4 (by rfl)
      have z : w'.cell? ⟨cb, 2, none⟩ = some (.string cm.name) := (hb.cell (p := ⟨cb, 2, none⟩) (heap_lt hC)).trans (box_cell hC 2 rfl)
      refine wpOp_of rfl rfl ?_
      refine op_run (v := .string cm.name) (w' := w') ?_ ⟨_, rfl, ?_, ?_⟩
      · simp only [execOp, Act.eval, d4, z]; first | (go_simp; done) | rfl
      · try dsimp only
        exact (slots_put (ns := 53) (hsa.size.trans rfl) (by decide))
      · exact Below.refl _ _
    | 6, ho =>
      obtain rfl := Option.some.inj ho
      try dsimp only at hd
      have g7 : a'.tmps.getD 7 undef = .pointer (some ⟨nb, 0, none⟩) := hsa.rest 7 (by rfl)
      have x0 : w'.cell? ⟨nb, 0, none⟩ = some (.string tt.name) := (hb.cell (p := ⟨nb, 0, none⟩) (heap_lt hT)).trans (box_cell hT 0 rfl)
      have x1 : w'.cell? ⟨nb, 1, none⟩ = some (.string tt.top) := (hb.cell (p := ⟨nb, 1, none⟩) (heap_lt hT)).trans (box_cell hT 1 rfl)
      have x2 : w'.cell? ⟨nb, 2, none⟩ = some (.int .i64 tt.cur) := (hb.cell (p := ⟨nb, 2, none⟩) (heap_lt hT)).trans (box_cell hT 2 rfl)
      have x3 : w'.cell? ⟨nb, 3, none⟩ = some (.int .i64 tt.next) := (hb.cell (p := ⟨nb, 3, none⟩) (heap_lt hT)).trans (box_cell hT 3 rfl)
      refine wpOp_of rfl rfl ?_
      refine op_run (v := .agg #[.string tt.name, .string tt.top, .int .i64 tt.cur, .int .i64 tt.next]) (w' := w') ?_ ⟨_, rfl, ?_, ?_⟩
      · simp only [execOp, Act.eval, g7, x0, x1, x2, x3]; first | (go_simp; done) | rfl
      · try dsimp only
        exact (slots_put (ns := 53) (hsa.size.trans rfl) (by decide))
      · exact Below.refl _ _
    | 7, ho =>
      obtain rfl := Option.some.inj ho
      try dsimp only at hd
      refine wpOp_of rfl rfl ?_
      refine op_run (v := undef) (w' := w') ?_ ⟨_, rfl, ?_, ?_⟩
      · rfl
      · try dsimp only
        trivial
      · exact Below.refl _ _
    | (n + 8), ho => exact absurd ho (by simp)
  case pdone =>
    intro a' w' hsa hb hd
    have d0 : a'.tmps.getD 42 undef = .pointer (some ⟨mb, 0, none⟩) := hd 0 (by decide)
    have d1 : a'.tmps.getD 43 undef = .pointer (some ⟨mb, 0, none⟩) := hd 1 (by decide)
    have d2 : a'.tmps.getD 44 undef = .pointer (some ⟨mb, 11, none⟩) := hd 2 (by decide)
    have d3 : a'.tmps.getD 45 undef = .map (some zb) := hd 3 (by decide)
    have d4 : a'.tmps.getD 46 undef = .pointer (some ⟨cb, 2, none⟩) := hd 4 (by decide)
    have d5 : a'.tmps.getD 47 undef = .string cm.name := hd 5 (by decide)
    have d6 : a'.tmps.getD 48 undef = .agg #[.string tt.name, .string tt.top, .int .i64 tt.cur, .int .i64 tt.next] := hd 6 (by decide)
    have d7 : True := hd 7 (by decide)
    intro K2 hK2
    obtain ⟨w2, hrun, r2⟩ := HM.out w' hb
    refine op_skip (w' := w2) ?_ (hK2 _ _ ?_)
    · simp only [execOp, Act.eval, d3, d5, d6]
      first | (go_simp; done) | (simp [hrun]; done) | (rw [hrun]; rfl)
    exact HQ.out _ _ _ ⟨hsa.size.trans rfl, hsa.defers.trans rfl, hsa.rest 0 (by rfl), hsa.rest 1 (by rfl), hsa.rest 3 (by rfl), hsa.rest 4 (by rfl), hsa.rest 5 (by rfl), hsa.rest 6 (by rfl), hsa.rest 7 (by rfl), hsa.rest 8 (by rfl), hsa.rest 9 (by rfl)⟩ hb r2
theorem ml_r8 {K : Act → World → Prop} {c : Code} (hc : regOf (Tryz.f61.body.getD .skip) 8 = some c) (a : Act) {v : Vml} {wq : World} {rb nb ln cp : Nat} {ao : Option Addr} {tt : SB} (hF : Fml a v) (h4v : v.v4 = .pointer (some ⟨rb, 0, none⟩)) (h7v : v.v7 = .pointer (some ⟨nb, 0, none⟩)) (h8v : v.v8 = .slice ao ln cp) (hR : wq.heap[rb]? = some (.cells #[.int .i64 0, .int .i64 0, .slice none 0 0] 37 (0, 0))) (hT : wq.heap[nb]? = some (.cells #[.string tt.name, .string tt.top, .int .i64 tt.cur, .int .i64 tt.next] 91 (0, 0)))
    (hQ : ∀ a', Fml a' v → K a' (set3 wq rb (.int .i64 0) (.int .i64 tt.next) (.slice ao ln cp))) :
    Code.wp Tryz.prog c (Exit.then K fun _ _ _ => False) a wq := by
  have HQ := hide hQ
  clear hQ
  obtain ⟨v0, v1, v3, v4, v5, v6, v7, v8, v9⟩ := v
  simp only at h4v h7v h8v HQ
  subst h4v h7v h8v
  obtain ⟨u, rfl⟩ := frx_ml hF
  clear hF
  simp only [Tryz.f61, Option.getD_some, regOf] at hc
  injection hc with hc
  subst hc
  have y0 := box_cell hR 0 rfl
  have y1 := box_cell hR 1 rfl
  have y2 := box_cell hR 2 rfl
  have f0 := box_free hR 0
  have f1 := box_free hR 1
  have f2 := box_free hR 2
  clear hR
  unfold set3 at HQ
  have x3 := box_cell hT 3 rfl
  clear hT
  go_wp2
  exact HQ.out _ ⟨rfl, rfl, rfl, rfl, rfl, rfl, rfl, rfl, rfl, rfl, rfl⟩
theorem pmpoll {w : World} {L : LM} {X : MS} {c : Nat} (h : MAt w L X) (hk : X.Ok c) (hc : c + 1 ≤ 100000) (cm : CM) (hx : cm.right = true) (hn : cm.n ≤ 9223372036854775807) :
    Calls Tryz.prog 61 #[.pointer (some ⟨L.b, 0, none⟩), .agg #[.int .i64 cm.kind, .string cm.topic, .string cm.name, .int .i64 cm.seq, .string cm.key, .string cm.val, .int .i64 cm.n, .int .i64 cm.node, .int .i64 cm.ask]] w fun e w' => Gave w L (pollM X cm) e w' := by
  have b1 : Below w.heap.size w ((w.alloc (.cells #[.int .i64 cm.kind, .string cm.topic, .string cm.name, .int .i64 cm.seq, .string cm.key, .string cm.val, .int .i64 cm.n, .int .i64 cm.node, .int .i64 cm.ask] 31)).alloc (.cells #[.int .i64 0, .int .i64 0, .slice none 0 0] 37)) := ((Below.refl w.heap.size w).alloc (Nat.le_refl _) _).alloc (by simp) _
  have c1 : ((w.alloc (.cells #[.int .i64 cm.kind, .string cm.topic, .string cm.name, .int .i64 cm.seq, .string cm.key, .string cm.val, .int .i64 cm.n, .int .i64 cm.node, .int .i64 cm.ask] 31)).alloc (.cells #[.int .i64 0, .int .i64 0, .slice none 0 0] 37)).heap[w.heap.size]? = some (.cells #[.int .i64 cm.kind, .string cm.topic, .string cm.name, .int .i64 cm.seq, .string cm.key, .string cm.val, .int .i64 cm.n, .int .i64 cm.node, .int .i64 cm.ask] 31 (0, 0)) := Below.at ((Below.refl _ _).alloc (Nat.le_refl _) _) (heap_alloc_new w _)
  have r1 : ((w.alloc (.cells #[.int .i64 cm.kind, .string cm.topic, .string cm.name, .int .i64 cm.seq, .string cm.key, .string cm.val, .int .i64 cm.n, .int .i64 cm.node, .int .i64 cm.ask] 31)).alloc (.cells #[.int .i64 0, .int .i64 0, .slice none 0 0] 37)).heap[w.heap.size + 1]? = some (.cells #[.int .i64 0, .int .i64 0, .slice none 0 0] 37 (0, 0)) := by
    have := heap_alloc_new (w.alloc (.cells #[.int .i64 cm.kind, .string cm.topic, .string cm.name, .int .i64 cm.seq, .string cm.key, .string cm.val, .int .i64 cm.n, .int .i64 cm.node, .int .i64 cm.ask] 31)) (.cells #[.int .i64 0, .int .i64 0, .slice none 0 0] 37)
    simpa using this
  obtain ⟨sz1, sz2, sz3, sz4⟩ := cm_sizes hx
  have szT : cm.topic.size ≤ maxLen := by unfold maxLen; omega
  have szN : cm.name.size ≤ maxLen := by unfold maxLen; omega
  go_enter Tryz.func61, Tryz.ntmps61
  refine wp_seq (reg_mono (ml_r0 (by kernel_rfl) _ (v := ⟨_, _, _, _, _, _, _, _, _⟩) (cm := cm) ⟨rfl, rfl, rfl, rfl, rfl, rfl, rfl, rfl, rfl, rfl, rfl⟩ rfl ?_))
  intro a0 F0
  try dsimp only at F0
  generalize (w.alloc _).alloc _ = w1 at *
  have h1 := h.below b1
  have l1 := h1.lt.1
  have m1 := h1.cells
  have LS := fun W e => h1.lookS (W := W) e cm.name szN
  have szn : X.sn < maxLen := by have := hk.sn; unfold maxLen; omega
  have rno : ¬ L.own (w.heap.size + 1) := fun e => by have := h.lim _ e; omega
  cases hS : X.S cm.name.data.toList with
  | none =>
    have hE : pollM X cm = (codedM 5, X) := by unfold pollM; rw [hS]
    rw [hE]
    refine wp_seq (reg_mono (ml_r1 (ss := SB.zero) (by kernel_rfl) _ F0 rfl rfl l1 m1.2.2.2.2 c1 (fun W e => by have := LS W e; rw [hS] at this; exact this) h1.lt.2.2 ?_))
    intro a1 F1
    try dsimp only at F1
    have b2 : Below w.heap.size w (w1.alloc (.cells #[.string SB.zero.name, .string SB.zero.top, .int .i64 SB.zero.cur, .int .i64 SB.zero.next] 91)).drew := (b1.alloc b1.size _).drew
    have r2 : (w1.alloc (.cells #[.string SB.zero.name, .string SB.zero.top, .int .i64 SB.zero.cur, .int .i64 SB.zero.next] 91)).drew.heap[w.heap.size + 1]? = _ := Below.at ((Below.refl w1.heap.size w1).alloc (Nat.le_refl _) _) r1
    generalize (w1.alloc _).drew = w2 at *
    refine wp_seq (wp_seq (reg_mono (ml_r2 (by kernel_rfl) _ F1 rfl ?_)))
    intro a2 F2 g2
    refine wp_cond_true g2 ?_
    refine wp_seq (reg_mono (ml_r3 (by kernel_rfl) _ F2 rfl r2 ?_))
    intro a9 w9 F9 b9
    refine wp_ret ?_
    have bb : Below w.heap.size w (set3 w9 (w.heap.size + 1) (.int .i64 5) (.int .i64 0) (.slice none 0 0)) := (b2.trans (b9.mono b2.size)).trans (touch_newX set3_touch (Nat.le_trans b2.size b9.size) (fun k e => by omega))
    exact ml_ret F9 rfl (set3_box (Below.at b9 r2)) (gave0 rfl rfl rfl (h.below bb) (MStep.below bb))
  | some s =>
    refine wp_seq (reg_mono (ml_r1 (ss := s) (by kernel_rfl) _ F0 rfl rfl l1 m1.2.2.2.2 c1 (fun W e => by have := LS W e; rw [hS] at this; exact this) h1.lt.2.2 ?_))
    intro a1 F1
    try dsimp only at F1
    have ba : Below w1.heap.size w1 (w1.alloc (.cells #[.string s.name, .string s.top, .int .i64 s.cur, .int .i64 s.next] 91)).drew := ((Below.refl w1.heap.size w1).alloc (Nat.le_refl _) _).drew
    have b2 : Below w.heap.size w (w1.alloc (.cells #[.string s.name, .string s.top, .int .i64 s.cur, .int .i64 s.next] 91)).drew := b1.trans (ba.mono b1.size)
    have h2 : MAt (w1.alloc (.cells #[.string s.name, .string s.top, .int .i64 s.cur, .int .i64 s.next] 91)).drew L X := h1.below ba
    have c2 := Below.at ba c1
    have r2 := Below.at ba r1
    have s2 : (w1.alloc (.cells #[.string s.name, .string s.top, .int .i64 s.cur, .int .i64 s.next] 91)).drew.heap[w1.heap.size]? = some (.cells #[.string s.name, .string s.top, .int .i64 s.cur, .int .i64 s.next] 91 (0, 0)) := heap_alloc_new w1 _
    obtain ⟨so, sn, st⟩ := hk.subs _ s hS
    refine wp_seq (wp_seq (reg_mono (ml_r2 (by kernel_rfl) _ F1 rfl ?_)))
    intro a2 F2 g2
    refine wp_cond_false g2 (wp_skip ?_)
    show Code.wp _ _ _ _ _
    have l2 := h2.lt.1
    have m2 := h2.cells
    generalize (w1.alloc _).drew = w2 at *
    cases hT : X.T s.top.data.toList with
    | none => rw [hT] at st; cases st
    | some H =>
      have LT := fun W e => h2.lookT0 (W := W) e s.top (by have := so.tp; unfold maxLen; omega)
      rw [hT] at LT
      have tk := (hk.tops _ H hT).1
      have HA := fun W (hW : Below w2.heap.size w2 W) => spoll ((h2.below hW).top _ H hT) tk s so cm.n hn
      have pn := poll_name s H cm.n
      have hE : pollM X cm = if (pollF s H cm.n).2.2 = 0 then (⟨0, (pollF s H cm.n).1.next, (pollF s H cm.n).2.1⟩, X.putS cm.name.data.toList (pollF s H cm.n).1) else (codedM (pollF s H cm.n).2.2, X) := by unfold pollM; rw [hS]; simp only [hT]
      rw [hE]
      generalize pollF s H cm.n = P at *
      refine wp_seq (reg_mono (ml_r4 (tt := P.1) (rs := P.2.1) (cd := P.2.2) (by kernel_rfl) _ F2 rfl rfl rfl l2 c2 s2 m2.2.2.2.1 h2.lt.2.1 LT HA ?_))
      intro a4 w3 nb ao cp F4 b3 n1 t3 ra ga
      try dsimp only at F4
      have h3 := h2.below b3
      have r3 := Below.at b3 r2
      have b13 := b2.trans (b3.mono b2.size)
      refine wp_seq (wp_seq (reg_mono (ml_r5 (by kernel_rfl) _ F4 rfl ?_)))
      intro a5 F5 g5
      by_cases h0 : P.2.2 = 0
      case neg =>
        rw [if_neg h0]
        rw [beq_eq_false_iff_ne.2 h0] at g5
        refine wp_cond_true g5 ?_
        refine wp_seq (reg_mono (ml_r6 (by kernel_rfl) _ F5 rfl rfl r3 ?_))
        intro a9 w9 F9 b9
        refine wp_ret ?_
        have bb : Below w.heap.size w (set3 w9 (w.heap.size + 1) (.int .i64 P.2.2) (.int .i64 0) (.slice none 0 0)) := (b13.trans (b9.mono b13.size)).trans (touch_newX set3_touch (Nat.le_trans b13.size b9.size) (fun k e => by omega))
        exact ml_ret F9 rfl (set3_box (Below.at b9 r3)) (gave0 rfl rfl rfl (h.below bb) (MStep.below bb))
      rw [if_pos h0]
      rw [h0] at g5
      refine wp_cond_false g5 (wp_skip ?_)
      show Code.wp _ _ _ _ _
      refine wp_seq (reg_mono (ml_r7 (R := fun W W2 => W2.ownsMap Tryz.prog 9 subR L.sb (X.sn + 1) (L.sD.put (.string cm.name.data.toList) P.1.d) ∧ W.mapTurned W2 L.sb) (by kernel_rfl) _ F5 rfl rfl rfl h3.lt.1 (h3.cells.2.2.2.2) (Below.at b3 c2) t3 (fun W hW => ?_) ?_))
      · obtain ⟨W2, e1, e2, e3⟩ := (h3.below hW).smap.store keyedS Tryz.underlying64 szn (Go.WideMaps.keyOf_string_mk (P := Tryz.prog) Tryz.underlying9 (s := cm.name) szN) (subR_mk P.1)
        exact ⟨W2, e1, e2, e3⟩
      intro a7 w7 w8 F7 b7 ⟨o8, t8⟩
      have h7 := h3.below b7
      obtain ⟨h8, st8⟩ := h7.subbed (s := P.1) cm.name szN rfl t8 o8
      have sbl := h.lt.2.2
      have r8 := (turned_touch t8).at (Below.at b7 r3) (fun e => by omega)
      have w2l := b2.size
      have n8 := (turned_touch t8).at (Below.at b7 t3) (fun e => by omega)
      have ra8 := RecsAt.keep (ra.below b7) (turned_touch t8) (fun z e1 e2 => by have := ga z e1; omega)
      refine wp_seq (reg_mono (ml_r8 (by kernel_rfl) _ F7 rfl rfl rfl r8 n8 ?_))
      intro a9 F9
      refine wp_ret ?_
      have t9 : Touch (fun j => j = w.heap.size + 1) w8 (set3 w8 (w.heap.size + 1) (.int .i64 0) (.int .i64 P.1.next) (.slice ao P.2.1.length cp)) := set3_touch
      obtain ⟨h5, st5⟩ := h.fin (rb := w.heap.size + 1) b2 (Nat.le_succ _) (heap_lt r2) h8 ((MStep.below b3).trans ((MStep.below b7).trans st8)) t9
      refine ml_ret F9 rfl (set3_box r8) ⟨ao, cp, rfl, ?_, _, h5, st5, fun z e => ⟨Nat.le_trans b2.size (ga z e), fun e2 => ?_⟩⟩
      · exact RecsAt.keep ra8 t9 (fun z e1 e2 => by have := ga z e1; have := heap_lt r2; omega)
      · have e3 : L.own z := e2
        have := h.lim z e3
        have := ga z e
        omega
end Go.Proofs.YtlfodldlkchmoaaGreat.Y
