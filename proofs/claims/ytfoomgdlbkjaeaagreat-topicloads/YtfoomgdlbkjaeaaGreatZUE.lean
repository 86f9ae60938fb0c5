/-
  mark, as it runs; have's regions (mkue.py).
-/
import Derived.Test.YtfoomgdlbkjaeaaGreatZUS
namespace Go.Proofs.YtfoomgdlbkjaeaaGreat.Y
open Go.RowKit
set_option maxHeartbeats 8000000
set_option maxRecDepth 100000
attribute [local go_sem ↓] Go.wp_at_zero Go.wp_at_succ
set_option linter.unusedSimpArgs false
set_option linter.unusedVariables false
def markB (lo fi : Int) : Bool := decide (0 ≤ lo ∧ lo ≤ fi ∧ fi ≤ 9007199254740991)
theorem tmark {w : World} {L : LOC} {G : TG} (h : TAt w L G) (lo fi : Int) : Calls Tryz.prog 43 #[.pointer (some ⟨L.b, 0, none⟩), .int .i64 lo, .int .i64 fi] w fun e w' =>
    e = .returned (.bool (markB lo fi)) ∧ w' = (w.setCell ⟨L.b, 1, none⟩ (.int .i64 lo)).setCell ⟨L.b, 2, none⟩ (.int .i64 fi) := by
  obtain ⟨c0, c1, c2, c3, c4⟩ := h.cells
  have f1 := h.free 1
  have f2 := h.free 2
  have HB := hide (box_set h.box 1 (.int .i64 lo))
  clear h
  have p1 : (w.setCell ⟨L.b, 1, none⟩ (.int .i64 lo)).frozen? ⟨L.b, 2, none⟩ = false := box_free HB.out 2
  have p2 : (w.setCell ⟨L.b, 1, none⟩ (.int .i64 lo)).cell? ⟨L.b, 2, none⟩ = some (.int .i64 G.fin) := box_cell HB.out 2 rfl
  by_cases h1 : 0 ≤ lo
  · by_cases h2 : lo ≤ fi
    · by_cases h3 : fi ≤ 9007199254740991
      · rw [show markB lo fi = true from decide_eq_true ⟨h1, h2, h3⟩]
        go_enter Tryz.func43, Tryz.ntmps43
        go_wp2
        go_ret
        exact ⟨rfl, rfl⟩
      · rw [show markB lo fi = false from decide_eq_false fun e => h3 e.2.2]
        go_enter Tryz.func43, Tryz.ntmps43
        go_wp2
        go_ret
        exact ⟨rfl, rfl⟩
    · rw [show markB lo fi = false from decide_eq_false fun e => h2 e.2.1]
      go_enter Tryz.func43, Tryz.ntmps43
      go_wp2
      go_ret
      exact ⟨rfl, rfl⟩
  · rw [show markB lo fi = false from decide_eq_false fun e => h1 e.1]
    go_enter Tryz.func43, Tryz.ntmps43
    go_wp2
    go_ret
    exact ⟨rfl, rfl⟩
theorem TAt.mark {w : World} {L : LOC} {G : TG} (h : TAt w L G) (lo fi : Nat) : TAt ((w.setCell ⟨L.b, 1, none⟩ (.int .i64 lo)).setCell ⟨L.b, 2, none⟩ (.int .i64 fi)) L { G with low := lo, fin := fi } := by
  refine ⟨?_, (h.row.set L.b 1 _ h.row_ne).set L.b 2 _ h.row_ne, (h.map.setCell (a := ⟨L.b, 1, none⟩) h.mb_ne _).setCell (a := ⟨L.b, 2, none⟩) h.mb_ne _⟩
  have := box_set (box_set h.box 1 (.int .i64 lo)) 2 (.int .i64 fi)
  simpa using this
theorem mark_touch (w : World) (L : LOC) (lo fi : Int) : Touch L.own w ((w.setCell ⟨L.b, 1, none⟩ (.int .i64 lo)).setCell ⟨L.b, 2, none⟩ (.int .i64 fi)) :=
  ((Touch.refl L.own w).setCell _ _ (fun _ => .inl rfl)).setCell _ _ (fun _ => .inl rfl)
theorem frame_ha (t : Array Value) (h : t.size = 44) : ∃ u : Nat → Value, t = List.toArray (u 0 :: u 1 :: u 2 :: u 3 :: u 4 :: u 5 :: u 6 :: u 7 :: u 8 :: u 9 :: u 10 :: u 11 :: u 12 :: u 13 :: u 14 :: u 15 :: u 16 :: u 17 :: u 18 :: u 19 :: u 20 :: u 21 :: u 22 :: u 23 :: u 24 :: u 25 :: u 26 :: u 27 :: u 28 :: u 29 :: u 30 :: u 31 :: u 32 :: u 33 :: u 34 :: u 35 :: u 36 :: u 37 :: u 38 :: u 39 :: u 40 :: u 41 :: u 42 :: u 43 :: []) := by
  refine ⟨fun i => t.getD i undef, ?_⟩
  refine Eq.trans (b := ((List.range 44).map fun i => t.getD i undef).toArray) ?_ rfl
  apply Array.ext
  · simp [h]
  · intro k h1 h2
    simp [Array.getD, h1]
structure Vha where
  v0 : Value
  v1 : Value
  v4 : Value
  v5 : Value
  v7 : Value
  v12 : Value
  v13 : Value
  v14 : Value
structure Fha (a : Act) (v : Vha) : Prop where
  size : a.tmps.size = 44
  defers : a.defers = []
  s0 : a.tmps.getD 0 undef = v.v0
  s1 : a.tmps.getD 1 undef = v.v1
  s4 : a.tmps.getD 4 undef = v.v4
  s5 : a.tmps.getD 5 undef = v.v5
  s7 : a.tmps.getD 7 undef = v.v7
  s12 : a.tmps.getD 12 undef = v.v12
  s13 : a.tmps.getD 13 undef = v.v13
  s14 : a.tmps.getD 14 undef = v.v14
theorem frx_ha {a : Act} {v0 v1 v4 v5 v7 v12 v13 v14 : Value} (h : Fha a ⟨v0, v1, v4, v5, v7, v12, v13, v14⟩) : ∃ u : Nat → Value, a = ⟨List.toArray (v0 :: v1 :: u 2 :: u 3 :: v4 :: v5 :: u 6 :: v7 :: u 8 :: u 9 :: u 10 :: u 11 :: v12 :: v13 :: v14 :: u 15 :: u 16 :: u 17 :: u 18 :: u 19 :: u 20 :: u 21 :: u 22 :: u 23 :: u 24 :: u 25 :: u 26 :: u 27 :: u 28 :: u 29 :: u 30 :: u 31 :: u 32 :: u 33 :: u 34 :: u 35 :: u 36 :: u 37 :: u 38 :: u 39 :: u 40 :: u 41 :: u 42 :: u 43 :: []), []⟩ := by
  obtain ⟨t', d'⟩ := a
  obtain ⟨hs, hd, q0, q1, q4, q5, q7, q12, q13, q14⟩ := h
  obtain ⟨u, hu⟩ := frame_ha t' hs
  simp only at hd q0 q1 q4 q5 q7 q12 q13 q14
  subst hu hd
  have e0 : u 0 = v0 := q0
  have e1 : u 1 = v1 := q1
  have e4 : u 4 = v4 := q4
  have e5 : u 5 = v5 := q5
  have e7 : u 7 = v7 := q7
  have e12 : u 12 = v12 := q12
  have e13 : u 13 = v13 := q13
  have e14 : u 14 = v14 := q14
  refine ⟨u, ?_⟩
  rw [e0, e1, e4, e5, e7, e12, e13, e14]
theorem ha_r0 {K : Act → World → Prop} {c : Code} (hc : regOf (Tryz.f46.body.getD .skip) 0 = some c) (a : Act) {v : Vha} {wq : World}  (hF : Fha a v) (hQ : ∀ a', Fha a' { v with v4 := .bool false } → K a' wq) :
    Code.wp Tryz.prog c (Exit.then K fun _ _ _ => False) a wq := by
  have HQ := hide hQ
  clear hQ
  obtain ⟨v0, v1, v4, v5, v7, v12, v13, v14⟩ := v
  obtain ⟨u, rfl⟩ := frx_ha hF
  clear hF
  simp only [Tryz.f46, Option.getD_some, regOf] at hc
  injection hc with hc
  subst hc
  go_wp2
  exact HQ.out _ ⟨rfl, rfl, rfl, rfl, rfl, rfl, rfl, rfl, rfl, rfl⟩
theorem ha_r1 {K : Act → World → Prop} {c : Code} (hc : regOf (Tryz.f46.body.getD .skip) 1 = some c) (a : Act) {v : Vha} {wq : World} {tb mb sn sc : Nat} {so : Option Addr} {nm : ByteArray} {lo fi : Int} (hF : Fha a v) (h0v : v.v0 = .pointer (some ⟨tb, 0, none⟩)) (hB : wq.heap[tb]? = some (.cells #[.string nm, .int .i64 lo, .int .i64 fi, .slice so sn sc, .map (some mb)] 52 (0, 0)))
    (hQ : ∀ a', Fha a' { v with v5 := .int .i64 lo } → K a' wq) :
    Code.wp Tryz.prog c (Exit.then K fun _ _ _ => False) a wq := by
  have HQ := hide hQ
  clear hQ
  obtain ⟨v0, v1, v4, v5, v7, v12, v13, v14⟩ := v
  simp only at h0v HQ
  subst h0v
  obtain ⟨u, rfl⟩ := frx_ha hF
  clear hF
  simp only [Tryz.f46, Option.getD_some, regOf] at hc
  injection hc with hc
  subst hc
  have c1 := box_cell hB 1 rfl
  clear hB
  go_wp2
  exact HQ.out _ ⟨rfl, rfl, rfl, rfl, rfl, rfl, rfl, rfl, rfl, rfl⟩
theorem ha_r2 {K : Act → World → Prop} {c : Code} (hc : regOf (Tryz.f46.body.getD .skip) 2 = some c) (a : Act) {v : Vha} {wq : World} {ro : Option Addr} {n rc : Nat} (hF : Fha a v) (h1v : v.v1 = .slice ro n rc) (hQ : ∀ a', Fha a' { v with v12 := .slice ro n rc, v13 := .int .i64 (n : Int), v14 := .int .i64 ((0 : Nat) : Int) } → K a' wq) :
    Code.wp Tryz.prog c (Exit.then K fun _ _ _ => False) a wq := by
  have HQ := hide hQ
  clear hQ
  obtain ⟨v0, v1, v4, v5, v7, v12, v13, v14⟩ := v
  simp only at h1v HQ
  subst h1v
  obtain ⟨u, rfl⟩ := frx_ha hF
  clear hF
  simp only [Tryz.f46, Option.getD_some, regOf] at hc
  injection hc with hc
  subst hc
  go_wp2
  exact HQ.out _ ⟨rfl, rfl, rfl, rfl, rfl, rfl, rfl, rfl, rfl, rfl⟩
theorem ha_r3 {K : Act → World → Prop} {c : Code} (hc : regOf (Tryz.f46.body.getD .skip) 3 = some c) (a : Act) {v : Vha} {wq : World} {i n : Nat} (hF : Fha a v) (h14v : v.v14 = .int .i64 (i : Int)) (h13v : v.v13 = .int .i64 (n : Int)) (hQ : ∀ a', Fha a' v → a'.tmps.getD 15 undef = .bool (decide (i < n)) → K a' wq) :
    Code.wp Tryz.prog c (Exit.then K fun _ _ _ => False) a wq := by
  have HQ := hide hQ
  clear hQ
  obtain ⟨v0, v1, v4, v5, v7, v12, v13, v14⟩ := v
  simp only at h14v h13v HQ
  subst h14v h13v
  obtain ⟨u, rfl⟩ := frx_ha hF
  clear hF
  simp only [Tryz.f46, Option.getD_some, regOf] at hc
  injection hc with hc
  subst hc
  by_cases h1 : i < n
  · rw [decide_eq_true h1] at HQ
    have g : (i : Int) < (n : Int) := by omega
    go_wp2
    exact HQ.out _ ⟨rfl, rfl, rfl, rfl, rfl, rfl, rfl, rfl, rfl, rfl⟩ (by first | rfl | (simp; done) | (simp; omega))
  · rw [decide_eq_false h1] at HQ
    have g : ¬ (i : Int) < (n : Int) := by omega
    go_wp2
    exact HQ.out _ ⟨rfl, rfl, rfl, rfl, rfl, rfl, rfl, rfl, rfl, rfl⟩ (by first | rfl | (simp; done) | (simp; omega))
theorem ha_r4 {K : Act → World → Prop} {c : Code} (hc : regOf (Tryz.f46.body.getD .skip) 4 = some c) (a : Act) {v : Vha} {wq : World} {g off n cp i : Nat} {xo xs : Int} {xp xk xv : ByteArray} (hF : Fha a v) (h12v : v.v12 = .slice (some ⟨g, off, none⟩) n cp) (h14v : v.v14 = .int .i64 (i : Int)) (hi : i < n) (c0 : wq.cell? ⟨g, off + i * 5, none⟩ = some (.int .i64 xo)) (c1 : wq.cell? ⟨g, off + i * 5 + 1, none⟩ = some (.string xp)) (c2 : wq.cell? ⟨g, off + i * 5 + 2, none⟩ = some (.int .i64 xs)) (c3 : wq.cell? ⟨g, off + i * 5 + 3, none⟩ = some (.string xk)) (c4 : wq.cell? ⟨g, off + i * 5 + 4, none⟩ = some (.string xv))
    (hQ : ∀ a', Fha a' { v with v7 := .pointer (some ⟨wq.heap.size, 0, none⟩) } → K a' (wq.alloc (.cells #[.int .i64 xo, .string xp, .int .i64 xs, .string xk, .string xv] 39))) :
    Code.wp Tryz.prog c (Exit.then K fun _ _ _ => False) a wq := by
  have HQ := hide hQ
  clear hQ
  obtain ⟨v0, v1, v4, v5, v7, v12, v13, v14⟩ := v
  simp only at h12v h14v HQ
  subst h12v h14v
  obtain ⟨u, rfl⟩ := frx_ha hF
  clear hF
  simp only [Tryz.f46, Option.getD_some, regOf] at hc
  injection hc with hc
  subst hc
  have hi0 : (0 : Int) ≤ (i : Int) := by omega
  have hi1 : (i : Int) < (n : Int) := by omega
  go_wp2
  exact HQ.out _ ⟨rfl, rfl, rfl, rfl, rfl, rfl, rfl, rfl, rfl, rfl⟩
theorem ha_r5a {K : Act → World → Prop} {c : Code} (hc : regOf (Tryz.f46.body.getD .skip) 5 = some c) (a : Act) {v : Vha} {wq : World} {tb mb sn sc : Nat} {so : Option Addr} {nm : ByteArray} {lo fi : Int} {rb : Nat} {xo xs fr : Int} {xp xk xv : ByteArray} (hF : Fha a v) (h0v : v.v0 = .pointer (some ⟨tb, 0, none⟩)) (h7v : v.v7 = .pointer (some ⟨rb, 0, none⟩)) (h5v : v.v5 = .int .i64 fr) (hB : wq.heap[tb]? = some (.cells #[.string nm, .int .i64 lo, .int .i64 fi, .slice so sn sc, .map (some mb)] 52 (0, 0))) (hR : wq.heap[rb]? = some (.cells #[.int .i64 xo, .string xp, .int .i64 xs, .string xk, .string xv] 39 (0, 0))) (hC : ∀ W, Calls Tryz.prog 78 #[.agg #[.int .i64 xo, .string xp, .int .i64 xs, .string xk, .string xv]] W fun e w' => e = .returned (.bool false) ∧ Below W.heap.size W w')
    (hQ : ∀ a' w', Fha a' v → a'.tmps.getD 35 undef = .bool true → Below wq.heap.size wq w' → K a' w') :
    Code.wp Tryz.prog c (Exit.then K fun _ _ _ => False) a wq := by
  have HQ := hide hQ
  clear hQ
  obtain ⟨v0, v1, v4, v5, v7, v12, v13, v14⟩ := v
  simp only at h0v h7v h5v HQ
  subst h0v h7v h5v
  obtain ⟨u, rfl⟩ := frx_ha hF
  clear hF
  simp only [Tryz.f46, Option.getD_some, regOf] at hc
  injection hc with hc
  subst hc
  have HC := hide hC
  clear hC
  refine wp_region_phi (by kernel_rfl) (ns := 44) (uses := (fun i => match i with | 0 => [18] | 1 => [19] | 2 => [20] | 3 => [21] | 4 => [22] | 5 => [23] | 6 => [24] | 7 => [25] | 8 => [26] | 9 => [27] | 10 => [28] | 11 => [29] | 12 => [30] | 13 => [31] | 14 => [32] | 15 => [33] | 16 => [34] | 17 => [35] | _ => [])) (by kernel_rfl) (by kernel_rfl) (fun _ w w' => Below w.heap.size w w') (fun w => Below wq.heap.size wq w) (fun _ _ _ h r => h.trans (r.mono h.size)) ((Below.refl _ _).drew) (fun i => match i with | 0 => fun s w => s 18 = .agg #[.int .i64 xo, .string xp, .int .i64 xs, .string xk, .string xv] | 1 => fun s w => s 19 = .bool false | 2 => fun s w => s 20 = .bool true | 3 => fun s w => s 21 = .bool true | 4 => fun s w => s 22 = undef | 5 => fun s w => s 23 = undef | 6 => fun s w => s 24 = undef | 7 => fun s w => s 25 = undef | 8 => fun s w => s 26 = .bool true | 9 => fun s w => s 27 = .bool true | 10 => fun s w => s 28 = undef | 11 => fun s w => s 29 = undef | 12 => fun s w => s 30 = undef | 13 => fun s w => s 31 = undef | 14 => fun s w => s 32 = undef | 15 => fun s w => s 33 = undef | 16 => fun s w => s 34 = undef | 17 => fun s w => s 35 = .bool true | _ => fun _ _ => True) ?phc ?phh ?pstep ?pdone
  case phc =>
    intro i s s' w hx h
    match i, hx, h with
    | 0, hx, h =>
      have e18 := hx 18 (by simp)
      first | exact (show _ from by simp only [← e18] at *; exact h) | (simp only [e18] at h; exact h)
    | 1, hx, h =>
      have e19 := hx 19 (by simp)
      first | exact (show _ from by simp only [← e19] at *; exact h) | (simp only [e19] at h; exact h)
    | 2, hx, h =>
      have e20 := hx 20 (by simp)
      first | exact (show _ from by simp only [← e20] at *; exact h) | (simp only [e20] at h; exact h)
    | 3, hx, h =>
      have e21 := hx 21 (by simp)
      first | exact (show _ from by simp only [← e21] at *; exact h) | (simp only [e21] at h; exact h)
    | 4, hx, h =>
      have e22 := hx 22 (by simp)
      first | exact (show _ from by simp only [← e22] at *; exact h) | (simp only [e22] at h; exact h)
    | 5, hx, h =>
      have e23 := hx 23 (by simp)
      first | exact (show _ from by simp only [← e23] at *; exact h) | (simp only [e23] at h; exact h)
    | 6, hx, h =>
      have e24 := hx 24 (by simp)
      first | exact (show _ from by simp only [← e24] at *; exact h) | (simp only [e24] at h; exact h)
    | 7, hx, h =>
      have e25 := hx 25 (by simp)
      first | exact (show _ from by simp only [← e25] at *; exact h) | (simp only [e25] at h; exact h)
    | 8, hx, h =>
      have e26 := hx 26 (by simp)
      first | exact (show _ from by simp only [← e26] at *; exact h) | (simp only [e26] at h; exact h)
    | 9, hx, h =>
      have e27 := hx 27 (by simp)
      first | exact (show _ from by simp only [← e27] at *; exact h) | (simp only [e27] at h; exact h)
    | 10, hx, h =>
      have e28 := hx 28 (by simp)
      first | exact (show _ from by simp only [← e28] at *; exact h) | (simp only [e28] at h; exact h)
    | 11, hx, h =>
      have e29 := hx 29 (by simp)
      first | exact (show _ from by simp only [← e29] at *; exact h) | (simp only [e29] at h; exact h)
    | 12, hx, h =>
      have e30 := hx 30 (by simp)
      first | exact (show _ from by simp only [← e30] at *; exact h) | (simp only [e30] at h; exact h)
    | 13, hx, h =>
      have e31 := hx 31 (by simp)
      first | exact (show _ from by simp only [← e31] at *; exact h) | (simp only [e31] at h; exact h)
    | 14, hx, h =>
      have e32 := hx 32 (by simp)
      first | exact (show _ from by simp only [← e32] at *; exact h) | (simp only [e32] at h; exact h)
    | 15, hx, h =>
      have e33 := hx 33 (by simp)
      first | exact (show _ from by simp only [← e33] at *; exact h) | (simp only [e33] at h; exact h)
    | 16, hx, h =>
      have e34 := hx 34 (by simp)
      first | exact (show _ from by simp only [← e34] at *; exact h) | (simp only [e34] at h; exact h)
    | 17, hx, h =>
      have e35 := hx 35 (by simp)
      first | exact (show _ from by simp only [← e35] at *; exact h) | (simp only [e35] at h; exact h)
    | (n + 18), _, h => exact h
  case phh =>
    intro i j s w w' hij h hb r
    iterate 18 (rcases i with _ | i; · exact h)
    exact h
  case pstep =>
    intro i o ho a' w' hsa hb hd
    match i, ho with
    | 0, ho =>
      obtain rfl := Option.some.inj ho
      try dsimp only at hd
      have g7 : a'.tmps.getD 7 undef = .pointer (some ⟨rb, 0, none⟩) := hsa.rest 7 (by rfl)
      have y0 : w'.cell? ⟨rb, 0, none⟩ = some (.int .i64 xo) := (hb.cell (p := ⟨rb, 0, none⟩) (heap_lt hR)).trans (box_cell hR 0 rfl)
      have y1 : w'.cell? ⟨rb, 1, none⟩ = some (.string xp) := (hb.cell (p := ⟨rb, 1, none⟩) (heap_lt hR)).trans (box_cell hR 1 rfl)
      have y2 : w'.cell? ⟨rb, 2, none⟩ = some (.int .i64 xs) := (hb.cell (p := ⟨rb, 2, none⟩) (heap_lt hR)).trans (box_cell hR 2 rfl)
      have y3 : w'.cell? ⟨rb, 3, none⟩ = some (.string xk) := (hb.cell (p := ⟨rb, 3, none⟩) (heap_lt hR)).trans (box_cell hR 3 rfl)
      have y4 : w'.cell? ⟨rb, 4, none⟩ = some (.string xv) := (hb.cell (p := ⟨rb, 4, none⟩) (heap_lt hR)).trans (box_cell hR 4 rfl)
      refine wpOp_of rfl rfl ?_
      refine op_run (v := .agg #[.int .i64 xo, .string xp, .int .i64 xs, .string xk, .string xv]) (w' := w') ?_ ⟨_, rfl, slots_put (ns := 44) (hsa.size.trans rfl) (by decide), Below.refl _ _⟩
      simp only [execOp, Act.eval, List.map_toArray, List.map_cons, List.map_nil, g7, y0, y1, y2, y3, y4]; first | (go_simp; done) | rfl
    | 1, ho =>
      obtain rfl := Option.some.inj ho
      try dsimp only at hd
      have d0 : a'.tmps.getD 18 undef = .agg #[.int .i64 xo, .string xp, .int .i64 xs, .string xk, .string xv] := hd 0 (by rfl)
      refine wpOp_of rfl rfl ?_
      refine op_call 78 _ _ rfl (enters_of Tryz.func78 (by kernel_rfl) rfl) [.agg #[.int .i64 xo, .string xp, .int .i64 xs, .string xk, .string xv]] (by simp only [List.map, Act.eval, d0]) (HC.out w') ?_
      rintro e w'' ⟨rfl, b2⟩
      refine ⟨_, rfl, _, rfl, ?_, ?_⟩
      · try dsimp only
        exact (slots_put (ns := 44) (hsa.size.trans rfl) (by decide))
      · exact b2
    | 2, ho =>
      obtain rfl := Option.some.inj ho
      try dsimp only at hd
      have d1 : a'.tmps.getD 19 undef = .bool false := hd 1 (by rfl)
      refine wpOp_of rfl rfl ?_
      refine op_run (v := .bool true) (w' := w') ?_ ⟨_, rfl, slots_put (ns := 44) (hsa.size.trans rfl) (by decide), Below.refl _ _⟩
      simp only [execOp, Act.eval, List.map_toArray, List.map_cons, List.map_nil, d1]; first | (go_simp; done) | rfl
    | 3, ho =>
      obtain rfl := Option.some.inj ho
      try dsimp only at hd
      have d2 : a'.tmps.getD 20 undef = .bool true := hd 2 (by rfl)
      refine wpOp_of rfl rfl ?_
      refine op_run (v := .bool true) (w' := w') ?_ ⟨_, rfl, slots_put (ns := 44) (hsa.size.trans rfl) (by decide), Below.refl _ _⟩
      simp only [execOp, Act.eval, List.map_toArray, List.map_cons, List.map_nil, d2]; first | (go_simp; done) | rfl
    | 4, ho | 5, ho | 6, ho | 7, ho =>
      obtain rfl := Option.some.inj ho
      try dsimp only at hd
      have d3 : a'.tmps.getD 21 undef = .bool true := hd 3 (by rfl)
      exact wpOp_off (j := 3) (dj := 21) rfl rfl rfl d3 (by simp [undef]) ⟨undef, rfl, slots_put (ns := 44) (hsa.size.trans rfl) (by decide), Below.refl _ _⟩
    | 8, ho =>
      obtain rfl := Option.some.inj ho
      try dsimp only at hd
      have d3 : a'.tmps.getD 21 undef = .bool true := hd 3 (by rfl)
      have d7 : a'.tmps.getD 25 undef = undef := hd 7 (by rfl)
      refine wpOp_of rfl rfl ?_
      refine op_run (v := .bool true) (w' := w') ?_ ⟨_, rfl, slots_put (ns := 44) (hsa.size.trans rfl) (by decide), Below.refl _ _⟩
      simp only [execOp, Act.eval, List.map_toArray, List.map_cons, List.map_nil, d3, d7]; first | (go_simp; done) | rfl
    | 9, ho =>
      obtain rfl := Option.some.inj ho
      try dsimp only at hd
      have d8 : a'.tmps.getD 26 undef = .bool true := hd 8 (by rfl)
      refine wpOp_of rfl rfl ?_
      refine op_run (v := .bool true) (w' := w') ?_ ⟨_, rfl, slots_put (ns := 44) (hsa.size.trans rfl) (by decide), Below.refl _ _⟩
      simp only [execOp, Act.eval, List.map_toArray, List.map_cons, List.map_nil, d8]; first | (go_simp; done) | rfl
    | 10, ho | 11, ho | 12, ho | 13, ho | 14, ho | 15, ho | 16, ho =>
      obtain rfl := Option.some.inj ho
      try dsimp only at hd
      have d9 : a'.tmps.getD 27 undef = .bool true := hd 9 (by rfl)
      exact wpOp_off (j := 9) (dj := 27) rfl rfl rfl d9 (by simp [undef]) ⟨undef, rfl, slots_put (ns := 44) (hsa.size.trans rfl) (by decide), Below.refl _ _⟩
    | 17, ho =>
      obtain rfl := Option.some.inj ho
      try dsimp only at hd
      have d9 : a'.tmps.getD 27 undef = .bool true := hd 9 (by rfl)
      have d16 : a'.tmps.getD 34 undef = undef := hd 16 (by rfl)
      refine wpOp_of rfl rfl ?_
      refine op_run (v := .bool true) (w' := w') ?_ ⟨_, rfl, slots_put (ns := 44) (hsa.size.trans rfl) (by decide), Below.refl _ _⟩
      simp only [execOp, Act.eval, List.map_toArray, List.map_cons, List.map_nil, d9, d16]; first | (go_simp; done) | rfl
    | (n + 18), ho => exact absurd ho (by simp)
  case pdone =>
    intro a' w' hsa hb hd
    have d17 : a'.tmps.getD 35 undef = .bool true := hd 17 (by decide)
    exact HQ.out _ _ ⟨hsa.size.trans rfl, hsa.defers.trans rfl, hsa.rest 0 (by rfl), hsa.rest 1 (by rfl), hsa.rest 4 (by rfl), hsa.rest 5 (by rfl), hsa.rest 7 (by rfl), hsa.rest 12 (by rfl), hsa.rest 13 (by rfl), hsa.rest 14 (by rfl)⟩ d17 hb
theorem ha_r5b {K : Act → World → Prop} {c : Code} (hc : regOf (Tryz.f46.body.getD .skip) 5 = some c) (a : Act) {v : Vha} {wq : World} {tb mb sn sc : Nat} {so : Option Addr} {nm : ByteArray} {lo fi : Int} {rb : Nat} {xo xs fr : Int} {xp xk xv : ByteArray} (hF : Fha a v) (h0v : v.v0 = .pointer (some ⟨tb, 0, none⟩)) (h7v : v.v7 = .pointer (some ⟨rb, 0, none⟩)) (h5v : v.v5 = .int .i64 fr) (hB : wq.heap[tb]? = some (.cells #[.string nm, .int .i64 lo, .int .i64 fi, .slice so sn sc, .map (some mb)] 52 (0, 0))) (hR : wq.heap[rb]? = some (.cells #[.int .i64 xo, .string xp, .int .i64 xs, .string xk, .string xv] 39 (0, 0))) (hC : ∀ W, Calls Tryz.prog 78 #[.agg #[.int .i64 xo, .string xp, .int .i64 xs, .string xk, .string xv]] W fun e w' => e = .returned (.bool true) ∧ Below W.heap.size W w') (g1 : xo < fr)
    (hQ : ∀ a' w', Fha a' v → a'.tmps.getD 35 undef = .bool true → Below wq.heap.size wq w' → K a' w') :
    Code.wp Tryz.prog c (Exit.then K fun _ _ _ => False) a wq := by
  have HQ := hide hQ
  clear hQ
  obtain ⟨v0, v1, v4, v5, v7, v12, v13, v14⟩ := v
  simp only at h0v h7v h5v HQ
  subst h0v h7v h5v
  obtain ⟨u, rfl⟩ := frx_ha hF
  clear hF
  simp only [Tryz.f46, Option.getD_some, regOf] at hc
  injection hc with hc
  subst hc
  have HC := hide hC
  clear hC
  refine wp_region_phi (by kernel_rfl) (ns := 44) (uses := (fun i => match i with | 0 => [18] | 1 => [19] | 2 => [20] | 3 => [21] | 4 => [22] | 5 => [23] | 6 => [24] | 7 => [25] | 8 => [26] | 9 => [27] | 10 => [28] | 11 => [29] | 12 => [30] | 13 => [31] | 14 => [32] | 15 => [33] | 16 => [34] | 17 => [35] | _ => [])) (by kernel_rfl) (by kernel_rfl) (fun _ w w' => Below w.heap.size w w') (fun w => Below wq.heap.size wq w) (fun _ _ _ h r => h.trans (r.mono h.size)) ((Below.refl _ _).drew) (fun i => match i with | 0 => fun s w => s 18 = .agg #[.int .i64 xo, .string xp, .int .i64 xs, .string xk, .string xv] | 1 => fun s w => s 19 = .bool true | 2 => fun s w => s 20 = .bool false | 3 => fun s w => s 21 = .bool false | 4 => fun s w => s 22 = .pointer (some ⟨rb, 0, none⟩) | 5 => fun s w => s 23 = .int .i64 xo | 6 => fun s w => s 24 = .int .i64 fr | 7 => fun s w => s 25 = .bool true | 8 => fun s w => s 26 = .bool true | 9 => fun s w => s 27 = .bool true | 10 => fun s w => s 28 = undef | 11 => fun s w => s 29 = undef | 12 => fun s w => s 30 = undef | 13 => fun s w => s 31 = undef | 14 => fun s w => s 32 = undef | 15 => fun s w => s 33 = undef | 16 => fun s w => s 34 = undef | 17 => fun s w => s 35 = .bool true | _ => fun _ _ => True) ?phc ?phh ?pstep ?pdone
  case phc =>
    intro i s s' w hx h
    match i, hx, h with
    | 0, hx, h =>
      have e18 := hx 18 (by simp)
      first | exact (show _ from by simp only [← e18] at *; exact h) | (simp only [e18] at h; exact h)
    | 1, hx, h =>
      have e19 := hx 19 (by simp)
      first | exact (show _ from by simp only [← e19] at *; exact h) | (simp only [e19] at h; exact h)
    | 2, hx, h =>
      have e20 := hx 20 (by simp)
      first | exact (show _ from by simp only [← e20] at *; exact h) | (simp only [e20] at h; exact h)
    | 3, hx, h =>
      have e21 := hx 21 (by simp)
      first | exact (show _ from by simp only [← e21] at *; exact h) | (simp only [e21] at h; exact h)
    | 4, hx, h =>
      have e22 := hx 22 (by simp)
      first | exact (show _ from by simp only [← e22] at *; exact h) | (simp only [e22] at h; exact h)
    | 5, hx, h =>
      have e23 := hx 23 (by simp)
      first | exact (show _ from by simp only [← e23] at *; exact h) | (simp only [e23] at h; exact h)
    | 6, hx, h =>
      have e24 := hx 24 (by simp)
      first | exact (show _ from by simp only [← e24] at *; exact h) | (simp only [e24] at h; exact h)
    | 7, hx, h =>
      have e25 := hx 25 (by simp)
      first | exact (show _ from by simp only [← e25] at *; exact h) | (simp only [e25] at h; exact h)
    | 8, hx, h =>
      have e26 := hx 26 (by simp)
      first | exact (show _ from by simp only [← e26] at *; exact h) | (simp only [e26] at h; exact h)
    | 9, hx, h =>
      have e27 := hx 27 (by simp)
      first | exact (show _ from by simp only [← e27] at *; exact h) | (simp only [e27] at h; exact h)
    | 10, hx, h =>
      have e28 := hx 28 (by simp)
      first | exact (show _ from by simp only [← e28] at *; exact h) | (simp only [e28] at h; exact h)
    | 11, hx, h =>
      have e29 := hx 29 (by simp)
      first | exact (show _ from by simp only [← e29] at *; exact h) | (simp only [e29] at h; exact h)
    | 12, hx, h =>
      have e30 := hx 30 (by simp)
      first | exact (show _ from by simp only [← e30] at *; exact h) | (simp only [e30] at h; exact h)
    | 13, hx, h =>
      have e31 := hx 31 (by simp)
      first | exact (show _ from by simp only [← e31] at *; exact h) | (simp only [e31] at h; exact h)
    | 14, hx, h =>
      have e32 := hx 32 (by simp)
      first | exact (show _ from by simp only [← e32] at *; exact h) | (simp only [e32] at h; exact h)
    | 15, hx, h =>
      have e33 := hx 33 (by simp)
      first | exact (show _ from by simp only [← e33] at *; exact h) | (simp only [e33] at h; exact h)
    | 16, hx, h =>
      have e34 := hx 34 (by simp)
      first | exact (show _ from by simp only [← e34] at *; exact h) | (simp only [e34] at h; exact h)
    | 17, hx, h =>
      have e35 := hx 35 (by simp)
      first | exact (show _ from by simp only [← e35] at *; exact h) | (simp only [e35] at h; exact h)
    | (n + 18), _, h => exact h
  case phh =>
    intro i j s w w' hij h hb r
    iterate 18 (rcases i with _ | i; · exact h)
    exact h
  case pstep =>
    intro i o ho a' w' hsa hb hd
    match i, ho with
    | 0, ho =>
      obtain rfl := Option.some.inj ho
      try dsimp only at hd
      have g7 : a'.tmps.getD 7 undef = .pointer (some ⟨rb, 0, none⟩) := hsa.rest 7 (by rfl)
      have y0 : w'.cell? ⟨rb, 0, none⟩ = some (.int .i64 xo) := (hb.cell (p := ⟨rb, 0, none⟩) (heap_lt hR)).trans (box_cell hR 0 rfl)
      have y1 : w'.cell? ⟨rb, 1, none⟩ = some (.string xp) := (hb.cell (p := ⟨rb, 1, none⟩) (heap_lt hR)).trans (box_cell hR 1 rfl)
      have y2 : w'.cell? ⟨rb, 2, none⟩ = some (.int .i64 xs) := (hb.cell (p := ⟨rb, 2, none⟩) (heap_lt hR)).trans (box_cell hR 2 rfl)
      have y3 : w'.cell? ⟨rb, 3, none⟩ = some (.string xk) := (hb.cell (p := ⟨rb, 3, none⟩) (heap_lt hR)).trans (box_cell hR 3 rfl)
      have y4 : w'.cell? ⟨rb, 4, none⟩ = some (.string xv) := (hb.cell (p := ⟨rb, 4, none⟩) (heap_lt hR)).trans (box_cell hR 4 rfl)
      refine wpOp_of rfl rfl ?_
      refine op_run (v := .agg #[.int .i64 xo, .string xp, .int .i64 xs, .string xk, .string xv]) (w' := w') ?_ ⟨_, rfl, slots_put (ns := 44) (hsa.size.trans rfl) (by decide), Below.refl _ _⟩
      simp only [execOp, Act.eval, List.map_toArray, List.map_cons, List.map_nil, g7, y0, y1, y2, y3, y4]; first | (go_simp; done) | rfl
    | 1, ho =>
      obtain rfl := Option.some.inj ho
      try dsimp only at hd
      have d0 : a'.tmps.getD 18 undef = .agg #[.int .i64 xo, .string xp, .int .i64 xs, .string xk, .string xv] := hd 0 (by rfl)
      refine wpOp_of rfl rfl ?_
      refine op_call 78 _ _ rfl (enters_of Tryz.func78 (by kernel_rfl) rfl) [.agg #[.int .i64 xo, .string xp, .int .i64 xs, .string xk, .string xv]] (by simp only [List.map, Act.eval, d0]) (HC.out w') ?_
      rintro e w'' ⟨rfl, b2⟩
      refine ⟨_, rfl, _, rfl, ?_, ?_⟩
      · try dsimp only
        exact (slots_put (ns := 44) (hsa.size.trans rfl) (by decide))
      · exact b2
    | 2, ho =>
      obtain rfl := Option.some.inj ho
      try dsimp only at hd
      have d1 : a'.tmps.getD 19 undef = .bool true := hd 1 (by rfl)
      refine wpOp_of rfl rfl ?_
      refine op_run (v := .bool false) (w' := w') ?_ ⟨_, rfl, slots_put (ns := 44) (hsa.size.trans rfl) (by decide), Below.refl _ _⟩
      simp only [execOp, Act.eval, List.map_toArray, List.map_cons, List.map_nil, d1]; first | (go_simp; done) | rfl
    | 3, ho =>
      obtain rfl := Option.some.inj ho
      try dsimp only at hd
      have d2 : a'.tmps.getD 20 undef = .bool false := hd 2 (by rfl)
      refine wpOp_of rfl rfl ?_
      refine op_run (v := .bool false) (w' := w') ?_ ⟨_, rfl, slots_put (ns := 44) (hsa.size.trans rfl) (by decide), Below.refl _ _⟩
      simp only [execOp, Act.eval, List.map_toArray, List.map_cons, List.map_nil, d2]; first | (go_simp; done) | rfl
    | 4, ho =>
      obtain rfl := Option.some.inj ho
      try dsimp only at hd
      have d3 : a'.tmps.getD 21 undef = .bool false := hd 3 (by rfl)
      have g7 : a'.tmps.getD 7 undef = .pointer (some ⟨rb, 0, none⟩) := hsa.rest 7 (by rfl)
      refine wpOp_on (j := 3) (dj := 21) rfl rfl rfl d3 ?_
      refine op_run (v := .pointer (some ⟨rb, 0, none⟩)) (w' := w') ?_ ⟨_, rfl, slots_put (ns := 44) (hsa.size.trans rfl) (by decide), Below.refl _ _⟩
      simp only [execOp, Act.eval, List.map_toArray, List.map_cons, List.map_nil, d3, g7]; first | (go_simp; done) | rfl
    | 5, ho =>
      obtain rfl := Option.some.inj ho
      try dsimp only at hd
      have d3 : a'.tmps.getD 21 undef = .bool false := hd 3 (by rfl)
      have d4 : a'.tmps.getD 22 undef = .pointer (some ⟨rb, 0, none⟩) := hd 4 (by rfl)
      have y0 : w'.cell? ⟨rb, 0, none⟩ = some (.int .i64 xo) := (hb.cell (p := ⟨rb, 0, none⟩) (heap_lt hR)).trans (box_cell hR 0 rfl)
      refine wpOp_on (j := 3) (dj := 21) rfl rfl rfl d3 ?_
      refine op_run (v := .int .i64 xo) (w' := w') ?_ ⟨_, rfl, slots_put (ns := 44) (hsa.size.trans rfl) (by decide), Below.refl _ _⟩
      simp only [execOp, Act.eval, List.map_toArray, List.map_cons, List.map_nil, d3, d4, y0]; first | (go_simp; done) | rfl
    | 6, ho =>
      obtain rfl := Option.some.inj ho
      try dsimp only at hd
      have d3 : a'.tmps.getD 21 undef = .bool false := hd 3 (by rfl)
      have g5 : a'.tmps.getD 5 undef = .int .i64 fr := hsa.rest 5 (by rfl)
      refine wpOp_on (j := 3) (dj := 21) rfl rfl rfl d3 ?_
      refine op_run (v := .int .i64 fr) (w' := w') ?_ ⟨_, rfl, slots_put (ns := 44) (hsa.size.trans rfl) (by decide), Below.refl _ _⟩
      simp only [execOp, Act.eval, List.map_toArray, List.map_cons, List.map_nil, d3, g5]; first | (go_simp; done) | rfl
    | 7, ho =>
      obtain rfl := Option.some.inj ho
      try dsimp only at hd
      have d3 : a'.tmps.getD 21 undef = .bool false := hd 3 (by rfl)
      have d5 : a'.tmps.getD 23 undef = .int .i64 xo := hd 5 (by rfl)
      have d6 : a'.tmps.getD 24 undef = .int .i64 fr := hd 6 (by rfl)
      refine wpOp_on (j := 3) (dj := 21) rfl rfl rfl d3 ?_
      refine op_run (v := .bool true) (w' := w') ?_ ⟨_, rfl, slots_put (ns := 44) (hsa.size.trans rfl) (by decide), Below.refl _ _⟩
      simp only [execOp, Act.eval, List.map_toArray, List.map_cons, List.map_nil, d3, d5, d6]; first | (go_simp; done) | rfl
    | 8, ho =>
      obtain rfl := Option.some.inj ho
      try dsimp only at hd
      have d3 : a'.tmps.getD 21 undef = .bool false := hd 3 (by rfl)
      have d7 : a'.tmps.getD 25 undef = .bool true := hd 7 (by rfl)
      refine wpOp_of rfl rfl ?_
      refine op_run (v := .bool true) (w' := w') ?_ ⟨_, rfl, slots_put (ns := 44) (hsa.size.trans rfl) (by decide), Below.refl _ _⟩
      simp only [execOp, Act.eval, List.map_toArray, List.map_cons, List.map_nil, d3, d7]; first | (go_simp; done) | rfl
    | 9, ho =>
      obtain rfl := Option.some.inj ho
      try dsimp only at hd
      have d8 : a'.tmps.getD 26 undef = .bool true := hd 8 (by rfl)
      refine wpOp_of rfl rfl ?_
      refine op_run (v := .bool true) (w' := w') ?_ ⟨_, rfl, slots_put (ns := 44) (hsa.size.trans rfl) (by decide), Below.refl _ _⟩
      simp only [execOp, Act.eval, List.map_toArray, List.map_cons, List.map_nil, d8]; first | (go_simp; done) | rfl
    | 10, ho | 11, ho | 12, ho | 13, ho | 14, ho | 15, ho | 16, ho =>
      obtain rfl := Option.some.inj ho
      try dsimp only at hd
      have d9 : a'.tmps.getD 27 undef = .bool true := hd 9 (by rfl)
      exact wpOp_off (j := 9) (dj := 27) rfl rfl rfl d9 (by simp [undef]) ⟨undef, rfl, slots_put (ns := 44) (hsa.size.trans rfl) (by decide), Below.refl _ _⟩
    | 17, ho =>
      obtain rfl := Option.some.inj ho
      try dsimp only at hd
      have d9 : a'.tmps.getD 27 undef = .bool true := hd 9 (by rfl)
      have d16 : a'.tmps.getD 34 undef = undef := hd 16 (by rfl)
      refine wpOp_of rfl rfl ?_
      refine op_run (v := .bool true) (w' := w') ?_ ⟨_, rfl, slots_put (ns := 44) (hsa.size.trans rfl) (by decide), Below.refl _ _⟩
      simp only [execOp, Act.eval, List.map_toArray, List.map_cons, List.map_nil, d9, d16]; first | (go_simp; done) | rfl
    | (n + 18), ho => exact absurd ho (by simp)
  case pdone =>
    intro a' w' hsa hb hd
    have d17 : a'.tmps.getD 35 undef = .bool true := hd 17 (by decide)
    exact HQ.out _ _ ⟨hsa.size.trans rfl, hsa.defers.trans rfl, hsa.rest 0 (by rfl), hsa.rest 1 (by rfl), hsa.rest 4 (by rfl), hsa.rest 5 (by rfl), hsa.rest 7 (by rfl), hsa.rest 12 (by rfl), hsa.rest 13 (by rfl), hsa.rest 14 (by rfl)⟩ d17 hb
theorem ha_r5c {K : Act → World → Prop} {c : Code} (hc : regOf (Tryz.f46.body.getD .skip) 5 = some c) (a : Act) {v : Vha} {wq : World} {tb mb sn sc : Nat} {so : Option Addr} {nm : ByteArray} {lo fi : Int} {rb : Nat} {xo xs fr : Int} {xp xk xv : ByteArray} (hF : Fha a v) (h0v : v.v0 = .pointer (some ⟨tb, 0, none⟩)) (h7v : v.v7 = .pointer (some ⟨rb, 0, none⟩)) (h5v : v.v5 = .int .i64 fr) (hB : wq.heap[tb]? = some (.cells #[.string nm, .int .i64 lo, .int .i64 fi, .slice so sn sc, .map (some mb)] 52 (0, 0))) (hR : wq.heap[rb]? = some (.cells #[.int .i64 xo, .string xp, .int .i64 xs, .string xk, .string xv] 39 (0, 0))) (hC : ∀ W, Calls Tryz.prog 78 #[.agg #[.int .i64 xo, .string xp, .int .i64 xs, .string xk, .string xv]] W fun e w' => e = .returned (.bool true) ∧ Below W.heap.size W w') (g1 : ¬ xo < fr) (g2 : xo ≥ fi)
    (hQ : ∀ a' w', Fha a' v → a'.tmps.getD 35 undef = .bool true → Below wq.heap.size wq w' → K a' w') :
    Code.wp Tryz.prog c (Exit.then K fun _ _ _ => False) a wq := by
  have HQ := hide hQ
  clear hQ
  obtain ⟨v0, v1, v4, v5, v7, v12, v13, v14⟩ := v
  simp only at h0v h7v h5v HQ
  subst h0v h7v h5v
  obtain ⟨u, rfl⟩ := frx_ha hF
  clear hF
  simp only [Tryz.f46, Option.getD_some, regOf] at hc
  injection hc with hc
  subst hc
  have HC := hide hC
  clear hC
  refine wp_region_phi (by kernel_rfl) (ns := 44) (uses := (fun i => match i with | 0 => [18] | 1 => [19] | 2 => [20] | 3 => [21] | 4 => [22] | 5 => [23] | 6 => [24] | 7 => [25] | 8 => [26] | 9 => [27] | 10 => [28] | 11 => [29] | 12 => [30] | 13 => [31] | 14 => [32] | 15 => [33] | 16 => [34] | 17 => [35] | _ => [])) (by kernel_rfl) (by kernel_rfl) (fun _ w w' => Below w.heap.size w w') (fun w => Below wq.heap.size wq w) (fun _ _ _ h r => h.trans (r.mono h.size)) ((Below.refl _ _).drew) (fun i => match i with | 0 => fun s w => s 18 = .agg #[.int .i64 xo, .string xp, .int .i64 xs, .string xk, .string xv] | 1 => fun s w => s 19 = .bool true | 2 => fun s w => s 20 = .bool false | 3 => fun s w => s 21 = .bool false | 4 => fun s w => s 22 = .pointer (some ⟨rb, 0, none⟩) | 5 => fun s w => s 23 = .int .i64 xo | 6 => fun s w => s 24 = .int .i64 fr | 7 => fun s w => s 25 = .bool false | 8 => fun s w => s 26 = .bool false | 9 => fun s w => s 27 = .bool false | 10 => fun s w => s 28 = .pointer (some ⟨rb, 0, none⟩) | 11 => fun s w => s 29 = .int .i64 xo | 12 => fun s w => s 30 = .pointer (some ⟨tb, 0, none⟩) | 13 => fun s w => s 31 = .pointer (some ⟨tb, 0, none⟩) | 14 => fun s w => s 32 = .pointer (some ⟨tb, 2, none⟩) | 15 => fun s w => s 33 = .int .i64 fi | 16 => fun s w => s 34 = .bool true | 17 => fun s w => s 35 = .bool true | _ => fun _ _ => True) ?phc ?phh ?pstep ?pdone
  case phc =>
    intro i s s' w hx h
    match i, hx, h with
    | 0, hx, h =>
      have e18 := hx 18 (by simp)
      first | exact (show _ from by simp only [← e18] at *; exact h) | (simp only [e18] at h; exact h)
    | 1, hx, h =>
      have e19 := hx 19 (by simp)
      first | exact (show _ from by simp only [← e19] at *; exact h) | (simp only [e19] at h; exact h)
    | 2, hx, h =>
      have e20 := hx 20 (by simp)
      first | exact (show _ from by simp only [← e20] at *; exact h) | (simp only [e20] at h; exact h)
    | 3, hx, h =>
      have e21 := hx 21 (by simp)
      first | exact (show _ from by simp only [← e21] at *; exact h) | (simp only [e21] at h; exact h)
    | 4, hx, h =>
      have e22 := hx 22 (by simp)
      first | exact (show _ from by simp only [← e22] at *; exact h) | (simp only [e22] at h; exact h)
    | 5, hx, h =>
      have e23 := hx 23 (by simp)
      first | exact (show _ from by simp only [← e23] at *; exact h) | (simp only [e23] at h; exact h)
    | 6, hx, h =>
      have e24 := hx 24 (by simp)
      first | exact (show _ from by simp only [← e24] at *; exact h) | (simp only [e24] at h; exact h)
    | 7, hx, h =>
      have e25 := hx 25 (by simp)
      first | exact (show _ from by simp only [← e25] at *; exact h) | (simp only [e25] at h; exact h)
    | 8, hx, h =>
      have e26 := hx 26 (by simp)
      first | exact (show _ from by simp only [← e26] at *; exact h) | (simp only [e26] at h; exact h)
    | 9, hx, h =>
      have e27 := hx 27 (by simp)
      first | exact (show _ from by simp only [← e27] at *; exact h) | (simp only [e27] at h; exact h)
    | 10, hx, h =>
      have e28 := hx 28 (by simp)
      first | exact (show _ from by simp only [← e28] at *; exact h) | (simp only [e28] at h; exact h)
    | 11, hx, h =>
      have e29 := hx 29 (by simp)
      first | exact (show _ from by simp only [← e29] at *; exact h) | (simp only [e29] at h; exact h)
    | 12, hx, h =>
      have e30 := hx 30 (by simp)
      first | exact (show _ from by simp only [← e30] at *; exact h) | (simp only [e30] at h; exact h)
    | 13, hx, h =>
      have e31 := hx 31 (by simp)
      first | exact (show _ from by simp only [← e31] at *; exact h) | (simp only [e31] at h; exact h)
    | 14, hx, h =>
      have e32 := hx 32 (by simp)
      first | exact (show _ from by simp only [← e32] at *; exact h) | (simp only [e32] at h; exact h)
    | 15, hx, h =>
      have e33 := hx 33 (by simp)
      first | exact (show _ from by simp only [← e33] at *; exact h) | (simp only [e33] at h; exact h)
    | 16, hx, h =>
      have e34 := hx 34 (by simp)
      first | exact (show _ from by simp only [← e34] at *; exact h) | (simp only [e34] at h; exact h)
    | 17, hx, h =>
      have e35 := hx 35 (by simp)
      first | exact (show _ from by simp only [← e35] at *; exact h) | (simp only [e35] at h; exact h)
    | (n + 18), _, h => exact h
  case phh =>
    intro i j s w w' hij h hb r
    iterate 18 (rcases i with _ | i; · exact h)
    exact h
  case pstep =>
    intro i o ho a' w' hsa hb hd
    match i, ho with
    | 0, ho =>
      obtain rfl := Option.some.inj ho
      try dsimp only at hd
      have g7 : a'.tmps.getD 7 undef = .pointer (some ⟨rb, 0, none⟩) := hsa.rest 7 (by rfl)
      have y0 : w'.cell? ⟨rb, 0, none⟩ = some (.int .i64 xo) := (hb.cell (p := ⟨rb, 0, none⟩) (heap_lt hR)).trans (box_cell hR 0 rfl)
      have y1 : w'.cell? ⟨rb, 1, none⟩ = some (.string xp) := (hb.cell (p := ⟨rb, 1, none⟩) (heap_lt hR)).trans (box_cell hR 1 rfl)
      have y2 : w'.cell? ⟨rb, 2, none⟩ = some (.int .i64 xs) := (hb.cell (p := ⟨rb, 2, none⟩) (heap_lt hR)).trans (box_cell hR 2 rfl)
      have y3 : w'.cell? ⟨rb, 3, none⟩ = some (.string xk) := (hb.cell (p := ⟨rb, 3, none⟩) (heap_lt hR)).trans (box_cell hR 3 rfl)
      have y4 : w'.cell? ⟨rb, 4, none⟩ = some (.string xv) := (hb.cell (p := ⟨rb, 4, none⟩) (heap_lt hR)).trans (box_cell hR 4 rfl)
      refine wpOp_of rfl rfl ?_
      refine op_run (v := .agg #[.int .i64 xo, .string xp, .int .i64 xs, .string xk, .string xv]) (w' := w') ?_ ⟨_, rfl, slots_put (ns := 44) (hsa.size.trans rfl) (by decide), Below.refl _ _⟩
      simp only [execOp, Act.eval, List.map_toArray, List.map_cons, List.map_nil, g7, y0, y1, y2, y3, y4]; first | (go_simp; done) | rfl
    | 1, ho =>
      obtain rfl := Option.some.inj ho
      try dsimp only at hd
      have d0 : a'.tmps.getD 18 undef = .agg #[.int .i64 xo, .string xp, .int .i64 xs, .string xk, .string xv] := hd 0 (by rfl)
      refine wpOp_of rfl rfl ?_
      refine op_call 78 _ _ rfl (enters_of Tryz.func78 (by kernel_rfl) rfl) [.agg #[.int .i64 xo, .string xp, .int .i64 xs, .string xk, .string xv]] (by simp only [List.map, Act.eval, d0]) (HC.out w') ?_
      rintro e w'' ⟨rfl, b2⟩
      refine ⟨_, rfl, _, rfl, ?_, ?_⟩
      · try dsimp only
        exact (slots_put (ns := 44) (hsa.size.trans rfl) (by decide))
      · exact b2
    | 2, ho =>
      obtain rfl := Option.some.inj ho
      try dsimp only at hd
      have d1 : a'.tmps.getD 19 undef = .bool true := hd 1 (by rfl)
      refine wpOp_of rfl rfl ?_
      refine op_run (v := .bool false) (w' := w') ?_ ⟨_, rfl, slots_put (ns := 44) (hsa.size.trans rfl) (by decide), Below.refl _ _⟩
      simp only [execOp, Act.eval, List.map_toArray, List.map_cons, List.map_nil, d1]; first | (go_simp; done) | rfl
    | 3, ho =>
      obtain rfl := Option.some.inj ho
      try dsimp only at hd
      have d2 : a'.tmps.getD 20 undef = .bool false := hd 2 (by rfl)
      refine wpOp_of rfl rfl ?_
      refine op_run (v := .bool false) (w' := w') ?_ ⟨_, rfl, slots_put (ns := 44) (hsa.size.trans rfl) (by decide), Below.refl _ _⟩
      simp only [execOp, Act.eval, List.map_toArray, List.map_cons, List.map_nil, d2]; first | (go_simp; done) | rfl
    | 4, ho =>
      obtain rfl := Option.some.inj ho
      try dsimp only at hd
      have d3 : a'.tmps.getD 21 undef = .bool false := hd 3 (by rfl)
      have g7 : a'.tmps.getD 7 undef = .pointer (some ⟨rb, 0, none⟩) := hsa.rest 7 (by rfl)
      refine wpOp_on (j := 3) (dj := 21) rfl rfl rfl d3 ?_
      refine op_run (v := .pointer (some ⟨rb, 0, none⟩)) (w' := w') ?_ ⟨_, rfl, slots_put (ns := 44) (hsa.size.trans rfl) (by decide), Below.refl _ _⟩
      simp only [execOp, Act.eval, List.map_toArray, List.map_cons, List.map_nil, d3, g7]; first | (go_simp; done) | rfl
    | 5, ho =>
      obtain rfl := Option.some.inj ho
      try dsimp only at hd
      have d3 : a'.tmps.getD 21 undef = .bool false := hd 3 (by rfl)
      have d4 : a'.tmps.getD 22 undef = .pointer (some ⟨rb, 0, none⟩) := hd 4 (by rfl)
      have y0 : w'.cell? ⟨rb, 0, none⟩ = some (.int .i64 xo) := (hb.cell (p := ⟨rb, 0, none⟩) (heap_lt hR)).trans (box_cell hR 0 rfl)
      refine wpOp_on (j := 3) (dj := 21) rfl rfl rfl d3 ?_
      refine op_run (v := .int .i64 xo) (w' := w') ?_ ⟨_, rfl, slots_put (ns := 44) (hsa.size.trans rfl) (by decide), Below.refl _ _⟩
      simp only [execOp, Act.eval, List.map_toArray, List.map_cons, List.map_nil, d3, d4, y0]; first | (go_simp; done) | rfl
    | 6, ho =>
      obtain rfl := Option.some.inj ho
      try dsimp only at hd
      have d3 : a'.tmps.getD 21 undef = .bool false := hd 3 (by rfl)
      have g5 : a'.tmps.getD 5 undef = .int .i64 fr := hsa.rest 5 (by rfl)
      refine wpOp_on (j := 3) (dj := 21) rfl rfl rfl d3 ?_
      refine op_run (v := .int .i64 fr) (w' := w') ?_ ⟨_, rfl, slots_put (ns := 44) (hsa.size.trans rfl) (by decide), Below.refl _ _⟩
      simp only [execOp, Act.eval, List.map_toArray, List.map_cons, List.map_nil, d3, g5]; first | (go_simp; done) | rfl
    | 7, ho =>
      obtain rfl := Option.some.inj ho
      try dsimp only at hd
      have d3 : a'.tmps.getD 21 undef = .bool false := hd 3 (by rfl)
      have d5 : a'.tmps.getD 23 undef = .int .i64 xo := hd 5 (by rfl)
      have d6 : a'.tmps.getD 24 undef = .int .i64 fr := hd 6 (by rfl)
      refine wpOp_on (j := 3) (dj := 21) rfl rfl rfl d3 ?_
      refine op_run (v := .bool false) (w' := w') ?_ ⟨_, rfl, slots_put (ns := 44) (hsa.size.trans rfl) (by decide), Below.refl _ _⟩
      simp only [execOp, Act.eval, List.map_toArray, List.map_cons, List.map_nil, d3, d5, d6]; first | (go_simp; done) | rfl
    | 8, ho =>
      obtain rfl := Option.some.inj ho
      try dsimp only at hd
      have d3 : a'.tmps.getD 21 undef = .bool false := hd 3 (by rfl)
      have d7 : a'.tmps.getD 25 undef = .bool false := hd 7 (by rfl)
      refine wpOp_of rfl rfl ?_
      refine op_run (v := .bool false) (w' := w') ?_ ⟨_, rfl, slots_put (ns := 44) (hsa.size.trans rfl) (by decide), Below.refl _ _⟩
      simp only [execOp, Act.eval, List.map_toArray, List.map_cons, List.map_nil, d3, d7]; first | (go_simp; done) | rfl
    | 9, ho =>
      obtain rfl := Option.some.inj ho
      try dsimp only at hd
      have d8 : a'.tmps.getD 26 undef = .bool false := hd 8 (by rfl)
      refine wpOp_of rfl rfl ?_
      refine op_run (v := .bool false) (w' := w') ?_ ⟨_, rfl, slots_put (ns := 44) (hsa.size.trans rfl) (by decide), Below.refl _ _⟩
      simp only [execOp, Act.eval, List.map_toArray, List.map_cons, List.map_nil, d8]; first | (go_simp; done) | rfl
    | 10, ho =>
      obtain rfl := Option.some.inj ho
      try dsimp only at hd
      have d9 : a'.tmps.getD 27 undef = .bool false := hd 9 (by rfl)
      have g7 : a'.tmps.getD 7 undef = .pointer (some ⟨rb, 0, none⟩) := hsa.rest 7 (by rfl)
      refine wpOp_on (j := 9) (dj := 27) rfl rfl rfl d9 ?_
      refine op_run (v := .pointer (some ⟨rb, 0, none⟩)) (w' := w') ?_ ⟨_, rfl, slots_put (ns := 44) (hsa.size.trans rfl) (by decide), Below.refl _ _⟩
      simp only [execOp, Act.eval, List.map_toArray, List.map_cons, List.map_nil, d9, g7]; first | (go_simp; done) | rfl
    | 11, ho =>
      obtain rfl := Option.some.inj ho
      try dsimp only at hd
      have d9 : a'.tmps.getD 27 undef = .bool false := hd 9 (by rfl)
      have d10 : a'.tmps.getD 28 undef = .pointer (some ⟨rb, 0, none⟩) := hd 10 (by rfl)
      have y0 : w'.cell? ⟨rb, 0, none⟩ = some (.int .i64 xo) := (hb.cell (p := ⟨rb, 0, none⟩) (heap_lt hR)).trans (box_cell hR 0 rfl)
      refine wpOp_on (j := 9) (dj := 27) rfl rfl rfl d9 ?_
      refine op_run (v := .int .i64 xo) (w' := w') ?_ ⟨_, rfl, slots_put (ns := 44) (hsa.size.trans rfl) (by decide), Below.refl _ _⟩
      simp only [execOp, Act.eval, List.map_toArray, List.map_cons, List.map_nil, d9, d10, y0]; first | (go_simp; done) | rfl
    | 12, ho =>
      obtain rfl := Option.some.inj ho
      try dsimp only at hd
      have d9 : a'.tmps.getD 27 undef = .bool false := hd 9 (by rfl)
      have g0 : a'.tmps.getD 0 undef = .pointer (some ⟨tb, 0, none⟩) := hsa.rest 0 (by rfl)
      refine wpOp_on (j := 9) (dj := 27) rfl rfl rfl d9 ?_
      refine op_run (v := .pointer (some ⟨tb, 0, none⟩)) (w' := w') ?_ ⟨_, rfl, slots_put (ns := 44) (hsa.size.trans rfl) (by decide), Below.refl _ _⟩
      simp only [execOp, Act.eval, List.map_toArray, List.map_cons, List.map_nil, d9, g0]; first | (go_simp; done) | rfl
    | 13, ho =>
      obtain rfl := Option.some.inj ho
      try dsimp only at hd
      have d9 : a'.tmps.getD 27 undef = .bool false := hd 9 (by rfl)
      have d12 : a'.tmps.getD 30 undef = .pointer (some ⟨tb, 0, none⟩) := hd 12 (by rfl)
      refine wpOp_on (j := 9) (dj := 27) rfl rfl rfl d9 ?_
      refine op_run (v := .pointer (some ⟨tb, 0, none⟩)) (w' := w') ?_ ⟨_, rfl, slots_put (ns := 44) (hsa.size.trans rfl) (by decide), Below.refl _ _⟩
      simp only [execOp, Act.eval, List.map_toArray, List.map_cons, List.map_nil, d9, d12]; first | (go_simp; done) | rfl
    | 14, ho =>
      obtain rfl := Option.some.inj ho
      try dsimp only at hd
      have d9 : a'.tmps.getD 27 undef = .bool false := hd 9 (by rfl)
      have d13 : a'.tmps.getD 31 undef = .pointer (some ⟨tb, 0, none⟩) := hd 13 (by rfl)
      refine wpOp_on (j := 9) (dj := 27) rfl rfl rfl d9 ?_
      refine op_run (v := .pointer (some ⟨tb, 2, none⟩)) (w' := w') ?_ ⟨_, rfl, slots_put (ns := 44) (hsa.size.trans rfl) (by decide), Below.refl _ _⟩
      simp only [execOp, Act.eval, List.map_toArray, List.map_cons, List.map_nil, d9, d13]; first | (go_simp; done) | rfl
    | 15, ho =>
      obtain rfl := Option.some.inj ho
      try dsimp only at hd
      have d9 : a'.tmps.getD 27 undef = .bool false := hd 9 (by rfl)
      have d14 : a'.tmps.getD 32 undef = .pointer (some ⟨tb, 2, none⟩) := hd 14 (by rfl)
      have y : w'.cell? ⟨tb, 2, none⟩ = some (.int .i64 fi) := (hb.cell (p := ⟨tb, 2, none⟩) (heap_lt hB)).trans (box_cell hB 2 rfl)
      refine wpOp_on (j := 9) (dj := 27) rfl rfl rfl d9 ?_
      refine op_run (v := .int .i64 fi) (w' := w') ?_ ⟨_, rfl, slots_put (ns := 44) (hsa.size.trans rfl) (by decide), Below.refl _ _⟩
      simp only [execOp, Act.eval, List.map_toArray, List.map_cons, List.map_nil, d9, d14, y]; first | (go_simp; done) | rfl
    | 16, ho =>
      obtain rfl := Option.some.inj ho
      try dsimp only at hd
      have d9 : a'.tmps.getD 27 undef = .bool false := hd 9 (by rfl)
      have d11 : a'.tmps.getD 29 undef = .int .i64 xo := hd 11 (by rfl)
      have d15 : a'.tmps.getD 33 undef = .int .i64 fi := hd 15 (by rfl)
      refine wpOp_on (j := 9) (dj := 27) rfl rfl rfl d9 ?_
      refine op_run (v := .bool true) (w' := w') ?_ ⟨_, rfl, slots_put (ns := 44) (hsa.size.trans rfl) (by decide), Below.refl _ _⟩
      simp only [execOp, Act.eval, List.map_toArray, List.map_cons, List.map_nil, d9, d11, d15]; first | (go_simp; done) | rfl
    | 17, ho =>
      obtain rfl := Option.some.inj ho
      try dsimp only at hd
      have d9 : a'.tmps.getD 27 undef = .bool false := hd 9 (by rfl)
      have d16 : a'.tmps.getD 34 undef = .bool true := hd 16 (by rfl)
      refine wpOp_of rfl rfl ?_
      refine op_run (v := .bool true) (w' := w') ?_ ⟨_, rfl, slots_put (ns := 44) (hsa.size.trans rfl) (by decide), Below.refl _ _⟩
      simp only [execOp, Act.eval, List.map_toArray, List.map_cons, List.map_nil, d9, d16]; first | (go_simp; done) | rfl
    | (n + 18), ho => exact absurd ho (by simp)
  case pdone =>
    intro a' w' hsa hb hd
    have d17 : a'.tmps.getD 35 undef = .bool true := hd 17 (by decide)
    exact HQ.out _ _ ⟨hsa.size.trans rfl, hsa.defers.trans rfl, hsa.rest 0 (by rfl), hsa.rest 1 (by rfl), hsa.rest 4 (by rfl), hsa.rest 5 (by rfl), hsa.rest 7 (by rfl), hsa.rest 12 (by rfl), hsa.rest 13 (by rfl), hsa.rest 14 (by rfl)⟩ d17 hb
theorem ha_r5d {K : Act → World → Prop} {c : Code} (hc : regOf (Tryz.f46.body.getD .skip) 5 = some c) (a : Act) {v : Vha} {wq : World} {tb mb sn sc : Nat} {so : Option Addr} {nm : ByteArray} {lo fi : Int} {rb : Nat} {xo xs fr : Int} {xp xk xv : ByteArray} (hF : Fha a v) (h0v : v.v0 = .pointer (some ⟨tb, 0, none⟩)) (h7v : v.v7 = .pointer (some ⟨rb, 0, none⟩)) (h5v : v.v5 = .int .i64 fr) (hB : wq.heap[tb]? = some (.cells #[.string nm, .int .i64 lo, .int .i64 fi, .slice so sn sc, .map (some mb)] 52 (0, 0))) (hR : wq.heap[rb]? = some (.cells #[.int .i64 xo, .string xp, .int .i64 xs, .string xk, .string xv] 39 (0, 0))) (hC : ∀ W, Calls Tryz.prog 78 #[.agg #[.int .i64 xo, .string xp, .int .i64 xs, .string xk, .string xv]] W fun e w' => e = .returned (.bool true) ∧ Below W.heap.size W w') (g1 : ¬ xo < fr) (g2 : ¬ xo ≥ fi)
    (hQ : ∀ a' w', Fha a' v → a'.tmps.getD 35 undef = .bool false → Below wq.heap.size wq w' → K a' w') :
    Code.wp Tryz.prog c (Exit.then K fun _ _ _ => False) a wq := by
  have HQ := hide hQ
  clear hQ
  obtain ⟨v0, v1, v4, v5, v7, v12, v13, v14⟩ := v
  simp only at h0v h7v h5v HQ
  subst h0v h7v h5v
  obtain ⟨u, rfl⟩ := frx_ha hF
  clear hF
  simp only [Tryz.f46, Option.getD_some, regOf] at hc
  injection hc with hc
  subst hc
  have HC := hide hC
  clear hC
  refine wp_region_phi (by kernel_rfl) (ns := 44) (uses := (fun i => match i with | 0 => [18] | 1 => [19] | 2 => [20] | 3 => [21] | 4 => [22] | 5 => [23] | 6 => [24] | 7 => [25] | 8 => [26] | 9 => [27] | 10 => [28] | 11 => [29] | 12 => [30] | 13 => [31] | 14 => [32] | 15 => [33] | 16 => [34] | 17 => [35] | _ => [])) (by kernel_rfl) (by kernel_rfl) (fun _ w w' => Below w.heap.size w w') (fun w => Below wq.heap.size wq w) (fun _ _ _ h r => h.trans (r.mono h.size)) ((Below.refl _ _).drew) (fun i => match i with | 0 => fun s w => s 18 = .agg #[.int .i64 xo, .string xp, .int .i64 xs, .string xk, .string xv] | 1 => fun s w => s 19 = .bool true | 2 => fun s w => s 20 = .bool false | 3 => fun s w => s 21 = .bool false | 4 => fun s w => s 22 = .pointer (some ⟨rb, 0, none⟩) | 5 => fun s w => s 23 = .int .i64 xo | 6 => fun s w => s 24 = .int .i64 fr | 7 => fun s w => s 25 = .bool false | 8 => fun s w => s 26 = .bool false | 9 => fun s w => s 27 = .bool false | 10 => fun s w => s 28 = .pointer (some ⟨rb, 0, none⟩) | 11 => fun s w => s 29 = .int .i64 xo | 12 => fun s w => s 30 = .pointer (some ⟨tb, 0, none⟩) | 13 => fun s w => s 31 = .pointer (some ⟨tb, 0, none⟩) | 14 => fun s w => s 32 = .pointer (some ⟨tb, 2, none⟩) | 15 => fun s w => s 33 = .int .i64 fi | 16 => fun s w => s 34 = .bool false | 17 => fun s w => s 35 = .bool false | _ => fun _ _ => True) ?phc ?phh ?pstep ?pdone
  case phc =>
    intro i s s' w hx h
    match i, hx, h with
    | 0, hx, h =>
      have e18 := hx 18 (by simp)
      first | exact (show _ from by simp only [← e18] at *; exact h) | (simp only [e18] at h; exact h)
    | 1, hx, h =>
      have e19 := hx 19 (by simp)
      first | exact (show _ from by simp only [← e19] at *; exact h) | (simp only [e19] at h; exact h)
    | 2, hx, h =>
      have e20 := hx 20 (by simp)
      first | exact (show _ from by simp only [← e20] at *; exact h) | (simp only [e20] at h; exact h)
    | 3, hx, h =>
      have e21 := hx 21 (by simp)
      first | exact (show _ from by simp only [← e21] at *; exact h) | (simp only [e21] at h; exact h)
    | 4, hx, h =>
      have e22 := hx 22 (by simp)
      first | exact (show _ from by simp only [← e22] at *; exact h) | (simp only [e22] at h; exact h)
    | 5, hx, h =>
      have e23 := hx 23 (by simp)
      first | exact (show _ from by simp only [← e23] at *; exact h) | (simp only [e23] at h; exact h)
    | 6, hx, h =>
      have e24 := hx 24 (by simp)
      first | exact (show _ from by simp only [← e24] at *; exact h) | (simp only [e24] at h; exact h)
    | 7, hx, h =>
      have e25 := hx 25 (by simp)
      first | exact (show _ from by simp only [← e25] at *; exact h) | (simp only [e25] at h; exact h)
    | 8, hx, h =>
      have e26 := hx 26 (by simp)
      first | exact (show _ from by simp only [← e26] at *; exact h) | (simp only [e26] at h; exact h)
    | 9, hx, h =>
      have e27 := hx 27 (by simp)
      first | exact (show _ from by simp only [← e27] at *; exact h) | (simp only [e27] at h; exact h)
    | 10, hx, h =>
      have e28 := hx 28 (by simp)
      first | exact (show _ from by simp only [← e28] at *; exact h) | (simp only [e28] at h; exact h)
    | 11, hx, h =>
      have e29 := hx 29 (by simp)
      first | exact (show _ from by simp only [← e29] at *; exact h) | (simp only [e29] at h; exact h)
    | 12, hx, h =>
      have e30 := hx 30 (by simp)
      first | exact (show _ from by simp only [← e30] at *; exact h) | (simp only [e30] at h; exact h)
    | 13, hx, h =>
      have e31 := hx 31 (by simp)
      first | exact (show _ from by simp only [← e31] at *; exact h) | (simp only [e31] at h; exact h)
    | 14, hx, h =>
      have e32 := hx 32 (by simp)
      first | exact (show _ from by simp only [← e32] at *; exact h) | (simp only [e32] at h; exact h)
    | 15, hx, h =>
      have e33 := hx 33 (by simp)
      first | exact (show _ from by simp only [← e33] at *; exact h) | (simp only [e33] at h; exact h)
    | 16, hx, h =>
      have e34 := hx 34 (by simp)
      first | exact (show _ from by simp only [← e34] at *; exact h) | (simp only [e34] at h; exact h)
    | 17, hx, h =>
      have e35 := hx 35 (by simp)
      first | exact (show _ from by simp only [← e35] at *; exact h) | (simp only [e35] at h; exact h)
    | (n + 18), _, h => exact h
  case phh =>
    intro i j s w w' hij h hb r
    iterate 18 (rcases i with _ | i; · exact h)
    exact h
  case pstep =>
    intro i o ho a' w' hsa hb hd
    match i, ho with
    | 0, ho =>
      obtain rfl := Option.some.inj ho
      try dsimp only at hd
      have g7 : a'.tmps.getD 7 undef = .pointer (some ⟨rb, 0, none⟩) := hsa.rest 7 (by rfl)
      have y0 : w'.cell? ⟨rb, 0, none⟩ = some (.int .i64 xo) := (hb.cell (p := ⟨rb, 0, none⟩) (heap_lt hR)).trans (box_cell hR 0 rfl)
      have y1 : w'.cell? ⟨rb, 1, none⟩ = some (.string xp) := (hb.cell (p := ⟨rb, 1, none⟩) (heap_lt hR)).trans (box_cell hR 1 rfl)
      have y2 : w'.cell? ⟨rb, 2, none⟩ = some (.int .i64 xs) := (hb.cell (p := ⟨rb, 2, none⟩) (heap_lt hR)).trans (box_cell hR 2 rfl)
      have y3 : w'.cell? ⟨rb, 3, none⟩ = some (.string xk) := (hb.cell (p := ⟨rb, 3, none⟩) (heap_lt hR)).trans (box_cell hR 3 rfl)
      have y4 : w'.cell? ⟨rb, 4, none⟩ = some (.string xv) := (hb.cell (p := ⟨rb, 4, none⟩) (heap_lt hR)).trans (box_cell hR 4 rfl)
      refine wpOp_of rfl rfl ?_
      refine op_run (v := .agg #[.int .i64 xo, .string xp, .int .i64 xs, .string xk, .string xv]) (w' := w') ?_ ⟨_, rfl, slots_put (ns := 44) (hsa.size.trans rfl) (by decide), Below.refl _ _⟩
      simp only [execOp, Act.eval, List.map_toArray, List.map_cons, List.map_nil, g7, y0, y1, y2, y3, y4]; first | (go_simp; done) | rfl
    | 1, ho =>
      obtain rfl := Option.some.inj ho
      try dsimp only at hd
      have d0 : a'.tmps.getD 18 undef = .agg #[.int .i64 xo, .string xp, .int .i64 xs, .string xk, .string xv] := hd 0 (by rfl)
      refine wpOp_of rfl rfl ?_
      refine op_call 78 _ _ rfl (enters_of Tryz.func78 (by kernel_rfl) rfl) [.agg #[.int .i64 xo, .string xp, .int .i64 xs, .string xk, .string xv]] (by simp only [List.map, Act.eval, d0]) (HC.out w') ?_
      rintro e w'' ⟨rfl, b2⟩
      refine ⟨_, rfl, _, rfl, ?_, ?_⟩
      · try dsimp only
        exact (slots_put (ns := 44) (hsa.size.trans rfl) (by decide))
      · exact b2
    | 2, ho =>
      obtain rfl := Option.some.inj ho
      try dsimp only at hd
      have d1 : a'.tmps.getD 19 undef = .bool true := hd 1 (by rfl)
      refine wpOp_of rfl rfl ?_
      refine op_run (v := .bool false) (w' := w') ?_ ⟨_, rfl, slots_put (ns := 44) (hsa.size.trans rfl) (by decide), Below.refl _ _⟩
      simp only [execOp, Act.eval, List.map_toArray, List.map_cons, List.map_nil, d1]; first | (go_simp; done) | rfl
    | 3, ho =>
      obtain rfl := Option.some.inj ho
      try dsimp only at hd
      have d2 : a'.tmps.getD 20 undef = .bool false := hd 2 (by rfl)
      refine wpOp_of rfl rfl ?_
      refine op_run (v := .bool false) (w' := w') ?_ ⟨_, rfl, slots_put (ns := 44) (hsa.size.trans rfl) (by decide), Below.refl _ _⟩
      simp only [execOp, Act.eval, List.map_toArray, List.map_cons, List.map_nil, d2]; first | (go_simp; done) | rfl
    | 4, ho =>
      obtain rfl := Option.some.inj ho
      try dsimp only at hd
      have d3 : a'.tmps.getD 21 undef = .bool false := hd 3 (by rfl)
      have g7 : a'.tmps.getD 7 undef = .pointer (some ⟨rb, 0, none⟩) := hsa.rest 7 (by rfl)
      refine wpOp_on (j := 3) (dj := 21) rfl rfl rfl d3 ?_
      refine op_run (v := .pointer (some ⟨rb, 0, none⟩)) (w' := w') ?_ ⟨_, rfl, slots_put (ns := 44) (hsa.size.trans rfl) (by decide), Below.refl _ _⟩
      simp only [execOp, Act.eval, List.map_toArray, List.map_cons, List.map_nil, d3, g7]; first | (go_simp; done) | rfl
    | 5, ho =>
      obtain rfl := Option.some.inj ho
      try dsimp only at hd
      have d3 : a'.tmps.getD 21 undef = .bool false := hd 3 (by rfl)
      have d4 : a'.tmps.getD 22 undef = .pointer (some ⟨rb, 0, none⟩) := hd 4 (by rfl)
      have y0 : w'.cell? ⟨rb, 0, none⟩ = some (.int .i64 xo) := (hb.cell (p := ⟨rb, 0, none⟩) (heap_lt hR)).trans (box_cell hR 0 rfl)
      refine wpOp_on (j := 3) (dj := 21) rfl rfl rfl d3 ?_
      refine op_run (v := .int .i64 xo) (w' := w') ?_ ⟨_, rfl, slots_put (ns := 44) (hsa.size.trans rfl) (by decide), Below.refl _ _⟩
      simp only [execOp, Act.eval, List.map_toArray, List.map_cons, List.map_nil, d3, d4, y0]; first | (go_simp; done) | rfl
    | 6, ho =>
      obtain rfl := Option.some.inj ho
      try dsimp only at hd
      have d3 : a'.tmps.getD 21 undef = .bool false := hd 3 (by rfl)
      have g5 : a'.tmps.getD 5 undef = .int .i64 fr := hsa.rest 5 (by rfl)
      refine wpOp_on (j := 3) (dj := 21) rfl rfl rfl d3 ?_
      refine op_run (v := .int .i64 fr) (w' := w') ?_ ⟨_, rfl, slots_put (ns := 44) (hsa.size.trans rfl) (by decide), Below.refl _ _⟩
      simp only [execOp, Act.eval, List.map_toArray, List.map_cons, List.map_nil, d3, g5]; first | (go_simp; done) | rfl
    | 7, ho =>
      obtain rfl := Option.some.inj ho
      try dsimp only at hd
      have d3 : a'.tmps.getD 21 undef = .bool false := hd 3 (by rfl)
      have d5 : a'.tmps.getD 23 undef = .int .i64 xo := hd 5 (by rfl)
      have d6 : a'.tmps.getD 24 undef = .int .i64 fr := hd 6 (by rfl)
      refine wpOp_on (j := 3) (dj := 21) rfl rfl rfl d3 ?_
      refine op_run (v := .bool false) (w' := w') ?_ ⟨_, rfl, slots_put (ns := 44) (hsa.size.trans rfl) (by decide), Below.refl _ _⟩
      simp only [execOp, Act.eval, List.map_toArray, List.map_cons, List.map_nil, d3, d5, d6]; first | (go_simp; done) | rfl
    | 8, ho =>
      obtain rfl := Option.some.inj ho
      try dsimp only at hd
      have d3 : a'.tmps.getD 21 undef = .bool false := hd 3 (by rfl)
      have d7 : a'.tmps.getD 25 undef = .bool false := hd 7 (by rfl)
      refine wpOp_of rfl rfl ?_
      refine op_run (v := .bool false) (w' := w') ?_ ⟨_, rfl, slots_put (ns := 44) (hsa.size.trans rfl) (by decide), Below.refl _ _⟩
      simp only [execOp, Act.eval, List.map_toArray, List.map_cons, List.map_nil, d3, d7]; first | (go_simp; done) | rfl
    | 9, ho =>
      obtain rfl := Option.some.inj ho
      try dsimp only at hd
      have d8 : a'.tmps.getD 26 undef = .bool false := hd 8 (by rfl)
      refine wpOp_of rfl rfl ?_
      refine op_run (v := .bool false) (w' := w') ?_ ⟨_, rfl, slots_put (ns := 44) (hsa.size.trans rfl) (by decide), Below.refl _ _⟩
      simp only [execOp, Act.eval, List.map_toArray, List.map_cons, List.map_nil, d8]; first | (go_simp; done) | rfl
    | 10, ho =>
      obtain rfl := Option.some.inj ho
      try dsimp only at hd
      have d9 : a'.tmps.getD 27 undef = .bool false := hd 9 (by rfl)
      have g7 : a'.tmps.getD 7 undef = .pointer (some ⟨rb, 0, none⟩) := hsa.rest 7 (by rfl)
      refine wpOp_on (j := 9) (dj := 27) rfl rfl rfl d9 ?_
      refine op_run (v := .pointer (some ⟨rb, 0, none⟩)) (w' := w') ?_ ⟨_, rfl, slots_put (ns := 44) (hsa.size.trans rfl) (by decide), Below.refl _ _⟩
      simp only [execOp, Act.eval, List.map_toArray, List.map_cons, List.map_nil, d9, g7]; first | (go_simp; done) | rfl
    | 11, ho =>
      obtain rfl := Option.some.inj ho
      try dsimp only at hd
      have d9 : a'.tmps.getD 27 undef = .bool false := hd 9 (by rfl)
      have d10 : a'.tmps.getD 28 undef = .pointer (some ⟨rb, 0, none⟩) := hd 10 (by rfl)
      have y0 : w'.cell? ⟨rb, 0, none⟩ = some (.int .i64 xo) := (hb.cell (p := ⟨rb, 0, none⟩) (heap_lt hR)).trans (box_cell hR 0 rfl)
      refine wpOp_on (j := 9) (dj := 27) rfl rfl rfl d9 ?_
      refine op_run (v := .int .i64 xo) (w' := w') ?_ ⟨_, rfl, slots_put (ns := 44) (hsa.size.trans rfl) (by decide), Below.refl _ _⟩
      simp only [execOp, Act.eval, List.map_toArray, List.map_cons, List.map_nil, d9, d10, y0]; first | (go_simp; done) | rfl
    | 12, ho =>
      obtain rfl := Option.some.inj ho
      try dsimp only at hd
      have d9 : a'.tmps.getD 27 undef = .bool false := hd 9 (by rfl)
      have g0 : a'.tmps.getD 0 undef = .pointer (some ⟨tb, 0, none⟩) := hsa.rest 0 (by rfl)
      refine wpOp_on (j := 9) (dj := 27) rfl rfl rfl d9 ?_
      refine op_run (v := .pointer (some ⟨tb, 0, none⟩)) (w' := w') ?_ ⟨_, rfl, slots_put (ns := 44) (hsa.size.trans rfl) (by decide), Below.refl _ _⟩
      simp only [execOp, Act.eval, List.map_toArray, List.map_cons, List.map_nil, d9, g0]; first | (go_simp; done) | rfl
    | 13, ho =>
      obtain rfl := Option.some.inj ho
      try dsimp only at hd
      have d9 : a'.tmps.getD 27 undef = .bool false := hd 9 (by rfl)
      have d12 : a'.tmps.getD 30 undef = .pointer (some ⟨tb, 0, none⟩) := hd 12 (by rfl)
      refine wpOp_on (j := 9) (dj := 27) rfl rfl rfl d9 ?_
      refine op_run (v := .pointer (some ⟨tb, 0, none⟩)) (w' := w') ?_ ⟨_, rfl, slots_put (ns := 44) (hsa.size.trans rfl) (by decide), Below.refl _ _⟩
      simp only [execOp, Act.eval, List.map_toArray, List.map_cons, List.map_nil, d9, d12]; first | (go_simp; done) | rfl
    | 14, ho =>
      obtain rfl := Option.some.inj ho
      try dsimp only at hd
      have d9 : a'.tmps.getD 27 undef = .bool false := hd 9 (by rfl)
      have d13 : a'.tmps.getD 31 undef = .pointer (some ⟨tb, 0, none⟩) := hd 13 (by rfl)
      refine wpOp_on (j := 9) (dj := 27) rfl rfl rfl d9 ?_
      refine op_run (v := .pointer (some ⟨tb, 2, none⟩)) (w' := w') ?_ ⟨_, rfl, slots_put (ns := 44) (hsa.size.trans rfl) (by decide), Below.refl _ _⟩
      simp only [execOp, Act.eval, List.map_toArray, List.map_cons, List.map_nil, d9, d13]; first | (go_simp; done) | rfl
    | 15, ho =>
      obtain rfl := Option.some.inj ho
      try dsimp only at hd
      have d9 : a'.tmps.getD 27 undef = .bool false := hd 9 (by rfl)
      have d14 : a'.tmps.getD 32 undef = .pointer (some ⟨tb, 2, none⟩) := hd 14 (by rfl)
      have y : w'.cell? ⟨tb, 2, none⟩ = some (.int .i64 fi) := (hb.cell (p := ⟨tb, 2, none⟩) (heap_lt hB)).trans (box_cell hB 2 rfl)
      refine wpOp_on (j := 9) (dj := 27) rfl rfl rfl d9 ?_
      refine op_run (v := .int .i64 fi) (w' := w') ?_ ⟨_, rfl, slots_put (ns := 44) (hsa.size.trans rfl) (by decide), Below.refl _ _⟩
      simp only [execOp, Act.eval, List.map_toArray, List.map_cons, List.map_nil, d9, d14, y]; first | (go_simp; done) | rfl
    | 16, ho =>
      obtain rfl := Option.some.inj ho
      try dsimp only at hd
      have d9 : a'.tmps.getD 27 undef = .bool false := hd 9 (by rfl)
      have d11 : a'.tmps.getD 29 undef = .int .i64 xo := hd 11 (by rfl)
      have d15 : a'.tmps.getD 33 undef = .int .i64 fi := hd 15 (by rfl)
      refine wpOp_on (j := 9) (dj := 27) rfl rfl rfl d9 ?_
      refine op_run (v := .bool false) (w' := w') ?_ ⟨_, rfl, slots_put (ns := 44) (hsa.size.trans rfl) (by decide), Below.refl _ _⟩
      simp only [execOp, Act.eval, List.map_toArray, List.map_cons, List.map_nil, d9, d11, d15]; first | (go_simp; done) | rfl
    | 17, ho =>
      obtain rfl := Option.some.inj ho
      try dsimp only at hd
      have d9 : a'.tmps.getD 27 undef = .bool false := hd 9 (by rfl)
      have d16 : a'.tmps.getD 34 undef = .bool false := hd 16 (by rfl)
      refine wpOp_of rfl rfl ?_
      refine op_run (v := .bool false) (w' := w') ?_ ⟨_, rfl, slots_put (ns := 44) (hsa.size.trans rfl) (by decide), Below.refl _ _⟩
      simp only [execOp, Act.eval, List.map_toArray, List.map_cons, List.map_nil, d9, d16]; first | (go_simp; done) | rfl
    | (n + 18), ho => exact absurd ho (by simp)
  case pdone =>
    intro a' w' hsa hb hd
    have d17 : a'.tmps.getD 35 undef = .bool false := hd 17 (by decide)
    exact HQ.out _ _ ⟨hsa.size.trans rfl, hsa.defers.trans rfl, hsa.rest 0 (by rfl), hsa.rest 1 (by rfl), hsa.rest 4 (by rfl), hsa.rest 5 (by rfl), hsa.rest 7 (by rfl), hsa.rest 12 (by rfl), hsa.rest 13 (by rfl), hsa.rest 14 (by rfl)⟩ d17 hb
theorem ha_r6 {K : Act → World → Prop} {c : Code} (hc : regOf (Tryz.f46.body.getD .skip) 6 = some c) (a : Act) {v : Vha} {wq : World}  (hF : Fha a v) (hQ : ∀ a', Fha a' { v with v4 := .bool false } → K a' wq) :
    Code.wp Tryz.prog c (Exit.then K fun _ _ _ => False) a wq := by
  have HQ := hide hQ
  clear hQ
  obtain ⟨v0, v1, v4, v5, v7, v12, v13, v14⟩ := v
  obtain ⟨u, rfl⟩ := frx_ha hF
  clear hF
  simp only [Tryz.f46, Option.getD_some, regOf] at hc
  injection hc with hc
  subst hc
  go_wp2
  exact HQ.out _ ⟨rfl, rfl, rfl, rfl, rfl, rfl, rfl, rfl, rfl, rfl⟩
theorem ha_r7 {K : Act → World → Prop} {c : Code} (hc : regOf (Tryz.f46.body.getD .skip) 7 = some c) (a : Act) {v : Vha} {wq : World} {rb : Nat} {xo xs : Int} {xp xk xv : ByteArray} (hF : Fha a v) (h7v : v.v7 = .pointer (some ⟨rb, 0, none⟩)) (hR : wq.heap[rb]? = some (.cells #[.int .i64 xo, .string xp, .int .i64 xs, .string xk, .string xv] 39 (0, 0))) (x0 : 0 ≤ xo) (x1 : xo ≤ 9007199254840991)
    (hQ : ∀ a', Fha a' { v with v5 := .int .i64 (xo + 1) } → K a' wq) :
    Code.wp Tryz.prog c (Exit.then K fun _ _ _ => False) a wq := by
  have HQ := hide hQ
  clear hQ
  obtain ⟨v0, v1, v4, v5, v7, v12, v13, v14⟩ := v
  simp only at h7v HQ
  subst h7v
  obtain ⟨u, rfl⟩ := frx_ha hF
  clear hF
  simp only [Tryz.f46, Option.getD_some, regOf] at hc
  injection hc with hc
  subst hc
  have c0 := box_cell hR 0 rfl
  have e1 : IntKind.i64.wrap (xo + 1) = xo + 1 := by rw [IntKind.wrap_i64]; omega
  clear hR
  go_wp2
  exact HQ.out _ ⟨rfl, rfl, rfl, rfl, rfl, rfl, rfl, rfl, rfl, rfl⟩
theorem ha_r8 {K : Act → World → Prop} {c : Code} (hc : regOf (Tryz.f46.body.getD .skip) 8 = some c) (a : Act) {v : Vha} {wq : World} {i : Nat} (hF : Fha a v) (h14v : v.v14 = .int .i64 (i : Int)) (hk : i ≤ 1000000) (hQ : ∀ a', Fha a' { v with v14 := .int .i64 ((i + 1 : Nat) : Int) } → K a' wq) :
    Code.wp Tryz.prog c (Exit.then K fun _ _ _ => False) a wq := by
  have HQ := hide hQ
  clear hQ
  obtain ⟨v0, v1, v4, v5, v7, v12, v13, v14⟩ := v
  simp only at h14v HQ
  subst h14v
  obtain ⟨u, rfl⟩ := frx_ha hF
  clear hF
  simp only [Tryz.f46, Option.getD_some, regOf] at hc
  injection hc with hc
  subst hc
  have e1 : ((i + 1 : Nat) : Int) = (i : Int) + 1 := by omega
  rw [e1] at HQ
  go_wp2
  exact HQ.out _ ⟨rfl, rfl, rfl, rfl, rfl, rfl, rfl, rfl, rfl, rfl⟩
theorem ha_r9 {K : Act → World → Prop} {c : Code} (hc : regOf (Tryz.f46.body.getD .skip) 9 = some c) (a : Act) {v : Vha} {wq : World} {tb mb sn sc : Nat} {so : Option Addr} {nm : ByteArray} {lo fi : Int} {ro : Option Addr} {n rc : Nat} (hF : Fha a v) (h0v : v.v0 = .pointer (some ⟨tb, 0, none⟩)) (h1v : v.v1 = .slice ro n rc) (hB : wq.heap[tb]? = some (.cells #[.string nm, .int .i64 lo, .int .i64 fi, .slice so sn sc, .map (some mb)] 52 (0, 0)))
    (hQ : ∀ a', Fha a' v → K a' (wq.setCell ⟨tb, 3, none⟩ (.slice ro n rc))) :
    Code.wp Tryz.prog c (Exit.then K fun _ _ _ => False) a wq := by
  have HQ := hide hQ
  clear hQ
  obtain ⟨v0, v1, v4, v5, v7, v12, v13, v14⟩ := v
  simp only at h0v h1v HQ
  subst h0v h1v
  obtain ⟨u, rfl⟩ := frx_ha hF
  clear hF
  simp only [Tryz.f46, Option.getD_some, regOf] at hc
  injection hc with hc
  subst hc
  have c3 := box_cell hB 3 rfl
  have f3 := box_free hB 3
  clear hB
  go_wp2
  exact HQ.out _ ⟨rfl, rfl, rfl, rfl, rfl, rfl, rfl, rfl, rfl, rfl⟩
theorem ha_r10 {K : Act → World → Prop} {c : Code} (hc : regOf (Tryz.f46.body.getD .skip) 10 = some c) (a : Act) {v : Vha} {wq : World}  (hF : Fha a v) (hQ : ∀ a', Fha a' { v with v4 := .bool true } → K a' wq) :
    Code.wp Tryz.prog c (Exit.then K fun _ _ _ => False) a wq := by
  have HQ := hide hQ
  clear hQ
  obtain ⟨v0, v1, v4, v5, v7, v12, v13, v14⟩ := v
  obtain ⟨u, rfl⟩ := frx_ha hF
  clear hF
  simp only [Tryz.f46, Option.getD_some, regOf] at hc
  injection hc with hc
  subst hc
  go_wp2
  exact HQ.out _ ⟨rfl, rfl, rfl, rfl, rfl, rfl, rfl, rfl, rfl, rfl⟩
end Go.Proofs.YtfoomgdlbkjaeaaGreat.Y
