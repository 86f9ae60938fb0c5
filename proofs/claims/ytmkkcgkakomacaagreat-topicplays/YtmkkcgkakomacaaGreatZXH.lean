/-
  carillonref15's Dump: its regions (mkxh.py).
-/
import Derived.Test.YtmkkcgkakomacaaGreatZYC4
import Derived.Test.YtmkkcgkakomacaaGreatZUC
import Derived.Test.YtmkkcgkakomacaaGreatZUQ
import Derived.Test.YtmkkcgkakomacaaGreatZXA
import Derived.Test.YtmkkcgkakomacaaGreatZKAppI
namespace Go.Proofs.YtmkkcgkakomacaaGreat.Y
open Go.RowKit
set_option maxHeartbeats 8000000
set_option maxRecDepth 100000
attribute [local go_sem ↓] Go.wp_at_zero Go.wp_at_succ
set_option linter.unusedSimpArgs false
set_option linter.unusedVariables false
open Go.Maps
theorem xtext (s : ByteArray) (w : World) : Calls Tryz.prog 48 #[.string s] w fun e w' => e = .returned (.agg #[.int .i64 4, .int .u64 0, .string s]) ∧ Below w.heap.size w w' := by
  go_enter Tryz.func48, Tryz.ntmps48
  go_wp2
  refine bodyPost_ret (v := .agg #[.int .i64 4, .int .u64 0, .string s]) (by simp [results, Tryz.results48, go_sem]) rfl ⟨rfl, ?_⟩
  exact (Below.refl w.heap.size w).alloc (Nat.le_refl _) _
theorem xlong (n : Int) (w : World) : Calls Tryz.prog 49 #[.int .i64 n] w fun e w' => e = .returned (.agg #[.int .i64 3, .int .u64 (IntKind.u64.wrap n), .string ⟨#[]⟩]) ∧ Below w.heap.size w w' := by
  go_enter Tryz.func49, Tryz.ntmps49
  go_wp2
  refine bodyPost_ret (v := .agg #[.int .i64 3, .int .u64 (IntKind.u64.wrap n), .string ⟨#[]⟩]) (by simp [results, Tryz.results49, go_sem]) rfl ⟨rfl, ?_⟩
  exact (Below.refl w.heap.size w).alloc (Nat.le_refl _) _
theorem xapp {w : World} {B m oc g : Nat} {oo : Option Addr} {LK its : List K.It} {cs : Array Value} (hown : w.ownsRow B 83 3 (.slice oo LK.length oc) LK.length (K.itemCells LK)) (hg : w.heap[g]? = some (.cells cs 83 (0, 0))) (hm : its.length = m) (hc : cs.toList = K.itemCells its) (h0 : 0 < m) (hl : LK.length + m ≤ 1000000) (hB : B ≤ w.heap.size) :
    ∃ to' tc' w', (Builtin.append_ #[66, 66] 66 #[.slice oo LK.length oc, .slice (some ⟨g, 0, none⟩) m m]).run Tryz.prog w = .ok (.slice to' (LK ++ its).length tc') w' ∧ w'.ownsRow B 83 3 (.slice to' (LK ++ its).length tc') (LK ++ its).length (K.itemCells (LK ++ its)) ∧ w.grownBy w' (Value.slice oo LK.length oc).ownBlock := by
  obtain ⟨v', w', hr, h2, h3, _, h4⟩ := run_append_own_at (P := Tryz.prog) w B 66 66 83 _ _ 3 32 Tryz.underlying66 K.Tryz.info83 K.Tryz.zero83 K.Tryz.cells83 K.Tryz.bytes83 rfl (by decide) (.slice oo LK.length oc) LK.length (K.itemCells LK) hown ⟨g, 0, none⟩ m m (K.itemCells its) (by rw [K.itemCells_length, hm]) (by rw [← hc]; exact World.news_of_block (fr := (0, 0)) hg) (K.itemCells_one its) (by unfold maxLen; omega) (by omega) hB
  obtain ⟨to', tc', rfl⟩ := row_slice h2
  have e : (LK ++ its).length = LK.length + m := by rw [List.length_append, hm]
  rw [e, K.itemCells_append]
  exact ⟨to', tc', w', hr, h2, h3⟩
theorem frame_xd (t : Array Value) (h : t.size = 100) : ∃ u : Nat → Value, t = List.toArray (u 0 :: u 1 :: u 2 :: u 3 :: u 4 :: u 5 :: u 6 :: u 7 :: u 8 :: u 9 :: u 10 :: u 11 :: u 12 :: u 13 :: u 14 :: u 15 :: u 16 :: u 17 :: u 18 :: u 19 :: u 20 :: u 21 :: u 22 :: u 23 :: u 24 :: u 25 :: u 26 :: u 27 :: u 28 :: u 29 :: u 30 :: u 31 :: u 32 :: u 33 :: u 34 :: u 35 :: u 36 :: u 37 :: u 38 :: u 39 :: u 40 :: u 41 :: u 42 :: u 43 :: u 44 :: u 45 :: u 46 :: u 47 :: u 48 :: u 49 :: u 50 :: u 51 :: u 52 :: u 53 :: u 54 :: u 55 :: u 56 :: u 57 :: u 58 :: u 59 :: u 60 :: u 61 :: u 62 :: u 63 :: u 64 :: u 65 :: u 66 :: u 67 :: u 68 :: u 69 :: u 70 :: u 71 :: u 72 :: u 73 :: u 74 :: u 75 :: u 76 :: u 77 :: u 78 :: u 79 :: u 80 :: u 81 :: u 82 :: u 83 :: u 84 :: u 85 :: u 86 :: u 87 :: u 88 :: u 89 :: u 90 :: u 91 :: u 92 :: u 93 :: u 94 :: u 95 :: u 96 :: u 97 :: u 98 :: u 99 :: []) := by
  refine ⟨fun i => t.getD i undef, ?_⟩
  refine Eq.trans (b := ((List.range 100).map fun i => t.getD i undef).toArray) ?_ rfl
  apply Array.ext
  · simp [h]
  · intro k h1 h2
    simp [Array.getD, h1]
structure Vxd where
  v0 : Value
  v2 : Value
  v3 : Value
  v4 : Value
  v5 : Value
  v6 : Value
  v7 : Value
  v8 : Value
structure Fxd (a : Act) (v : Vxd) : Prop where
  size : a.tmps.size = 100
  defers : a.defers = []
  s0 : a.tmps.getD 0 undef = v.v0
  s2 : a.tmps.getD 2 undef = v.v2
  s3 : a.tmps.getD 3 undef = v.v3
  s4 : a.tmps.getD 4 undef = v.v4
  s5 : a.tmps.getD 5 undef = v.v5
  s6 : a.tmps.getD 6 undef = v.v6
  s7 : a.tmps.getD 7 undef = v.v7
  s8 : a.tmps.getD 8 undef = v.v8
theorem frx_xd {a : Act} {v0 v2 v3 v4 v5 v6 v7 v8 : Value} (h : Fxd a ⟨v0, v2, v3, v4, v5, v6, v7, v8⟩) : ∃ u : Nat → Value, a = ⟨List.toArray (v0 :: u 1 :: v2 :: v3 :: v4 :: v5 :: v6 :: v7 :: v8 :: u 9 :: u 10 :: u 11 :: u 12 :: u 13 :: u 14 :: u 15 :: u 16 :: u 17 :: u 18 :: u 19 :: u 20 :: u 21 :: u 22 :: u 23 :: u 24 :: u 25 :: u 26 :: u 27 :: u 28 :: u 29 :: u 30 :: u 31 :: u 32 :: u 33 :: u 34 :: u 35 :: u 36 :: u 37 :: u 38 :: u 39 :: u 40 :: u 41 :: u 42 :: u 43 :: u 44 :: u 45 :: u 46 :: u 47 :: u 48 :: u 49 :: u 50 :: u 51 :: u 52 :: u 53 :: u 54 :: u 55 :: u 56 :: u 57 :: u 58 :: u 59 :: u 60 :: u 61 :: u 62 :: u 63 :: u 64 :: u 65 :: u 66 :: u 67 :: u 68 :: u 69 :: u 70 :: u 71 :: u 72 :: u 73 :: u 74 :: u 75 :: u 76 :: u 77 :: u 78 :: u 79 :: u 80 :: u 81 :: u 82 :: u 83 :: u 84 :: u 85 :: u 86 :: u 87 :: u 88 :: u 89 :: u 90 :: u 91 :: u 92 :: u 93 :: u 94 :: u 95 :: u 96 :: u 97 :: u 98 :: u 99 :: []), []⟩ := by
  obtain ⟨t', d'⟩ := a
  obtain ⟨hs, hd, q0, q2, q3, q4, q5, q6, q7, q8⟩ := h
  obtain ⟨u, hu⟩ := frame_xd t' hs
  simp only at hd q0 q2 q3 q4 q5 q6 q7 q8
  subst hu hd
  have e0 : u 0 = v0 := q0
  have e2 : u 2 = v2 := q2
  have e3 : u 3 = v3 := q3
  have e4 : u 4 = v4 := q4
  have e5 : u 5 = v5 := q5
  have e6 : u 6 = v6 := q6
  have e7 : u 7 = v7 := q7
  have e8 : u 8 = v8 := q8
  refine ⟨u, ?_⟩
  rw [e0, e2, e3, e4, e5, e6, e7, e8]
theorem xd_r0 {K : Act → World → Prop} {c : Code} (hc : regOf (Tryz.f21.body.getD .skip) 0 = some c) (a : Act) {v : Vxd} {wq : World}  (hF : Fxd a v) (hQ : ∀ a', Fxd a' { v with v2 := .string ⟨#[]⟩ } → K a' wq) :
    Code.wp Tryz.prog c (Exit.then K fun _ _ _ => False) a wq := by
  have HQ := hide hQ
  clear hQ
  obtain ⟨v0, v2, v3, v4, v5, v6, v7, v8⟩ := v
  obtain ⟨u, rfl⟩ := frx_xd hF
  clear hF
  simp only [Tryz.f21, Option.getD_some, regOf] at hc
  injection hc with hc
  subst hc
  go_wp2
  exact HQ.out _ ⟨rfl, rfl, rfl, rfl, rfl, rfl, rfl, rfl, rfl, rfl⟩
theorem xd_r1 {K : Act → World → Prop} {c : Code} (hc : regOf (Tryz.f21.body.getD .skip) 1 = some c) (a : Act) {v : Vxd} {wq : World} {tb np pc nr rc : Nat} {po ro : Option Addr} {nm : ByteArray} {lo fi : Int} (hF : Fxd a v) (h0v : v.v0 = .pointer (some ⟨tb, 0, none⟩)) (hB : wq.heap[tb]? = some (.cells #[.string nm, .int .i64 lo, .int .i64 fi, .slice po np pc, .slice ro nr rc] 44 (0, 0))) (l1 : 0 ≤ lo) (l2 : lo ≤ 9223372036854775807) (f1 : 0 ≤ fi) (f2 : fi ≤ 9223372036854775807) (n1 : np ≤ 1000000)
    (hQ : ∀ a' w' g, Fxd a' { v with v3 := .slice (some ⟨g, 0, none⟩) 4 4 } → wq.heap.size ≤ g → w'.heap[g]? = some (.cells #[.int .i64 4, .int .u64 0, .string nm, .int .i64 3, .int .u64 lo, .string ⟨#[]⟩, .int .i64 3, .int .u64 fi, .string ⟨#[]⟩, .int .i64 3, .int .u64 ((np : Nat) : Int), .string ⟨#[]⟩] 83 (0, 0)) → Below wq.heap.size wq w' → K a' w') :
    Code.wp Tryz.prog c (Exit.then K fun _ _ _ => False) a wq := by
  have HQ := hide hQ
  clear hQ
  obtain ⟨v0, v2, v3, v4, v5, v6, v7, v8⟩ := v
  simp only at h0v HQ
  subst h0v
  obtain ⟨u, rfl⟩ := frx_xd hF
  clear hF
  simp only [Tryz.f21, Option.getD_some, regOf] at hc
  injection hc with hc
  subst hc
  have WK : Hid ((IntKind.u64.wrap lo) = lo ∧ (IntKind.u64.wrap fi) = fi ∧ (IntKind.u64.wrap ((np : Nat) : Int)) = ((np : Nat) : Int)) := ⟨by rw [IntKind.wrap_u64]; omega, by rw [IntKind.wrap_u64]; omega, by rw [IntKind.wrap_u64]; omega⟩
  refine wp_region_phi (by kernel_rfl) (ns := 100) (uses := (fun i => match i with | 0 => [10] | 1 => [11] | 2 => [12] | 3 => [13] | 4 => [14] | 5 => [15] | 6 => [16] | 7 => [17] | 8 => [18] | 9 => [19] | 10 => [20] | 11 => [21] | 12 => [22] | 13 => [23] | 14 => [24] | 15 => [25] | 16 => [26] | 17 => [27] | 18 => [28] | 19 => [29] | 20 => [30] | 21 => [31] | 22 => [3] | _ => [])) (by kernel_rfl) (by kernel_rfl) (fun _ w w' => Below w.heap.size w w') (fun w => Below wq.heap.size wq w) (fun _ _ _ h r => h.trans (r.mono h.size)) ((Below.refl _ _).drew) (fun i => match i with | 0 => fun s w => s 10 = .pointer (some ⟨tb, 0, none⟩) | 1 => fun s w => s 11 = .pointer (some ⟨tb, 0, none⟩) | 2 => fun s w => s 12 = .pointer (some ⟨tb, 0, none⟩) | 3 => fun s w => s 13 = .string nm | 4 => fun s w => s 14 = .agg #[.int .i64 4, .int .u64 0, .string nm] | 5 => fun s w => s 15 = .pointer (some ⟨tb, 0, none⟩) | 6 => fun s w => s 16 = .pointer (some ⟨tb, 0, none⟩) | 7 => fun s w => s 17 = .pointer (some ⟨tb, 1, none⟩) | 8 => fun s w => s 18 = .int .i64 lo | 9 => fun s w => s 19 = .agg #[.int .i64 3, .int .u64 (IntKind.u64.wrap lo), .string ⟨#[]⟩] | 10 => fun s w => s 20 = .pointer (some ⟨tb, 0, none⟩) | 11 => fun s w => s 21 = .pointer (some ⟨tb, 0, none⟩) | 12 => fun s w => s 22 = .pointer (some ⟨tb, 2, none⟩) | 13 => fun s w => s 23 = .int .i64 fi | 14 => fun s w => s 24 = .agg #[.int .i64 3, .int .u64 (IntKind.u64.wrap fi), .string ⟨#[]⟩] | 15 => fun s w => s 25 = .pointer (some ⟨tb, 0, none⟩) | 16 => fun s w => s 26 = .pointer (some ⟨tb, 0, none⟩) | 17 => fun s w => s 27 = .pointer (some ⟨tb, 3, none⟩) | 18 => fun s w => s 28 = .slice po np pc | 19 => fun s w => s 29 = .int .i64 ((np : Nat) : Int) | 20 => fun s w => s 30 = .agg #[.int .i64 3, .int .u64 (IntKind.u64.wrap ((np : Nat) : Int)), .string ⟨#[]⟩] | 21 => fun s w => ∃ g, s 31 = .slice (some ⟨g, 0, none⟩) 4 4 ∧ wq.heap.size ≤ g ∧ w.heap[g]? = some (.cells #[.int .i64 4, .int .u64 0, .string nm, .int .i64 3, .int .u64 (IntKind.u64.wrap lo), .string ⟨#[]⟩, .int .i64 3, .int .u64 (IntKind.u64.wrap fi), .string ⟨#[]⟩, .int .i64 3, .int .u64 (IntKind.u64.wrap ((np : Nat) : Int)), .string ⟨#[]⟩] 83 (0, 0)) | 22 => fun s w => ∃ g, s 3 = .slice (some ⟨g, 0, none⟩) 4 4 ∧ wq.heap.size ≤ g ∧ w.heap[g]? = some (.cells #[.int .i64 4, .int .u64 0, .string nm, .int .i64 3, .int .u64 (IntKind.u64.wrap lo), .string ⟨#[]⟩, .int .i64 3, .int .u64 (IntKind.u64.wrap fi), .string ⟨#[]⟩, .int .i64 3, .int .u64 (IntKind.u64.wrap ((np : Nat) : Int)), .string ⟨#[]⟩] 83 (0, 0)) | _ => fun _ _ => True) ?phc ?phh ?pstep ?pdone
  case phc =>
    intro i s s' w hx h
    match i, hx, h with
    | 0, hx, h => exact (hx 10 (by simp)).symm.trans h
    | 1, hx, h => exact (hx 11 (by simp)).symm.trans h
    | 2, hx, h => exact (hx 12 (by simp)).symm.trans h
    | 3, hx, h => exact (hx 13 (by simp)).symm.trans h
    | 4, hx, h => exact (hx 14 (by simp)).symm.trans h
    | 5, hx, h => exact (hx 15 (by simp)).symm.trans h
    | 6, hx, h => exact (hx 16 (by simp)).symm.trans h
    | 7, hx, h => exact (hx 17 (by simp)).symm.trans h
    | 8, hx, h => exact (hx 18 (by simp)).symm.trans h
    | 9, hx, h => exact (hx 19 (by simp)).symm.trans h
    | 10, hx, h => exact (hx 20 (by simp)).symm.trans h
    | 11, hx, h => exact (hx 21 (by simp)).symm.trans h
    | 12, hx, h => exact (hx 22 (by simp)).symm.trans h
    | 13, hx, h => exact (hx 23 (by simp)).symm.trans h
    | 14, hx, h => exact (hx 24 (by simp)).symm.trans h
    | 15, hx, h => exact (hx 25 (by simp)).symm.trans h
    | 16, hx, h => exact (hx 26 (by simp)).symm.trans h
    | 17, hx, h => exact (hx 27 (by simp)).symm.trans h
    | 18, hx, h => exact (hx 28 (by simp)).symm.trans h
    | 19, hx, h => exact (hx 29 (by simp)).symm.trans h
    | 20, hx, h => exact (hx 30 (by simp)).symm.trans h
    | 21, hx, h =>
      have e31 := hx 31 (by simp)
      first | exact (show _ from by simp only [← e31] at *; exact h) | (simp only [e31] at h; exact h)
    | 22, hx, h =>
      have e3 := hx 3 (by simp)
      first | exact (show _ from by simp only [← e3] at *; exact h) | (simp only [e3] at h; exact h)
    | (n + 23), _, h => exact h
  case phh =>
    intro i j s w w' hij h hb r
    match i, hij, h with
    | 0, hij, h =>
      exact h
    | 1, hij, h =>
      exact h
    | 2, hij, h =>
      exact h
    | 3, hij, h =>
      exact h
    | 4, hij, h =>
      exact h
    | 5, hij, h =>
      exact h
    | 6, hij, h =>
      exact h
    | 7, hij, h =>
      exact h
    | 8, hij, h =>
      exact h
    | 9, hij, h =>
      exact h
    | 10, hij, h =>
      exact h
    | 11, hij, h =>
      exact h
    | 12, hij, h =>
      exact h
    | 13, hij, h =>
      exact h
    | 14, hij, h =>
      exact h
    | 15, hij, h =>
      exact h
    | 16, hij, h =>
      exact h
    | 17, hij, h =>
      exact h
    | 18, hij, h =>
      exact h
    | 19, hij, h =>
      exact h
    | 20, hij, h =>
      exact h
    | 21, hij, h =>
      obtain ⟨g, h1, h0, h2⟩ := h
      exact ⟨g, h1, h0, (r.block _ (heap_lt h2)).trans h2⟩
    | 22, hij, h =>
      obtain ⟨g, h1, h0, h2⟩ := h
      exact ⟨g, h1, h0, (r.block _ (heap_lt h2)).trans h2⟩
    | (n + 23), _, h => exact h
  case pstep =>
    intro i o ho a' w' hsa hb hd
    match i, ho with
    | 0, ho =>
      obtain rfl := Option.some.inj ho
      try dsimp only at hd
      have g0 : a'.tmps.getD 0 undef = .pointer (some ⟨tb, 0, none⟩) := hsa.rest 0 (by rfl)
      refine wpOp_of rfl rfl ?_
      refine op_run (v := .pointer (some ⟨tb, 0, none⟩)) (w' := w') ?_ ⟨_, rfl, slots_put (ns := 100) (hsa.size.trans rfl) (by decide), Below.refl _ _⟩
      simp only [execOp, Act.eval, g0]; first | (go_simp; done) | rfl
    | 1, ho =>
      obtain rfl := Option.some.inj ho
      try dsimp only at hd
      have d0 : a'.tmps.getD 10 undef = .pointer (some ⟨tb, 0, none⟩) := hd 0 (by rfl)
      refine wpOp_of rfl rfl ?_
      refine op_run (v := .pointer (some ⟨tb, 0, none⟩)) (w' := w') ?_ ⟨_, rfl, slots_put (ns := 100) (hsa.size.trans rfl) (by decide), Below.refl _ _⟩
      simp only [execOp, Act.eval, d0]; first | (go_simp; done) | rfl
    | 2, ho =>
      obtain rfl := Option.some.inj ho
      try dsimp only at hd
      have d1 : a'.tmps.getD 11 undef = .pointer (some ⟨tb, 0, none⟩) := hd 1 (by rfl)
      refine wpOp_of rfl rfl ?_
      refine op_run (v := .pointer (some ⟨tb, 0, none⟩)) (w' := w') ?_ ⟨_, rfl, slots_put (ns := 100) (hsa.size.trans rfl) (by decide), Below.refl _ _⟩
      simp only [execOp, Act.eval, d1]; first | (go_simp; done) | rfl
    | 3, ho =>
      obtain rfl := Option.some.inj ho
      try dsimp only at hd
      have d2 : a'.tmps.getD 12 undef = .pointer (some ⟨tb, 0, none⟩) := hd 2 (by rfl)
      have y : w'.cell? ⟨tb, 0, none⟩ = some (.string nm) := (hb.cell (p := ⟨tb, 0, none⟩) (heap_lt hB)).trans (box_cell hB 0 rfl)
      refine wpOp_of rfl rfl ?_
      refine op_run (v := .string nm) (w' := w') ?_ ⟨_, rfl, slots_put (ns := 100) (hsa.size.trans rfl) (by decide), Below.refl _ _⟩
      simp only [execOp, Act.eval, d2, y]; first | (go_simp; done) | rfl
    | 4, ho =>
      obtain rfl := Option.some.inj ho
      try dsimp only at hd
      have d3 : a'.tmps.getD 13 undef = .string nm := hd 3 (by rfl)
      refine wpOp_of rfl rfl ?_
      refine op_call 48 _ _ rfl (enters_of Tryz.func48 (by kernel_rfl) rfl) [.string nm] (by simp only [List.map, Act.eval, d3]) (xtext nm w') ?_
      rintro e w'' ⟨rfl, b2⟩
      refine ⟨_, rfl, _, rfl, ?_, ?_⟩
      · try dsimp only
        exact (slots_put (ns := 100) (hsa.size.trans rfl) (by decide))
      · exact b2
    | 5, ho =>
      obtain rfl := Option.some.inj ho
      try dsimp only at hd
      have g0 : a'.tmps.getD 0 undef = .pointer (some ⟨tb, 0, none⟩) := hsa.rest 0 (by rfl)
      refine wpOp_of rfl rfl ?_
      refine op_run (v := .pointer (some ⟨tb, 0, none⟩)) (w' := w') ?_ ⟨_, rfl, slots_put (ns := 100) (hsa.size.trans rfl) (by decide), Below.refl _ _⟩
      simp only [execOp, Act.eval, g0]; first | (go_simp; done) | rfl
    | 6, ho =>
      obtain rfl := Option.some.inj ho
      try dsimp only at hd
      have d5 : a'.tmps.getD 15 undef = .pointer (some ⟨tb, 0, none⟩) := hd 5 (by rfl)
      refine wpOp_of rfl rfl ?_
      refine op_run (v := .pointer (some ⟨tb, 0, none⟩)) (w' := w') ?_ ⟨_, rfl, slots_put (ns := 100) (hsa.size.trans rfl) (by decide), Below.refl _ _⟩
      simp only [execOp, Act.eval, d5]; first | (go_simp; done) | rfl
    | 7, ho =>
      obtain rfl := Option.some.inj ho
      try dsimp only at hd
      have d6 : a'.tmps.getD 16 undef = .pointer (some ⟨tb, 0, none⟩) := hd 6 (by rfl)
      refine wpOp_of rfl rfl ?_
      refine op_run (v := .pointer (some ⟨tb, 1, none⟩)) (w' := w') ?_ ⟨_, rfl, slots_put (ns := 100) (hsa.size.trans rfl) (by decide), Below.refl _ _⟩
      simp only [execOp, Act.eval, d6]; first | (go_simp; done) | rfl
    | 8, ho =>
      obtain rfl := Option.some.inj ho
      try dsimp only at hd
      have d7 : a'.tmps.getD 17 undef = .pointer (some ⟨tb, 1, none⟩) := hd 7 (by rfl)
      have y : w'.cell? ⟨tb, 1, none⟩ = some (.int .i64 lo) := (hb.cell (p := ⟨tb, 1, none⟩) (heap_lt hB)).trans (box_cell hB 1 rfl)
      refine wpOp_of rfl rfl ?_
      refine op_run (v := .int .i64 lo) (w' := w') ?_ ⟨_, rfl, slots_put (ns := 100) (hsa.size.trans rfl) (by decide), Below.refl _ _⟩
      simp only [execOp, Act.eval, d7, y]; first | (go_simp; done) | rfl
    | 9, ho =>
      obtain rfl := Option.some.inj ho
      try dsimp only at hd
      have d8 : a'.tmps.getD 18 undef = .int .i64 lo := hd 8 (by rfl)
      refine wpOp_of rfl rfl ?_
      refine op_call 49 _ _ rfl (enters_of Tryz.func49 (by kernel_rfl) rfl) [.int .i64 lo] (by simp only [List.map, Act.eval, d8]) (xlong lo w') ?_
      rintro e w'' ⟨rfl, b2⟩
      refine ⟨_, rfl, _, rfl, ?_, ?_⟩
      · try dsimp only
        exact (slots_put (ns := 100) (hsa.size.trans rfl) (by decide))
      · exact b2
    | 10, ho =>
      obtain rfl := Option.some.inj ho
      try dsimp only at hd
      have g0 : a'.tmps.getD 0 undef = .pointer (some ⟨tb, 0, none⟩) := hsa.rest 0 (by rfl)
      refine wpOp_of rfl rfl ?_
      refine op_run (v := .pointer (some ⟨tb, 0, none⟩)) (w' := w') ?_ ⟨_, rfl, slots_put (ns := 100) (hsa.size.trans rfl) (by decide), Below.refl _ _⟩
      simp only [execOp, Act.eval, g0]; first | (go_simp; done) | rfl
    | 11, ho =>
      obtain rfl := Option.some.inj ho
      try dsimp only at hd
      have d10 : a'.tmps.getD 20 undef = .pointer (some ⟨tb, 0, none⟩) := hd 10 (by rfl)
      refine wpOp_of rfl rfl ?_
      refine op_run (v := .pointer (some ⟨tb, 0, none⟩)) (w' := w') ?_ ⟨_, rfl, slots_put (ns := 100) (hsa.size.trans rfl) (by decide), Below.refl _ _⟩
      simp only [execOp, Act.eval, d10]; first | (go_simp; done) | rfl
    | 12, ho =>
      obtain rfl := Option.some.inj ho
      try dsimp only at hd
      have d11 : a'.tmps.getD 21 undef = .pointer (some ⟨tb, 0, none⟩) := hd 11 (by rfl)
      refine wpOp_of rfl rfl ?_
      refine op_run (v := .pointer (some ⟨tb, 2, none⟩)) (w' := w') ?_ ⟨_, rfl, slots_put (ns := 100) (hsa.size.trans rfl) (by decide), Below.refl _ _⟩
      simp only [execOp, Act.eval, d11]; first | (go_simp; done) | rfl
    | 13, ho =>
      obtain rfl := Option.some.inj ho
      try dsimp only at hd
      have d12 : a'.tmps.getD 22 undef = .pointer (some ⟨tb, 2, none⟩) := hd 12 (by rfl)
      have y : w'.cell? ⟨tb, 2, none⟩ = some (.int .i64 fi) := (hb.cell (p := ⟨tb, 2, none⟩) (heap_lt hB)).trans (box_cell hB 2 rfl)
      refine wpOp_of rfl rfl ?_
      refine op_run (v := .int .i64 fi) (w' := w') ?_ ⟨_, rfl, slots_put (ns := 100) (hsa.size.trans rfl) (by decide), Below.refl _ _⟩
      simp only [execOp, Act.eval, d12, y]; first | (go_simp; done) | rfl
    | 14, ho =>
      obtain rfl := Option.some.inj ho
      try dsimp only at hd
      have d13 : a'.tmps.getD 23 undef = .int .i64 fi := hd 13 (by rfl)
      refine wpOp_of rfl rfl ?_
      refine op_call 49 _ _ rfl (enters_of Tryz.func49 (by kernel_rfl) rfl) [.int .i64 fi] (by simp only [List.map, Act.eval, d13]) (xlong fi w') ?_
      rintro e w'' ⟨rfl, b2⟩
      refine ⟨_, rfl, _, rfl, ?_, ?_⟩
      · try dsimp only
        exact (slots_put (ns := 100) (hsa.size.trans rfl) (by decide))
      · exact b2
    | 15, ho =>
      obtain rfl := Option.some.inj ho
      try dsimp only at hd
      have g0 : a'.tmps.getD 0 undef = .pointer (some ⟨tb, 0, none⟩) := hsa.rest 0 (by rfl)
      refine wpOp_of rfl rfl ?_
      refine op_run (v := .pointer (some ⟨tb, 0, none⟩)) (w' := w') ?_ ⟨_, rfl, slots_put (ns := 100) (hsa.size.trans rfl) (by decide), Below.refl _ _⟩
      simp only [execOp, Act.eval, g0]; first | (go_simp; done) | rfl
    | 16, ho =>
      obtain rfl := Option.some.inj ho
      try dsimp only at hd
      have d15 : a'.tmps.getD 25 undef = .pointer (some ⟨tb, 0, none⟩) := hd 15 (by rfl)
      refine wpOp_of rfl rfl ?_
      refine op_run (v := .pointer (some ⟨tb, 0, none⟩)) (w' := w') ?_ ⟨_, rfl, slots_put (ns := 100) (hsa.size.trans rfl) (by decide), Below.refl _ _⟩
      simp only [execOp, Act.eval, d15]; first | (go_simp; done) | rfl
    | 17, ho =>
      obtain rfl := Option.some.inj ho
      try dsimp only at hd
      have d16 : a'.tmps.getD 26 undef = .pointer (some ⟨tb, 0, none⟩) := hd 16 (by rfl)
      refine wpOp_of rfl rfl ?_
      refine op_run (v := .pointer (some ⟨tb, 3, none⟩)) (w' := w') ?_ ⟨_, rfl, slots_put (ns := 100) (hsa.size.trans rfl) (by decide), Below.refl _ _⟩
      simp only [execOp, Act.eval, d16]; first | (go_simp; done) | rfl
    | 18, ho =>
      obtain rfl := Option.some.inj ho
      try dsimp only at hd
      have d17 : a'.tmps.getD 27 undef = .pointer (some ⟨tb, 3, none⟩) := hd 17 (by rfl)
      have y : w'.cell? ⟨tb, 3, none⟩ = some (.slice po np pc) := (hb.cell (p := ⟨tb, 3, none⟩) (heap_lt hB)).trans (box_cell hB 3 rfl)
      refine wpOp_of rfl rfl ?_
      refine op_run (v := .slice po np pc) (w' := w') ?_ ⟨_, rfl, slots_put (ns := 100) (hsa.size.trans rfl) (by decide), Below.refl _ _⟩
      simp only [execOp, Act.eval, d17, y]; first | (go_simp; done) | rfl
    | 19, ho =>
      obtain rfl := Option.some.inj ho
      try dsimp only at hd
      have d18 : a'.tmps.getD 28 undef = .slice po np pc := hd 18 (by rfl)
      refine wpOp_of rfl rfl ?_
      refine op_run (v := .int .i64 ((np : Nat) : Int)) (w' := w') ?_ ⟨_, rfl, slots_put (ns := 100) (hsa.size.trans rfl) (by decide), Below.refl _ _⟩
      simp only [execOp, Act.eval, List.map_toArray, List.map_cons, List.map_nil, d18]; first | (go_simp; done) | rfl
    | 20, ho =>
      obtain rfl := Option.some.inj ho
      try dsimp only at hd
      have d19 : a'.tmps.getD 29 undef = .int .i64 ((np : Nat) : Int) := hd 19 (by rfl)
      refine wpOp_of rfl rfl ?_
      refine op_call 49 _ _ rfl (enters_of Tryz.func49 (by kernel_rfl) rfl) [.int .i64 ((np : Nat) : Int)] (by simp only [List.map, Act.eval, d19]) (xlong (((np : Nat) : Int)) w') ?_
      rintro e w'' ⟨rfl, b2⟩
      refine ⟨_, rfl, _, rfl, ?_, ?_⟩
      · try dsimp only
        exact (slots_put (ns := 100) (hsa.size.trans rfl) (by decide))
      · exact b2
    | 21, ho =>
      obtain rfl := Option.some.inj ho
      try dsimp only at hd
      have d4 : a'.tmps.getD 14 undef = .agg #[.int .i64 4, .int .u64 0, .string nm] := hd 4 (by rfl)
      have d9 : a'.tmps.getD 19 undef = .agg #[.int .i64 3, .int .u64 (IntKind.u64.wrap lo), .string ⟨#[]⟩] := hd 9 (by rfl)
      have d14 : a'.tmps.getD 24 undef = .agg #[.int .i64 3, .int .u64 (IntKind.u64.wrap fi), .string ⟨#[]⟩] := hd 14 (by rfl)
      have d20 : a'.tmps.getD 30 undef = .agg #[.int .i64 3, .int .u64 (IntKind.u64.wrap ((np : Nat) : Int)), .string ⟨#[]⟩] := hd 20 (by rfl)
      refine wpOp_of rfl rfl ?_
      refine op_run (v := Value.slice (some ⟨w'.heap.size, 0, none⟩) 4 4) (w' := w'.alloc (.cells #[.int .i64 4, .int .u64 0, .string nm, .int .i64 3, .int .u64 (IntKind.u64.wrap lo), .string ⟨#[]⟩, .int .i64 3, .int .u64 (IntKind.u64.wrap fi), .string ⟨#[]⟩, .int .i64 3, .int .u64 (IntKind.u64.wrap ((np : Nat) : Int)), .string ⟨#[]⟩] 83)) ?_ ⟨_, rfl, ?_, ?_⟩
      · simp only [execOp, Act.eval, List.map_toArray, List.map_cons, List.map_nil, d4, d9, d14, d20]; first | (go_simp; done) | rfl
      · try dsimp only
        exact ⟨_, (slots_put (ns := 100) (hsa.size.trans rfl) (by decide)), hb.size, heap_alloc_new _ _⟩
      · exact (Below.refl _ _).alloc (Nat.le_refl _) _
    | 22, ho =>
      obtain rfl := Option.some.inj ho
      try dsimp only at hd
      have d21 : ∃ g, a'.tmps.getD 31 undef = .slice (some ⟨g, 0, none⟩) 4 4 ∧ wq.heap.size ≤ g ∧ w'.heap[g]? = some (.cells #[.int .i64 4, .int .u64 0, .string nm, .int .i64 3, .int .u64 (IntKind.u64.wrap lo), .string ⟨#[]⟩, .int .i64 3, .int .u64 (IntKind.u64.wrap fi), .string ⟨#[]⟩, .int .i64 3, .int .u64 (IntKind.u64.wrap ((np : Nat) : Int)), .string ⟨#[]⟩] 83 (0, 0)) := hd 21 (by rfl)
      obtain ⟨g, d21, h0, h2⟩ := d21
      refine wpOp_of rfl rfl ?_
      refine op_run (v := .slice (some ⟨g, 0, none⟩) 4 4) (w' := w') ?_ ⟨_, rfl, ?_, ?_⟩
      · simp only [execOp, Act.eval, d21]; first | (go_simp; done) | rfl
      · try dsimp only
        exact ⟨g, (slots_put (ns := 100) (hsa.size.trans rfl) (by decide)), h0, h2⟩
      · exact Below.refl _ _
    | (n + 23), ho => exact absurd ho (by simp)
  case pdone =>
    intro a' w' hsa hb hd
    have d22 : ∃ g, a'.tmps.getD 3 undef = .slice (some ⟨g, 0, none⟩) 4 4 ∧ wq.heap.size ≤ g ∧ w'.heap[g]? = some (.cells #[.int .i64 4, .int .u64 0, .string nm, .int .i64 3, .int .u64 (IntKind.u64.wrap lo), .string ⟨#[]⟩, .int .i64 3, .int .u64 (IntKind.u64.wrap fi), .string ⟨#[]⟩, .int .i64 3, .int .u64 (IntKind.u64.wrap ((np : Nat) : Int)), .string ⟨#[]⟩] 83 (0, 0)) := hd 22 (by decide)
    obtain ⟨g, d22, h0, h2⟩ := d22
    obtain ⟨w1, w2, w3⟩ := WK.out
    rw [w1, w2, w3] at h2
    exact HQ.out _ _ g ⟨hsa.size.trans rfl, hsa.defers.trans rfl, hsa.rest 0 (by rfl), hsa.rest 2 (by rfl), d22, hsa.rest 4 (by rfl), hsa.rest 5 (by rfl), hsa.rest 6 (by rfl), hsa.rest 7 (by rfl), hsa.rest 8 (by rfl)⟩ h0 h2 hb
theorem xd_r2 {K : Act → World → Prop} {c : Code} (hc : regOf (Tryz.f21.body.getD .skip) 2 = some c) (a : Act) {v : Vxd} {wq : World}  (hF : Fxd a v) (hQ : ∀ a', Fxd a' { v with v4 := .int .i64 ((0 : Nat) : Int) } → K a' wq) :
    Code.wp Tryz.prog c (Exit.then K fun _ _ _ => False) a wq := by
  have HQ := hide hQ
  clear hQ
  obtain ⟨v0, v2, v3, v4, v5, v6, v7, v8⟩ := v
  obtain ⟨u, rfl⟩ := frx_xd hF
  clear hF
  simp only [Tryz.f21, Option.getD_some, regOf] at hc
  injection hc with hc
  subst hc
  go_wp2
  exact HQ.out _ ⟨rfl, rfl, rfl, rfl, rfl, rfl, rfl, rfl, rfl, rfl⟩
theorem xd_r7 {K : Act → World → Prop} {c : Code} (hc : regOf (Tryz.f21.body.getD .skip) 7 = some c) (a : Act) {v : Vxd} {wq : World}  (hF : Fxd a v) (hQ : ∀ a', Fxd a' { v with v6 := .int .i64 ((0 : Nat) : Int) } → K a' wq) :
    Code.wp Tryz.prog c (Exit.then K fun _ _ _ => False) a wq := by
  have HQ := hide hQ
  clear hQ
  obtain ⟨v0, v2, v3, v4, v5, v6, v7, v8⟩ := v
  obtain ⟨u, rfl⟩ := frx_xd hF
  clear hF
  simp only [Tryz.f21, Option.getD_some, regOf] at hc
  injection hc with hc
  subst hc
  go_wp2
  exact HQ.out _ ⟨rfl, rfl, rfl, rfl, rfl, rfl, rfl, rfl, rfl, rfl⟩
theorem xd_r3 {K : Act → World → Prop} {c : Code} (hc : regOf (Tryz.f21.body.getD .skip) 3 = some c) (a : Act) {v : Vxd} {wq : World} {tb np pc nr rc : Nat} {po ro : Option Addr} {nm : ByteArray} {lo fi : Int} {k : Nat} (hF : Fxd a v) (h0v : v.v0 = .pointer (some ⟨tb, 0, none⟩)) (h4v : v.v4 = .int .i64 (k : Int)) (hB : wq.heap[tb]? = some (.cells #[.string nm, .int .i64 lo, .int .i64 fi, .slice po np pc, .slice ro nr rc] 44 (0, 0))) (hQ : ∀ a', Fxd a' v → a'.tmps.getD 38 undef = .bool (decide ((k : Int) < (np : Int))) → K a' wq) :
    Code.wp Tryz.prog c (Exit.then K fun _ _ _ => False) a wq := by
  have HQ := hide hQ
  clear hQ
  obtain ⟨v0, v2, v3, v4, v5, v6, v7, v8⟩ := v
  simp only at h0v h4v HQ
  subst h0v h4v
  obtain ⟨u, rfl⟩ := frx_xd hF
  clear hF
  simp only [Tryz.f21, Option.getD_some, regOf] at hc
  injection hc with hc
  subst hc
  have c3 := box_cell hB 3 rfl
  clear hB
  go_wp2
  exact HQ.out _ ⟨rfl, rfl, rfl, rfl, rfl, rfl, rfl, rfl, rfl, rfl⟩ (by first | rfl | (simp; done))
theorem xd_r8 {K : Act → World → Prop} {c : Code} (hc : regOf (Tryz.f21.body.getD .skip) 8 = some c) (a : Act) {v : Vxd} {wq : World} {tb np pc nr rc : Nat} {po ro : Option Addr} {nm : ByteArray} {lo fi : Int} {k : Nat} (hF : Fxd a v) (h0v : v.v0 = .pointer (some ⟨tb, 0, none⟩)) (h6v : v.v6 = .int .i64 (k : Int)) (hB : wq.heap[tb]? = some (.cells #[.string nm, .int .i64 lo, .int .i64 fi, .slice po np pc, .slice ro nr rc] 44 (0, 0))) (hQ : ∀ a', Fxd a' v → a'.tmps.getD 66 undef = .bool (decide ((k : Int) < (nr : Int))) → K a' wq) :
    Code.wp Tryz.prog c (Exit.then K fun _ _ _ => False) a wq := by
  have HQ := hide hQ
  clear hQ
  obtain ⟨v0, v2, v3, v4, v5, v6, v7, v8⟩ := v
  simp only at h0v h6v HQ
  subst h0v h6v
  obtain ⟨u, rfl⟩ := frx_xd hF
  clear hF
  simp only [Tryz.f21, Option.getD_some, regOf] at hc
  injection hc with hc
  subst hc
  have c4 := box_cell hB 4 rfl
  clear hB
  go_wp2
  exact HQ.out _ ⟨rfl, rfl, rfl, rfl, rfl, rfl, rfl, rfl, rfl, rfl⟩ (by first | rfl | (simp; done))
theorem xd_r4 {K : Act → World → Prop} {c : Code} (hc : regOf (Tryz.f21.body.getD .skip) 4 = some c) (a : Act) {v : Vxd} {wq : World} {i : Nat} (hF : Fxd a v) (h4v : v.v4 = .int .i64 (i : Int)) (hi : i ≤ 1000000)
    (hQ : ∀ a', Fxd a' { v with v4 := .int .i64 ((i + 1 : Nat) : Int) } → K a' wq) :
    Code.wp Tryz.prog c (Exit.then K fun _ _ _ => False) a wq := by
  have HQ := hide hQ
  clear hQ
  obtain ⟨v0, v2, v3, v4, v5, v6, v7, v8⟩ := v
  simp only at h4v HQ
  subst h4v
  obtain ⟨u, rfl⟩ := frx_xd hF
  clear hF
  simp only [Tryz.f21, Option.getD_some, regOf] at hc
  injection hc with hc
  subst hc
  go_wp2
  exact HQ.out _ ⟨rfl, rfl, rfl, rfl, rfl, (by first | rfl | (simp; done) | (go_num; done)), rfl, rfl, rfl, rfl⟩
theorem xd_r9 {K : Act → World → Prop} {c : Code} (hc : regOf (Tryz.f21.body.getD .skip) 9 = some c) (a : Act) {v : Vxd} {wq : World} {i : Nat} (hF : Fxd a v) (h6v : v.v6 = .int .i64 (i : Int)) (hi : i ≤ 1000000)
    (hQ : ∀ a', Fxd a' { v with v6 := .int .i64 ((i + 1 : Nat) : Int) } → K a' wq) :
    Code.wp Tryz.prog c (Exit.then K fun _ _ _ => False) a wq := by
  have HQ := hide hQ
  clear hQ
  obtain ⟨v0, v2, v3, v4, v5, v6, v7, v8⟩ := v
  simp only at h6v HQ
  subst h6v
  obtain ⟨u, rfl⟩ := frx_xd hF
  clear hF
  simp only [Tryz.f21, Option.getD_some, regOf] at hc
  injection hc with hc
  subst hc
  go_wp2
  exact HQ.out _ ⟨rfl, rfl, rfl, rfl, rfl, rfl, rfl, (by first | rfl | (simp; done) | (go_num; done)), rfl, rfl⟩
theorem xd_r5 {K : Act → World → Prop} {c : Code} (hc : regOf (Tryz.f21.body.getD .skip) 5 = some c) (a : Act) {v : Vxd} {wq : World} {tb np pc nr rc : Nat} {ro : Option Addr} {g off k : Nat} {p : PR} {nm : ByteArray} {lo fi : Int} (hF : Fxd a v) (h0v : v.v0 = .pointer (some ⟨tb, 0, none⟩)) (h4v : v.v4 = .int .i64 (k : Int)) (hB : wq.heap[tb]? = some (.cells #[.string nm, .int .i64 lo, .int .i64 fi, .slice (some ⟨g, off, none⟩) np pc, .slice ro nr rc] 44 (0, 0))) (hk : k < np) (c0 : wq.cell? ⟨g, off + k * 3, none⟩ = some (.string p.name)) (c1 : wq.cell? ⟨g, off + k * 3 + 1, none⟩ = some (.int .i64 p.sq)) (c2 : wq.cell? ⟨g, off + k * 3 + 2, none⟩ = some (.int .i64 p.off))
    (hQ : ∀ a', Fxd a' { v with v5 := .pointer (some ⟨wq.heap.size, 0, none⟩) } → K a' (wq.alloc (.cells #[.string p.name, .int .i64 p.sq, .int .i64 p.off] 64))) :
    Code.wp Tryz.prog c (Exit.then K fun _ _ _ => False) a wq := by
  have HQ := hide hQ
  clear hQ
  obtain ⟨v0, v2, v3, v4, v5, v6, v7, v8⟩ := v
  simp only at h0v h4v HQ
  subst h0v h4v
  obtain ⟨u, rfl⟩ := frx_xd hF
  clear hF
  simp only [Tryz.f21, Option.getD_some, regOf] at hc
  injection hc with hc
  subst hc
  have b3 := box_cell hB 3 rfl
  clear hB
  have i0 : (0 : Int) ≤ (k : Int) := by omega
  have i1 : (k : Int) < (np : Int) := by omega
  go_wp2
  exact HQ.out _ ⟨rfl, rfl, rfl, rfl, rfl, rfl, rfl, rfl, rfl, rfl⟩
theorem xd_r10 {K : Act → World → Prop} {c : Code} (hc : regOf (Tryz.f21.body.getD .skip) 10 = some c) (a : Act) {v : Vxd} {wq : World} {tb np pc nr rc : Nat} {po : Option Addr} {g off k : Nat} {r : Rec} {nm : ByteArray} {lo fi : Int} (hF : Fxd a v) (h0v : v.v0 = .pointer (some ⟨tb, 0, none⟩)) (h6v : v.v6 = .int .i64 (k : Int)) (hB : wq.heap[tb]? = some (.cells #[.string nm, .int .i64 lo, .int .i64 fi, .slice po np pc, .slice (some ⟨g, off, none⟩) nr rc] 44 (0, 0))) (hk : k < nr) (c0 : wq.cell? ⟨g, off + k * 5, none⟩ = some (.int .i64 r.off)) (c1 : wq.cell? ⟨g, off + k * 5 + 1, none⟩ = some (.string r.prod)) (c2 : wq.cell? ⟨g, off + k * 5 + 2, none⟩ = some (.int .i64 r.seq)) (c3 : wq.cell? ⟨g, off + k * 5 + 3, none⟩ = some (.string r.key)) (c4 : wq.cell? ⟨g, off + k * 5 + 4, none⟩ = some (.string r.val))
    (hQ : ∀ a', Fxd a' { v with v7 := .pointer (some ⟨wq.heap.size, 0, none⟩) } → K a' (wq.alloc (.cells #[.int .i64 r.off, .string r.prod, .int .i64 r.seq, .string r.key, .string r.val] 39))) :
    Code.wp Tryz.prog c (Exit.then K fun _ _ _ => False) a wq := by
  have HQ := hide hQ
  clear hQ
  obtain ⟨v0, v2, v3, v4, v5, v6, v7, v8⟩ := v
  simp only at h0v h6v HQ
  subst h0v h6v
  obtain ⟨u, rfl⟩ := frx_xd hF
  clear hF
  simp only [Tryz.f21, Option.getD_some, regOf] at hc
  injection hc with hc
  subst hc
  have b4 := box_cell hB 4 rfl
  clear hB
  have i0 : (0 : Int) ≤ (k : Int) := by omega
  have i1 : (k : Int) < (nr : Int) := by omega
  go_wp2
  exact HQ.out _ ⟨rfl, rfl, rfl, rfl, rfl, rfl, rfl, rfl, rfl, rfl⟩
theorem xd_r6 {K : Act → World → Prop} {c : Code} (hc : regOf (Tryz.f21.body.getD .skip) 6 = some c) (a : Act) {v : Vxd} {wq : World} {rb B oc : Nat} {oo : Option Addr} {LK its : List Go.Proofs.YtmkkcgkakomacaaGreat.K.It} {p : PR} (hF : Fxd a v) (h3v : v.v3 = .slice oo LK.length oc) (h5v : v.v5 = .pointer (some ⟨rb, 0, none⟩)) (hR : wq.heap[rb]? = some (.cells #[.string p.name, .int .i64 p.sq, .int .i64 p.off] 64 (0, 0))) (hrow : wq.ownsRow B 83 3 (.slice oo LK.length oc) LK.length (Go.Proofs.YtmkkcgkakomacaaGreat.K.itemCells LK)) (hB0 : B ≤ wq.heap.size) (hl : LK.length ≤ 900000) (hits : its = itemsPr ⟨p.name, p.sq, p.off⟩) (h1 : 0 ≤ p.sq) (h2 : p.sq ≤ 9223372036854775807) (h3 : 0 ≤ p.off) (h4 : p.off ≤ 9223372036854775807)
    (hQ : ∀ a' w' xo xc, Fxd a' { v with v3 := .slice xo (LK ++ its).length xc } → w'.ownsRow B 83 3 (.slice xo (LK ++ its).length xc) (LK ++ its).length (Go.Proofs.YtmkkcgkakomacaaGreat.K.itemCells (LK ++ its)) → Touch (fun j => (Value.slice oo LK.length oc).ownBlock = some j) wq w' → K a' w') :
    Code.wp Tryz.prog c (Exit.then K fun _ _ _ => False) a wq := by
  have HQ := hide hQ
  clear hQ
  obtain ⟨v0, v2, v3, v4, v5, v6, v7, v8⟩ := v
  simp only at h3v h5v HQ
  subst h3v h5v
  obtain ⟨u, rfl⟩ := frx_xd hF
  clear hF
  simp only [Tryz.f21, Option.getD_some, regOf] at hc
  injection hc with hc
  subst hc
  have e_psq : IntKind.u64.wrap p.sq = p.sq := by rw [IntKind.wrap_u64]; omega
  have e_poff : IntKind.u64.wrap p.off = p.off := by rw [IntKind.wrap_u64]; omega
  refine wp_region_any rfl ?_
  refine wpAny_staged (ns := 100) (uses := (fun i => match i with | 0 => [48] | 1 => [49] | 2 => [50] | 3 => [51] | 4 => [52] | 5 => [53] | 6 => [54] | 7 => [55] | 8 => [56] | 9 => [57] | 10 => [] | 11 => [] | 12 => [3, 59] | _ => [])) (by kernel_rfl) (by kernel_rfl) (fun l a w => (l 11 = false → Below wq.heap.size wq w) ∧ (l 10 = true → l 11 = false → ∃ g, a.tmps.getD 58 undef = .slice (some ⟨g, 0, none⟩) 3 3 ∧ w.heap[g]? = some (.cells #[.int .i64 4, .int .u64 0, .string p.name, .int .i64 3, .int .u64 (IntKind.u64.wrap p.sq), .string ⟨#[]⟩, .int .i64 3, .int .u64 (IntKind.u64.wrap p.off), .string ⟨#[]⟩] 83 (0, 0))) ∧ (l 11 = true → ∃ xo xc, a.tmps.getD 59 undef = .slice xo (LK ++ its).length xc ∧ w.ownsRow B 83 3 (.slice xo (LK ++ its).length xc) (LK ++ its).length (Go.Proofs.YtmkkcgkakomacaaGreat.K.itemCells (LK ++ its)) ∧ Touch (fun j => (Value.slice oo LK.length oc).ownBlock = some j) wq w) ∧ (l 12 = false → a.tmps.getD 3 undef = .slice oo LK.length oc)) ⟨fun _ => (Below.refl _ _).drew, fun e => (by cases e), fun e => (by cases e), fun _ => rfl⟩ (fun i => match i with | 0 => fun s => s 48 = .slice oo LK.length oc | 1 => fun s => s 49 = .pointer (some ⟨rb, 0, none⟩) | 2 => fun s => s 50 = .string p.name | 3 => fun s => s 51 = .agg #[.int .i64 4, .int .u64 0, .string p.name] | 4 => fun s => s 52 = .pointer (some ⟨rb, 1, none⟩) | 5 => fun s => s 53 = .int .i64 p.sq | 6 => fun s => s 54 = .agg #[.int .i64 3, .int .u64 (IntKind.u64.wrap p.sq), .string ⟨#[]⟩] | 7 => fun s => s 55 = .pointer (some ⟨rb, 2, none⟩) | 8 => fun s => s 56 = .int .i64 p.off | 9 => fun s => s 57 = .agg #[.int .i64 3, .int .u64 (IntKind.u64.wrap p.off), .string ⟨#[]⟩] | 10 => fun s => True | 11 => fun s => True | 12 => fun s => s 3 = s 59 | _ => fun _ => True) ?phc ?pstep ?pdone
  case phc =>
    intro i s s' hx h
    match i, hx, h with
    | 0, hx, h => exact (hx 48 (by simp)).symm.trans h
    | 1, hx, h => exact (hx 49 (by simp)).symm.trans h
    | 2, hx, h => exact (hx 50 (by simp)).symm.trans h
    | 3, hx, h => exact (hx 51 (by simp)).symm.trans h
    | 4, hx, h => exact (hx 52 (by simp)).symm.trans h
    | 5, hx, h => exact (hx 53 (by simp)).symm.trans h
    | 6, hx, h => exact (hx 54 (by simp)).symm.trans h
    | 7, hx, h => exact (hx 55 (by simp)).symm.trans h
    | 8, hx, h => exact (hx 56 (by simp)).symm.trans h
    | 9, hx, h => exact (hx 57 (by simp)).symm.trans h
    | 10, hx, h => exact h
    | 11, hx, h => exact h
    | 12, hx, h => exact (hx 3 (by simp)).symm.trans (h.trans (hx 59 (by simp)))
    | (n + 13), _, h => exact h
  case pstep =>
    intro i o ho a' w' l hl hr hq hsa hS hd
    match i, ho, hl, hr, hq with
    | 0, ho, hl, hr, hq =>
      obtain rfl := Option.some.inj ho
      try dsimp only at hd
      have g3 : a'.tmps.getD 3 undef = .slice oo LK.length oc := hS.2.2.2 (hq 12 (by kernel_rfl))
      refine wpOp_of rfl rfl ?_
      refine op_run (v := .slice oo LK.length oc) (w' := w') ?_ ⟨_, rfl, ?_, ⟨fun e => hS.1 ((updL_other l (by decide)).symm.trans e), fun e e2 => by rw [put_getD (by decide)]; exact hS.2.1 ((updL_other l (by decide)).symm.trans e) ((updL_other l (by decide)).symm.trans e2), fun e => by rw [put_getD (by decide)]; exact hS.2.2.1 ((updL_other l (by decide)).symm.trans e), fun e => (put_getD (by decide)).trans (hS.2.2.2 ((updL_other l (by decide)).symm.trans e))⟩⟩
      · simp only [execOp, Act.eval, g3]; first | (go_simp; done) | rfl
      · try dsimp only
        exact (slots_put (ns := 100) (hsa.size.trans rfl) (by decide))
    | 1, ho, hl, hr, hq =>
      obtain rfl := Option.some.inj ho
      try dsimp only at hd
      have g5 : a'.tmps.getD 5 undef = .pointer (some ⟨rb, 0, none⟩) := hsa.rest 5 (by rfl)
      refine wpOp_of rfl rfl ?_
      refine op_run (v := .pointer (some ⟨rb, 0, none⟩)) (w' := w') ?_ ⟨_, rfl, ?_, ⟨fun e => hS.1 ((updL_other l (by decide)).symm.trans e), fun e e2 => by rw [put_getD (by decide)]; exact hS.2.1 ((updL_other l (by decide)).symm.trans e) ((updL_other l (by decide)).symm.trans e2), fun e => by rw [put_getD (by decide)]; exact hS.2.2.1 ((updL_other l (by decide)).symm.trans e), fun e => (put_getD (by decide)).trans (hS.2.2.2 ((updL_other l (by decide)).symm.trans e))⟩⟩
      · simp only [execOp, Act.eval, g5]; first | (go_simp; done) | rfl
      · try dsimp only
        exact (slots_put (ns := 100) (hsa.size.trans rfl) (by decide))
    | 2, ho, hl, hr, hq =>
      obtain rfl := Option.some.inj ho
      try dsimp only at hd
      have d1 : a'.tmps.getD 49 undef = .pointer (some ⟨rb, 0, none⟩) := hd 1 (by rfl)
      refine wpOp_of rfl rfl ?_
      have hb := hS.1 (hq 11 (by kernel_rfl))
      have y := box_cell (Below.at hb hR) 0 rfl
      refine op_run (v := .string p.name) (w' := w') ?_ ⟨_, rfl, ?_, ⟨fun e => hS.1 ((updL_other l (by decide)).symm.trans e), fun e e2 => by rw [put_getD (by decide)]; exact hS.2.1 ((updL_other l (by decide)).symm.trans e) ((updL_other l (by decide)).symm.trans e2), fun e => by rw [put_getD (by decide)]; exact hS.2.2.1 ((updL_other l (by decide)).symm.trans e), fun e => (put_getD (by decide)).trans (hS.2.2.2 ((updL_other l (by decide)).symm.trans e))⟩⟩
      · simp only [execOp, Act.eval, d1, y]; first | (go_simp; done) | rfl
      · try dsimp only
        exact (slots_put (ns := 100) (hsa.size.trans rfl) (by decide))
    | 3, ho, hl, hr, hq =>
      obtain rfl := Option.some.inj ho
      try dsimp only at hd
      have d2 : a'.tmps.getD 50 undef = .string p.name := hd 2 (by rfl)
      refine wpOp_of rfl rfl ?_
      have hb := hS.1 (hq 11 (by kernel_rfl))
      refine op_call 48 _ _ rfl (enters_of Tryz.func48 (by kernel_rfl) rfl) [.string p.name] (by simp only [List.map, Act.eval, d2]) (xtext (p.name) w') ?_
      rintro e w'' ⟨rfl, b2⟩
      refine ⟨_, rfl, _, rfl, ?_, ⟨fun _ => hb.trans (b2.mono hb.size), fun e _ => absurd e (by rw [updL_other l (by decide), hq 10 (by kernel_rfl)]; decide), fun e => absurd e (by rw [updL_other l (by decide), hq 11 (by kernel_rfl)]; decide), fun e => (put_getD (by decide)).trans (hS.2.2.2 ((updL_other l (by decide)).symm.trans e))⟩⟩
      try dsimp only
      exact (slots_put (ns := 100) (hsa.size.trans rfl) (by decide))
    | 4, ho, hl, hr, hq =>
      obtain rfl := Option.some.inj ho
      try dsimp only at hd
      have g5 : a'.tmps.getD 5 undef = .pointer (some ⟨rb, 0, none⟩) := hsa.rest 5 (by rfl)
      refine wpOp_of rfl rfl ?_
      refine op_run (v := .pointer (some ⟨rb, 1, none⟩)) (w' := w') ?_ ⟨_, rfl, ?_, ⟨fun e => hS.1 ((updL_other l (by decide)).symm.trans e), fun e e2 => by rw [put_getD (by decide)]; exact hS.2.1 ((updL_other l (by decide)).symm.trans e) ((updL_other l (by decide)).symm.trans e2), fun e => by rw [put_getD (by decide)]; exact hS.2.2.1 ((updL_other l (by decide)).symm.trans e), fun e => (put_getD (by decide)).trans (hS.2.2.2 ((updL_other l (by decide)).symm.trans e))⟩⟩
      · simp only [execOp, Act.eval, g5]; first | (go_simp; done) | rfl
      · try dsimp only
        exact (slots_put (ns := 100) (hsa.size.trans rfl) (by decide))
    | 5, ho, hl, hr, hq =>
      obtain rfl := Option.some.inj ho
      try dsimp only at hd
      have d4 : a'.tmps.getD 52 undef = .pointer (some ⟨rb, 1, none⟩) := hd 4 (by rfl)
      refine wpOp_of rfl rfl ?_
      have hb := hS.1 (hq 11 (by kernel_rfl))
      have y := box_cell (Below.at hb hR) 1 rfl
      refine op_run (v := .int .i64 p.sq) (w' := w') ?_ ⟨_, rfl, ?_, ⟨fun e => hS.1 ((updL_other l (by decide)).symm.trans e), fun e e2 => by rw [put_getD (by decide)]; exact hS.2.1 ((updL_other l (by decide)).symm.trans e) ((updL_other l (by decide)).symm.trans e2), fun e => by rw [put_getD (by decide)]; exact hS.2.2.1 ((updL_other l (by decide)).symm.trans e), fun e => (put_getD (by decide)).trans (hS.2.2.2 ((updL_other l (by decide)).symm.trans e))⟩⟩
      · simp only [execOp, Act.eval, d4, y]; first | (go_simp; done) | rfl
      · try dsimp only
        exact (slots_put (ns := 100) (hsa.size.trans rfl) (by decide))
    | 6, ho, hl, hr, hq =>
      obtain rfl := Option.some.inj ho
      try dsimp only at hd
      have d5 : a'.tmps.getD 53 undef = .int .i64 p.sq := hd 5 (by rfl)
      refine wpOp_of rfl rfl ?_
      have hb := hS.1 (hq 11 (by kernel_rfl))
      refine op_call 49 _ _ rfl (enters_of Tryz.func49 (by kernel_rfl) rfl) [.int .i64 p.sq] (by simp only [List.map, Act.eval, d5]) (xlong (p.sq) w') ?_
      rintro e w'' ⟨rfl, b2⟩
      refine ⟨_, rfl, _, rfl, ?_, ⟨fun _ => hb.trans (b2.mono hb.size), fun e _ => absurd e (by rw [updL_other l (by decide), hq 10 (by kernel_rfl)]; decide), fun e => absurd e (by rw [updL_other l (by decide), hq 11 (by kernel_rfl)]; decide), fun e => (put_getD (by decide)).trans (hS.2.2.2 ((updL_other l (by decide)).symm.trans e))⟩⟩
      try dsimp only
      exact (slots_put (ns := 100) (hsa.size.trans rfl) (by decide))
    | 7, ho, hl, hr, hq =>
      obtain rfl := Option.some.inj ho
      try dsimp only at hd
      have g5 : a'.tmps.getD 5 undef = .pointer (some ⟨rb, 0, none⟩) := hsa.rest 5 (by rfl)
      refine wpOp_of rfl rfl ?_
      refine op_run (v := .pointer (some ⟨rb, 2, none⟩)) (w' := w') ?_ ⟨_, rfl, ?_, ⟨fun e => hS.1 ((updL_other l (by decide)).symm.trans e), fun e e2 => by rw [put_getD (by decide)]; exact hS.2.1 ((updL_other l (by decide)).symm.trans e) ((updL_other l (by decide)).symm.trans e2), fun e => by rw [put_getD (by decide)]; exact hS.2.2.1 ((updL_other l (by decide)).symm.trans e), fun e => (put_getD (by decide)).trans (hS.2.2.2 ((updL_other l (by decide)).symm.trans e))⟩⟩
      · simp only [execOp, Act.eval, g5]; first | (go_simp; done) | rfl
      · try dsimp only
        exact (slots_put (ns := 100) (hsa.size.trans rfl) (by decide))
    | 8, ho, hl, hr, hq =>
      obtain rfl := Option.some.inj ho
      try dsimp only at hd
      have d7 : a'.tmps.getD 55 undef = .pointer (some ⟨rb, 2, none⟩) := hd 7 (by rfl)
      refine wpOp_of rfl rfl ?_
      have hb := hS.1 (hq 11 (by kernel_rfl))
      have y := box_cell (Below.at hb hR) 2 rfl
      refine op_run (v := .int .i64 p.off) (w' := w') ?_ ⟨_, rfl, ?_, ⟨fun e => hS.1 ((updL_other l (by decide)).symm.trans e), fun e e2 => by rw [put_getD (by decide)]; exact hS.2.1 ((updL_other l (by decide)).symm.trans e) ((updL_other l (by decide)).symm.trans e2), fun e => by rw [put_getD (by decide)]; exact hS.2.2.1 ((updL_other l (by decide)).symm.trans e), fun e => (put_getD (by decide)).trans (hS.2.2.2 ((updL_other l (by decide)).symm.trans e))⟩⟩
      · simp only [execOp, Act.eval, d7, y]; first | (go_simp; done) | rfl
      · try dsimp only
        exact (slots_put (ns := 100) (hsa.size.trans rfl) (by decide))
    | 9, ho, hl, hr, hq =>
      obtain rfl := Option.some.inj ho
      try dsimp only at hd
      have d8 : a'.tmps.getD 56 undef = .int .i64 p.off := hd 8 (by rfl)
      refine wpOp_of rfl rfl ?_
      have hb := hS.1 (hq 11 (by kernel_rfl))
      refine op_call 49 _ _ rfl (enters_of Tryz.func49 (by kernel_rfl) rfl) [.int .i64 p.off] (by simp only [List.map, Act.eval, d8]) (xlong (p.off) w') ?_
      rintro e w'' ⟨rfl, b2⟩
      refine ⟨_, rfl, _, rfl, ?_, ⟨fun _ => hb.trans (b2.mono hb.size), fun e _ => absurd e (by rw [updL_other l (by decide), hq 10 (by kernel_rfl)]; decide), fun e => absurd e (by rw [updL_other l (by decide), hq 11 (by kernel_rfl)]; decide), fun e => (put_getD (by decide)).trans (hS.2.2.2 ((updL_other l (by decide)).symm.trans e))⟩⟩
      try dsimp only
      exact (slots_put (ns := 100) (hsa.size.trans rfl) (by decide))
    | 10, ho, hl, hr, hq =>
      obtain rfl := Option.some.inj ho
      try dsimp only at hd
      have d3 : a'.tmps.getD 51 undef = .agg #[.int .i64 4, .int .u64 0, .string p.name] := hd 3 (by rfl)
      have d6 : a'.tmps.getD 54 undef = .agg #[.int .i64 3, .int .u64 (IntKind.u64.wrap p.sq), .string ⟨#[]⟩] := hd 6 (by rfl)
      have d9 : a'.tmps.getD 57 undef = .agg #[.int .i64 3, .int .u64 (IntKind.u64.wrap p.off), .string ⟨#[]⟩] := hd 9 (by rfl)
      refine wpOp_of rfl rfl ?_
      have hb := hS.1 (hq 11 (by kernel_rfl))
      refine op_run (v := Value.slice (some ⟨w'.heap.size, 0, none⟩) 3 3) (w' := w'.alloc (.cells #[.int .i64 4, .int .u64 0, .string p.name, .int .i64 3, .int .u64 (IntKind.u64.wrap p.sq), .string ⟨#[]⟩, .int .i64 3, .int .u64 (IntKind.u64.wrap p.off), .string ⟨#[]⟩] 83)) ?_ ⟨_, rfl, trivial, ⟨fun _ => hb.alloc hb.size _, fun _ _ => ⟨_, (slots_put (ns := 100) (hsa.size.trans rfl) (by decide)), heap_alloc_new _ _⟩, fun e => absurd e (by rw [updL_other l (by decide), hq 11 (by kernel_rfl)]; decide), fun e => (put_getD (by decide)).trans (hS.2.2.2 ((updL_other l (by decide)).symm.trans e))⟩⟩
      simp only [execOp, Act.eval, List.map_toArray, List.map_cons, List.map_nil, d3, d6, d9]; first | (go_simp; done) | rfl
    | 11, ho, hl, hr, hq =>
      obtain rfl := Option.some.inj ho
      try dsimp only at hd
      have d0 : a'.tmps.getD 48 undef = .slice oo LK.length oc := hd 0 (by rfl)
      refine wpOp_of rfl rfl ?_
      have hb := hS.1 hl
      obtain ⟨g, eg, hg⟩ := hS.2.1 (hr 10 (by kernel_rfl)) hl
      have hrow2 := below_row hb hrow
      obtain ⟨xo, xc, w2, hrun, hx, hgr⟩ := xapp (m := 3) (its := its) hrow2 hg (by rw [hits]; rfl) (by rw [hits]; simp only [e_psq, e_poff]; rfl) (by decide) (by omega) (Nat.le_trans hB0 hb.size)
      refine op_run (v := .slice xo (LK ++ its).length xc) (w' := w2) ?_ ⟨_, rfl, trivial, ⟨fun e => absurd e (by rw [updL_same]; decide), fun _ e => absurd e (by rw [updL_same]; decide), fun _ => ⟨xo, xc, (slots_put (ns := 100) (hsa.size.trans rfl) (by decide)), hx, (Touch.of_below hb).grown hgr (fun k hk _ => hk)⟩, fun e => (put_getD (by decide)).trans (hS.2.2.2 ((updL_other l (by decide)).symm.trans e))⟩⟩
      unfold execOp; simp only [resolve, invoke, builtin, Sem.run_bind, Sem.run_pure, Result.andThen_ok, List.map_toArray, List.map_cons, List.map_nil, Act.eval, eg, d0, hrun]
    | 12, ho, hl, hr, hq =>
      obtain rfl := Option.some.inj ho
      try dsimp only at hd
      refine wpOp_of rfl rfl ?_
      obtain ⟨xo, xc, ex, hx⟩ := hS.2.2.1 (hr 11 (by kernel_rfl))
      refine op_run (v := .slice xo (LK ++ its).length xc) (w' := w') ?_ ⟨_, rfl, ?_, ⟨fun e => hS.1 ((updL_other l (by decide)).symm.trans e), fun e e2 => by rw [put_getD (by decide)]; exact hS.2.1 ((updL_other l (by decide)).symm.trans e) ((updL_other l (by decide)).symm.trans e2), fun e => by rw [put_getD (by decide)]; exact hS.2.2.1 ((updL_other l (by decide)).symm.trans e), fun e => absurd e (by rw [updL_same]; decide)⟩⟩
      · simp only [execOp, Act.eval, ex]; first | (go_simp; done) | rfl
      · exact ((slots_put (ns := 100) (hsa.size.trans rfl) (by decide)) : slots _ 3 = _).trans ((put_getD (by decide)).trans ex).symm
    | (n + 13), ho, _, _, _ => exact absurd ho (by simp)
  case pdone =>
    intro a' w' l hl hsa hS hd
    have dq : a'.tmps.getD 3 undef = a'.tmps.getD 59 undef := hd 12 (by decide)
    obtain ⟨xo, xc, ex, hx, ht⟩ := hS.2.2.1 (hl 11 (by decide))
    exact HQ.out a' w' xo xc ⟨hsa.size.trans rfl, hsa.defers.trans rfl, hsa.rest 0 (by rfl), hsa.rest 2 (by rfl), dq.trans ex, hsa.rest 4 (by rfl), hsa.rest 5 (by rfl), hsa.rest 6 (by rfl), hsa.rest 7 (by rfl), hsa.rest 8 (by rfl)⟩ hx ht
theorem xd_r11 {K : Act → World → Prop} {c : Code} (hc : regOf (Tryz.f21.body.getD .skip) 11 = some c) (a : Act) {v : Vxd} {wq : World} {rb B oc : Nat} {oo : Option Addr} {LK its : List Go.Proofs.YtmkkcgkakomacaaGreat.K.It} {r : Rec} (hF : Fxd a v) (h3v : v.v3 = .slice oo LK.length oc) (h7v : v.v7 = .pointer (some ⟨rb, 0, none⟩)) (hR : wq.heap[rb]? = some (.cells #[.int .i64 r.off, .string r.prod, .int .i64 r.seq, .string r.key, .string r.val] 39 (0, 0))) (hrow : wq.ownsRow B 83 3 (.slice oo LK.length oc) LK.length (Go.Proofs.YtmkkcgkakomacaaGreat.K.itemCells LK)) (hB0 : B ≤ wq.heap.size) (hl : LK.length ≤ 900000) (hits : its = itemsY r) (h1 : 0 ≤ r.off) (h2 : r.off ≤ 9223372036854775807) (h3 : 0 ≤ r.seq) (h4 : r.seq ≤ 9223372036854775807)
    (hQ : ∀ a' w' xo xc, Fxd a' { v with v3 := .slice xo (LK ++ its).length xc } → w'.ownsRow B 83 3 (.slice xo (LK ++ its).length xc) (LK ++ its).length (Go.Proofs.YtmkkcgkakomacaaGreat.K.itemCells (LK ++ its)) → Touch (fun j => (Value.slice oo LK.length oc).ownBlock = some j) wq w' → K a' w') :
    Code.wp Tryz.prog c (Exit.then K fun _ _ _ => False) a wq := by
  have HQ := hide hQ
  clear hQ
  obtain ⟨v0, v2, v3, v4, v5, v6, v7, v8⟩ := v
  simp only at h3v h7v HQ
  subst h3v h7v
  obtain ⟨u, rfl⟩ := frx_xd hF
  clear hF
  simp only [Tryz.f21, Option.getD_some, regOf] at hc
  injection hc with hc
  subst hc
  have e_roff : IntKind.u64.wrap r.off = r.off := by rw [IntKind.wrap_u64]; omega
  have e_rseq : IntKind.u64.wrap r.seq = r.seq := by rw [IntKind.wrap_u64]; omega
  refine wp_region_any rfl ?_
  refine wpAny_staged (ns := 100) (uses := (fun i => match i with | 0 => [76] | 1 => [77] | 2 => [78] | 3 => [79] | 4 => [80] | 5 => [81] | 6 => [82] | 7 => [83] | 8 => [84] | 9 => [85] | 10 => [86] | 11 => [87] | 12 => [88] | 13 => [89] | 14 => [90] | 15 => [91] | 16 => [] | 17 => [] | 18 => [3, 93] | _ => [])) (by kernel_rfl) (by kernel_rfl) (fun l a w => (l 17 = false → Below wq.heap.size wq w) ∧ (l 16 = true → l 17 = false → ∃ g, a.tmps.getD 92 undef = .slice (some ⟨g, 0, none⟩) 5 5 ∧ w.heap[g]? = some (.cells #[.int .i64 3, .int .u64 (IntKind.u64.wrap r.off), .string ⟨#[]⟩, .int .i64 4, .int .u64 0, .string r.prod, .int .i64 3, .int .u64 (IntKind.u64.wrap r.seq), .string ⟨#[]⟩, .int .i64 4, .int .u64 0, .string r.key, .int .i64 4, .int .u64 0, .string r.val] 83 (0, 0))) ∧ (l 17 = true → ∃ xo xc, a.tmps.getD 93 undef = .slice xo (LK ++ its).length xc ∧ w.ownsRow B 83 3 (.slice xo (LK ++ its).length xc) (LK ++ its).length (Go.Proofs.YtmkkcgkakomacaaGreat.K.itemCells (LK ++ its)) ∧ Touch (fun j => (Value.slice oo LK.length oc).ownBlock = some j) wq w) ∧ (l 18 = false → a.tmps.getD 3 undef = .slice oo LK.length oc)) ⟨fun _ => (Below.refl _ _).drew, fun e => (by cases e), fun e => (by cases e), fun _ => rfl⟩ (fun i => match i with | 0 => fun s => s 76 = .slice oo LK.length oc | 1 => fun s => s 77 = .pointer (some ⟨rb, 0, none⟩) | 2 => fun s => s 78 = .int .i64 r.off | 3 => fun s => s 79 = .agg #[.int .i64 3, .int .u64 (IntKind.u64.wrap r.off), .string ⟨#[]⟩] | 4 => fun s => s 80 = .pointer (some ⟨rb, 1, none⟩) | 5 => fun s => s 81 = .string r.prod | 6 => fun s => s 82 = .agg #[.int .i64 4, .int .u64 0, .string r.prod] | 7 => fun s => s 83 = .pointer (some ⟨rb, 2, none⟩) | 8 => fun s => s 84 = .int .i64 r.seq | 9 => fun s => s 85 = .agg #[.int .i64 3, .int .u64 (IntKind.u64.wrap r.seq), .string ⟨#[]⟩] | 10 => fun s => s 86 = .pointer (some ⟨rb, 3, none⟩) | 11 => fun s => s 87 = .string r.key | 12 => fun s => s 88 = .agg #[.int .i64 4, .int .u64 0, .string r.key] | 13 => fun s => s 89 = .pointer (some ⟨rb, 4, none⟩) | 14 => fun s => s 90 = .string r.val | 15 => fun s => s 91 = .agg #[.int .i64 4, .int .u64 0, .string r.val] | 16 => fun s => True | 17 => fun s => True | 18 => fun s => s 3 = s 93 | _ => fun _ => True) ?phc ?pstep ?pdone
  case phc =>
    intro i s s' hx h
    match i, hx, h with
    | 0, hx, h => exact (hx 76 (by simp)).symm.trans h
    | 1, hx, h => exact (hx 77 (by simp)).symm.trans h
    | 2, hx, h => exact (hx 78 (by simp)).symm.trans h
    | 3, hx, h => exact (hx 79 (by simp)).symm.trans h
    | 4, hx, h => exact (hx 80 (by simp)).symm.trans h
    | 5, hx, h => exact (hx 81 (by simp)).symm.trans h
    | 6, hx, h => exact (hx 82 (by simp)).symm.trans h
    | 7, hx, h => exact (hx 83 (by simp)).symm.trans h
    | 8, hx, h => exact (hx 84 (by simp)).symm.trans h
    | 9, hx, h => exact (hx 85 (by simp)).symm.trans h
    | 10, hx, h => exact (hx 86 (by simp)).symm.trans h
    | 11, hx, h => exact (hx 87 (by simp)).symm.trans h
    | 12, hx, h => exact (hx 88 (by simp)).symm.trans h
    | 13, hx, h => exact (hx 89 (by simp)).symm.trans h
    | 14, hx, h => exact (hx 90 (by simp)).symm.trans h
    | 15, hx, h => exact (hx 91 (by simp)).symm.trans h
    | 16, hx, h => exact h
    | 17, hx, h => exact h
    | 18, hx, h => exact (hx 3 (by simp)).symm.trans (h.trans (hx 93 (by simp)))
    | (n + 19), _, h => exact h
  case pstep =>
    intro i o ho a' w' l hl hr hq hsa hS hd
    match i, ho, hl, hr, hq with
    | 0, ho, hl, hr, hq =>
      obtain rfl := Option.some.inj ho
      try dsimp only at hd
      have g3 : a'.tmps.getD 3 undef = .slice oo LK.length oc := hS.2.2.2 (hq 18 (by kernel_rfl))
      refine wpOp_of rfl rfl ?_
      refine op_run (v := .slice oo LK.length oc) (w' := w') ?_ ⟨_, rfl, ?_, ⟨fun e => hS.1 ((updL_other l (by decide)).symm.trans e), fun e e2 => by rw [put_getD (by decide)]; exact hS.2.1 ((updL_other l (by decide)).symm.trans e) ((updL_other l (by decide)).symm.trans e2), fun e => by rw [put_getD (by decide)]; exact hS.2.2.1 ((updL_other l (by decide)).symm.trans e), fun e => (put_getD (by decide)).trans (hS.2.2.2 ((updL_other l (by decide)).symm.trans e))⟩⟩
      · simp only [execOp, Act.eval, g3]; first | (go_simp; done) | rfl
      · try dsimp only
        exact (slots_put (ns := 100) (hsa.size.trans rfl) (by decide))
    | 1, ho, hl, hr, hq =>
      obtain rfl := Option.some.inj ho
      try dsimp only at hd
      have g7 : a'.tmps.getD 7 undef = .pointer (some ⟨rb, 0, none⟩) := hsa.rest 7 (by rfl)
      refine wpOp_of rfl rfl ?_
      refine op_run (v := .pointer (some ⟨rb, 0, none⟩)) (w' := w') ?_ ⟨_, rfl, ?_, ⟨fun e => hS.1 ((updL_other l (by decide)).symm.trans e), fun e e2 => by rw [put_getD (by decide)]; exact hS.2.1 ((updL_other l (by decide)).symm.trans e) ((updL_other l (by decide)).symm.trans e2), fun e => by rw [put_getD (by decide)]; exact hS.2.2.1 ((updL_other l (by decide)).symm.trans e), fun e => (put_getD (by decide)).trans (hS.2.2.2 ((updL_other l (by decide)).symm.trans e))⟩⟩
      · simp only [execOp, Act.eval, g7]; first | (go_simp; done) | rfl
      · try dsimp only
        exact (slots_put (ns := 100) (hsa.size.trans rfl) (by decide))
    | 2, ho, hl, hr, hq =>
      obtain rfl := Option.some.inj ho
      try dsimp only at hd
      have d1 : a'.tmps.getD 77 undef = .pointer (some ⟨rb, 0, none⟩) := hd 1 (by rfl)
      refine wpOp_of rfl rfl ?_
      have hb := hS.1 (hq 17 (by kernel_rfl))
      have y := box_cell (Below.at hb hR) 0 rfl
      refine op_run (v := .int .i64 r.off) (w' := w') ?_ ⟨_, rfl, ?_, ⟨fun e => hS.1 ((updL_other l (by decide)).symm.trans e), fun e e2 => by rw [put_getD (by decide)]; exact hS.2.1 ((updL_other l (by decide)).symm.trans e) ((updL_other l (by decide)).symm.trans e2), fun e => by rw [put_getD (by decide)]; exact hS.2.2.1 ((updL_other l (by decide)).symm.trans e), fun e => (put_getD (by decide)).trans (hS.2.2.2 ((updL_other l (by decide)).symm.trans e))⟩⟩
      · simp only [execOp, Act.eval, d1, y]; first | (go_simp; done) | rfl
      · try dsimp only
        exact (slots_put (ns := 100) (hsa.size.trans rfl) (by decide))
    | 3, ho, hl, hr, hq =>
      obtain rfl := Option.some.inj ho
      try dsimp only at hd
      have d2 : a'.tmps.getD 78 undef = .int .i64 r.off := hd 2 (by rfl)
      refine wpOp_of rfl rfl ?_
      have hb := hS.1 (hq 17 (by kernel_rfl))
      refine op_call 49 _ _ rfl (enters_of Tryz.func49 (by kernel_rfl) rfl) [.int .i64 r.off] (by simp only [List.map, Act.eval, d2]) (xlong (r.off) w') ?_
      rintro e w'' ⟨rfl, b2⟩
      refine ⟨_, rfl, _, rfl, ?_, ⟨fun _ => hb.trans (b2.mono hb.size), fun e _ => absurd e (by rw [updL_other l (by decide), hq 16 (by kernel_rfl)]; decide), fun e => absurd e (by rw [updL_other l (by decide), hq 17 (by kernel_rfl)]; decide), fun e => (put_getD (by decide)).trans (hS.2.2.2 ((updL_other l (by decide)).symm.trans e))⟩⟩
      try dsimp only
      exact (slots_put (ns := 100) (hsa.size.trans rfl) (by decide))
    | 4, ho, hl, hr, hq =>
      obtain rfl := Option.some.inj ho
      try dsimp only at hd
      have g7 : a'.tmps.getD 7 undef = .pointer (some ⟨rb, 0, none⟩) := hsa.rest 7 (by rfl)
      refine wpOp_of rfl rfl ?_
      refine op_run (v := .pointer (some ⟨rb, 1, none⟩)) (w' := w') ?_ ⟨_, rfl, ?_, ⟨fun e => hS.1 ((updL_other l (by decide)).symm.trans e), fun e e2 => by rw [put_getD (by decide)]; exact hS.2.1 ((updL_other l (by decide)).symm.trans e) ((updL_other l (by decide)).symm.trans e2), fun e => by rw [put_getD (by decide)]; exact hS.2.2.1 ((updL_other l (by decide)).symm.trans e), fun e => (put_getD (by decide)).trans (hS.2.2.2 ((updL_other l (by decide)).symm.trans e))⟩⟩
      · simp only [execOp, Act.eval, g7]; first | (go_simp; done) | rfl
      · try dsimp only
        exact (slots_put (ns := 100) (hsa.size.trans rfl) (by decide))
    | 5, ho, hl, hr, hq =>
      obtain rfl := Option.some.inj ho
      try dsimp only at hd
      have d4 : a'.tmps.getD 80 undef = .pointer (some ⟨rb, 1, none⟩) := hd 4 (by rfl)
      refine wpOp_of rfl rfl ?_
      have hb := hS.1 (hq 17 (by kernel_rfl))
      have y := box_cell (Below.at hb hR) 1 rfl
      refine op_run (v := .string r.prod) (w' := w') ?_ ⟨_, rfl, ?_, ⟨fun e => hS.1 ((updL_other l (by decide)).symm.trans e), fun e e2 => by rw [put_getD (by decide)]; exact hS.2.1 ((updL_other l (by decide)).symm.trans e) ((updL_other l (by decide)).symm.trans e2), fun e => by rw [put_getD (by decide)]; exact hS.2.2.1 ((updL_other l (by decide)).symm.trans e), fun e => (put_getD (by decide)).trans (hS.2.2.2 ((updL_other l (by decide)).symm.trans e))⟩⟩
      · simp only [execOp, Act.eval, d4, y]; first | (go_simp; done) | rfl
      · try dsimp only
        exact (slots_put (ns := 100) (hsa.size.trans rfl) (by decide))
    | 6, ho, hl, hr, hq =>
      obtain rfl := Option.some.inj ho
      try dsimp only at hd
      have d5 : a'.tmps.getD 81 undef = .string r.prod := hd 5 (by rfl)
      refine wpOp_of rfl rfl ?_
      have hb := hS.1 (hq 17 (by kernel_rfl))
      refine op_call 48 _ _ rfl (enters_of Tryz.func48 (by kernel_rfl) rfl) [.string r.prod] (by simp only [List.map, Act.eval, d5]) (xtext (r.prod) w') ?_
      rintro e w'' ⟨rfl, b2⟩
      refine ⟨_, rfl, _, rfl, ?_, ⟨fun _ => hb.trans (b2.mono hb.size), fun e _ => absurd e (by rw [updL_other l (by decide), hq 16 (by kernel_rfl)]; decide), fun e => absurd e (by rw [updL_other l (by decide), hq 17 (by kernel_rfl)]; decide), fun e => (put_getD (by decide)).trans (hS.2.2.2 ((updL_other l (by decide)).symm.trans e))⟩⟩
      try dsimp only
      exact (slots_put (ns := 100) (hsa.size.trans rfl) (by decide))
    | 7, ho, hl, hr, hq =>
      obtain rfl := Option.some.inj ho
      try dsimp only at hd
      have g7 : a'.tmps.getD 7 undef = .pointer (some ⟨rb, 0, none⟩) := hsa.rest 7 (by rfl)
      refine wpOp_of rfl rfl ?_
      refine op_run (v := .pointer (some ⟨rb, 2, none⟩)) (w' := w') ?_ ⟨_, rfl, ?_, ⟨fun e => hS.1 ((updL_other l (by decide)).symm.trans e), fun e e2 => by rw [put_getD (by decide)]; exact hS.2.1 ((updL_other l (by decide)).symm.trans e) ((updL_other l (by decide)).symm.trans e2), fun e => by rw [put_getD (by decide)]; exact hS.2.2.1 ((updL_other l (by decide)).symm.trans e), fun e => (put_getD (by decide)).trans (hS.2.2.2 ((updL_other l (by decide)).symm.trans e))⟩⟩
      · simp only [execOp, Act.eval, g7]; first | (go_simp; done) | rfl
      · try dsimp only
        exact (slots_put (ns := 100) (hsa.size.trans rfl) (by decide))
    | 8, ho, hl, hr, hq =>
      obtain rfl := Option.some.inj ho
      try dsimp only at hd
      have d7 : a'.tmps.getD 83 undef = .pointer (some ⟨rb, 2, none⟩) := hd 7 (by rfl)
      refine wpOp_of rfl rfl ?_
      have hb := hS.1 (hq 17 (by kernel_rfl))
      have y := box_cell (Below.at hb hR) 2 rfl
      refine op_run (v := .int .i64 r.seq) (w' := w') ?_ ⟨_, rfl, ?_, ⟨fun e => hS.1 ((updL_other l (by decide)).symm.trans e), fun e e2 => by rw [put_getD (by decide)]; exact hS.2.1 ((updL_other l (by decide)).symm.trans e) ((updL_other l (by decide)).symm.trans e2), fun e => by rw [put_getD (by decide)]; exact hS.2.2.1 ((updL_other l (by decide)).symm.trans e), fun e => (put_getD (by decide)).trans (hS.2.2.2 ((updL_other l (by decide)).symm.trans e))⟩⟩
      · simp only [execOp, Act.eval, d7, y]; first | (go_simp; done) | rfl
      · try dsimp only
        exact (slots_put (ns := 100) (hsa.size.trans rfl) (by decide))
    | 9, ho, hl, hr, hq =>
      obtain rfl := Option.some.inj ho
      try dsimp only at hd
      have d8 : a'.tmps.getD 84 undef = .int .i64 r.seq := hd 8 (by rfl)
      refine wpOp_of rfl rfl ?_
      have hb := hS.1 (hq 17 (by kernel_rfl))
      refine op_call 49 _ _ rfl (enters_of Tryz.func49 (by kernel_rfl) rfl) [.int .i64 r.seq] (by simp only [List.map, Act.eval, d8]) (xlong (r.seq) w') ?_
      rintro e w'' ⟨rfl, b2⟩
      refine ⟨_, rfl, _, rfl, ?_, ⟨fun _ => hb.trans (b2.mono hb.size), fun e _ => absurd e (by rw [updL_other l (by decide), hq 16 (by kernel_rfl)]; decide), fun e => absurd e (by rw [updL_other l (by decide), hq 17 (by kernel_rfl)]; decide), fun e => (put_getD (by decide)).trans (hS.2.2.2 ((updL_other l (by decide)).symm.trans e))⟩⟩
      try dsimp only
      exact (slots_put (ns := 100) (hsa.size.trans rfl) (by decide))
    | 10, ho, hl, hr, hq =>
      obtain rfl := Option.some.inj ho
      try dsimp only at hd
      have g7 : a'.tmps.getD 7 undef = .pointer (some ⟨rb, 0, none⟩) := hsa.rest 7 (by rfl)
      refine wpOp_of rfl rfl ?_
      refine op_run (v := .pointer (some ⟨rb, 3, none⟩)) (w' := w') ?_ ⟨_, rfl, ?_, ⟨fun e => hS.1 ((updL_other l (by decide)).symm.trans e), fun e e2 => by rw [put_getD (by decide)]; exact hS.2.1 ((updL_other l (by decide)).symm.trans e) ((updL_other l (by decide)).symm.trans e2), fun e => by rw [put_getD (by decide)]; exact hS.2.2.1 ((updL_other l (by decide)).symm.trans e), fun e => (put_getD (by decide)).trans (hS.2.2.2 ((updL_other l (by decide)).symm.trans e))⟩⟩
      · simp only [execOp, Act.eval, g7]; first | (go_simp; done) | rfl
      · try dsimp only
        exact (slots_put (ns := 100) (hsa.size.trans rfl) (by decide))
    | 11, ho, hl, hr, hq =>
      obtain rfl := Option.some.inj ho
      try dsimp only at hd
      have d10 : a'.tmps.getD 86 undef = .pointer (some ⟨rb, 3, none⟩) := hd 10 (by rfl)
      refine wpOp_of rfl rfl ?_
      have hb := hS.1 (hq 17 (by kernel_rfl))
      have y := box_cell (Below.at hb hR) 3 rfl
      refine op_run (v := .string r.key) (w' := w') ?_ ⟨_, rfl, ?_, ⟨fun e => hS.1 ((updL_other l (by decide)).symm.trans e), fun e e2 => by rw [put_getD (by decide)]; exact hS.2.1 ((updL_other l (by decide)).symm.trans e) ((updL_other l (by decide)).symm.trans e2), fun e => by rw [put_getD (by decide)]; exact hS.2.2.1 ((updL_other l (by decide)).symm.trans e), fun e => (put_getD (by decide)).trans (hS.2.2.2 ((updL_other l (by decide)).symm.trans e))⟩⟩
      · simp only [execOp, Act.eval, d10, y]; first | (go_simp; done) | rfl
      · try dsimp only
        exact (slots_put (ns := 100) (hsa.size.trans rfl) (by decide))
    | 12, ho, hl, hr, hq =>
      obtain rfl := Option.some.inj ho
      try dsimp only at hd
      have d11 : a'.tmps.getD 87 undef = .string r.key := hd 11 (by rfl)
      refine wpOp_of rfl rfl ?_
      have hb := hS.1 (hq 17 (by kernel_rfl))
      refine op_call 48 _ _ rfl (enters_of Tryz.func48 (by kernel_rfl) rfl) [.string r.key] (by simp only [List.map, Act.eval, d11]) (xtext (r.key) w') ?_
      rintro e w'' ⟨rfl, b2⟩
      refine ⟨_, rfl, _, rfl, ?_, ⟨fun _ => hb.trans (b2.mono hb.size), fun e _ => absurd e (by rw [updL_other l (by decide), hq 16 (by kernel_rfl)]; decide), fun e => absurd e (by rw [updL_other l (by decide), hq 17 (by kernel_rfl)]; decide), fun e => (put_getD (by decide)).trans (hS.2.2.2 ((updL_other l (by decide)).symm.trans e))⟩⟩
      try dsimp only
      exact (slots_put (ns := 100) (hsa.size.trans rfl) (by decide))
    | 13, ho, hl, hr, hq =>
      obtain rfl := Option.some.inj ho
      try dsimp only at hd
      have g7 : a'.tmps.getD 7 undef = .pointer (some ⟨rb, 0, none⟩) := hsa.rest 7 (by rfl)
      refine wpOp_of rfl rfl ?_
      refine op_run (v := .pointer (some ⟨rb, 4, none⟩)) (w' := w') ?_ ⟨_, rfl, ?_, ⟨fun e => hS.1 ((updL_other l (by decide)).symm.trans e), fun e e2 => by rw [put_getD (by decide)]; exact hS.2.1 ((updL_other l (by decide)).symm.trans e) ((updL_other l (by decide)).symm.trans e2), fun e => by rw [put_getD (by decide)]; exact hS.2.2.1 ((updL_other l (by decide)).symm.trans e), fun e => (put_getD (by decide)).trans (hS.2.2.2 ((updL_other l (by decide)).symm.trans e))⟩⟩
      · simp only [execOp, Act.eval, g7]; first | (go_simp; done) | rfl
      · try dsimp only
        exact (slots_put (ns := 100) (hsa.size.trans rfl) (by decide))
    | 14, ho, hl, hr, hq =>
      obtain rfl := Option.some.inj ho
      try dsimp only at hd
      have d13 : a'.tmps.getD 89 undef = .pointer (some ⟨rb, 4, none⟩) := hd 13 (by rfl)
      refine wpOp_of rfl rfl ?_
      have hb := hS.1 (hq 17 (by kernel_rfl))
      have y := box_cell (Below.at hb hR) 4 rfl
      refine op_run (v := .string r.val) (w' := w') ?_ ⟨_, rfl, ?_, ⟨fun e => hS.1 ((updL_other l (by decide)).symm.trans e), fun e e2 => by rw [put_getD (by decide)]; exact hS.2.1 ((updL_other l (by decide)).symm.trans e) ((updL_other l (by decide)).symm.trans e2), fun e => by rw [put_getD (by decide)]; exact hS.2.2.1 ((updL_other l (by decide)).symm.trans e), fun e => (put_getD (by decide)).trans (hS.2.2.2 ((updL_other l (by decide)).symm.trans e))⟩⟩
      · simp only [execOp, Act.eval, d13, y]; first | (go_simp; done) | rfl
      · try dsimp only
        exact (slots_put (ns := 100) (hsa.size.trans rfl) (by decide))
    | 15, ho, hl, hr, hq =>
      obtain rfl := Option.some.inj ho
      try dsimp only at hd
      have d14 : a'.tmps.getD 90 undef = .string r.val := hd 14 (by rfl)
      refine wpOp_of rfl rfl ?_
      have hb := hS.1 (hq 17 (by kernel_rfl))
      refine op_call 48 _ _ rfl (enters_of Tryz.func48 (by kernel_rfl) rfl) [.string r.val] (by simp only [List.map, Act.eval, d14]) (xtext (r.val) w') ?_
      rintro e w'' ⟨rfl, b2⟩
      refine ⟨_, rfl, _, rfl, ?_, ⟨fun _ => hb.trans (b2.mono hb.size), fun e _ => absurd e (by rw [updL_other l (by decide), hq 16 (by kernel_rfl)]; decide), fun e => absurd e (by rw [updL_other l (by decide), hq 17 (by kernel_rfl)]; decide), fun e => (put_getD (by decide)).trans (hS.2.2.2 ((updL_other l (by decide)).symm.trans e))⟩⟩
      try dsimp only
      exact (slots_put (ns := 100) (hsa.size.trans rfl) (by decide))
    | 16, ho, hl, hr, hq =>
      obtain rfl := Option.some.inj ho
      try dsimp only at hd
      have d3 : a'.tmps.getD 79 undef = .agg #[.int .i64 3, .int .u64 (IntKind.u64.wrap r.off), .string ⟨#[]⟩] := hd 3 (by rfl)
      have d6 : a'.tmps.getD 82 undef = .agg #[.int .i64 4, .int .u64 0, .string r.prod] := hd 6 (by rfl)
      have d9 : a'.tmps.getD 85 undef = .agg #[.int .i64 3, .int .u64 (IntKind.u64.wrap r.seq), .string ⟨#[]⟩] := hd 9 (by rfl)
      have d12 : a'.tmps.getD 88 undef = .agg #[.int .i64 4, .int .u64 0, .string r.key] := hd 12 (by rfl)
      have d15 : a'.tmps.getD 91 undef = .agg #[.int .i64 4, .int .u64 0, .string r.val] := hd 15 (by rfl)
      refine wpOp_of rfl rfl ?_
      have hb := hS.1 (hq 17 (by kernel_rfl))
      refine op_run (v := Value.slice (some ⟨w'.heap.size, 0, none⟩) 5 5) (w' := w'.alloc (.cells #[.int .i64 3, .int .u64 (IntKind.u64.wrap r.off), .string ⟨#[]⟩, .int .i64 4, .int .u64 0, .string r.prod, .int .i64 3, .int .u64 (IntKind.u64.wrap r.seq), .string ⟨#[]⟩, .int .i64 4, .int .u64 0, .string r.key, .int .i64 4, .int .u64 0, .string r.val] 83)) ?_ ⟨_, rfl, trivial, ⟨fun _ => hb.alloc hb.size _, fun _ _ => ⟨_, (slots_put (ns := 100) (hsa.size.trans rfl) (by decide)), heap_alloc_new _ _⟩, fun e => absurd e (by rw [updL_other l (by decide), hq 17 (by kernel_rfl)]; decide), fun e => (put_getD (by decide)).trans (hS.2.2.2 ((updL_other l (by decide)).symm.trans e))⟩⟩
      simp only [execOp, Act.eval, List.map_toArray, List.map_cons, List.map_nil, d3, d6, d9, d12, d15]; first | (go_simp; done) | rfl
    | 17, ho, hl, hr, hq =>
      obtain rfl := Option.some.inj ho
      try dsimp only at hd
      have d0 : a'.tmps.getD 76 undef = .slice oo LK.length oc := hd 0 (by rfl)
      refine wpOp_of rfl rfl ?_
      have hb := hS.1 hl
      obtain ⟨g, eg, hg⟩ := hS.2.1 (hr 16 (by kernel_rfl)) hl
      have hrow2 := below_row hb hrow
      obtain ⟨xo, xc, w2, hrun, hx, hgr⟩ := xapp (m := 5) (its := its) hrow2 hg (by rw [hits]; rfl) (by rw [hits]; simp only [e_roff, e_rseq]; rfl) (by decide) (by omega) (Nat.le_trans hB0 hb.size)
      refine op_run (v := .slice xo (LK ++ its).length xc) (w' := w2) ?_ ⟨_, rfl, trivial, ⟨fun e => absurd e (by rw [updL_same]; decide), fun _ e => absurd e (by rw [updL_same]; decide), fun _ => ⟨xo, xc, (slots_put (ns := 100) (hsa.size.trans rfl) (by decide)), hx, (Touch.of_below hb).grown hgr (fun k hk _ => hk)⟩, fun e => (put_getD (by decide)).trans (hS.2.2.2 ((updL_other l (by decide)).symm.trans e))⟩⟩
      unfold execOp; simp only [resolve, invoke, builtin, Sem.run_bind, Sem.run_pure, Result.andThen_ok, List.map_toArray, List.map_cons, List.map_nil, Act.eval, eg, d0, hrun]
    | 18, ho, hl, hr, hq =>
      obtain rfl := Option.some.inj ho
      try dsimp only at hd
      refine wpOp_of rfl rfl ?_
      obtain ⟨xo, xc, ex, hx⟩ := hS.2.2.1 (hr 17 (by kernel_rfl))
      refine op_run (v := .slice xo (LK ++ its).length xc) (w' := w') ?_ ⟨_, rfl, ?_, ⟨fun e => hS.1 ((updL_other l (by decide)).symm.trans e), fun e e2 => by rw [put_getD (by decide)]; exact hS.2.1 ((updL_other l (by decide)).symm.trans e) ((updL_other l (by decide)).symm.trans e2), fun e => by rw [put_getD (by decide)]; exact hS.2.2.1 ((updL_other l (by decide)).symm.trans e), fun e => absurd e (by rw [updL_same]; decide)⟩⟩
      · simp only [execOp, Act.eval, ex]; first | (go_simp; done) | rfl
      · exact ((slots_put (ns := 100) (hsa.size.trans rfl) (by decide)) : slots _ 3 = _).trans ((put_getD (by decide)).trans ex).symm
    | (n + 19), ho, _, _, _ => exact absurd ho (by simp)
  case pdone =>
    intro a' w' l hl hsa hS hd
    have dq : a'.tmps.getD 3 undef = a'.tmps.getD 93 undef := hd 18 (by decide)
    obtain ⟨xo, xc, ex, hx, ht⟩ := hS.2.2.1 (hl 17 (by decide))
    exact HQ.out a' w' xo xc ⟨hsa.size.trans rfl, hsa.defers.trans rfl, hsa.rest 0 (by rfl), hsa.rest 2 (by rfl), dq.trans ex, hsa.rest 4 (by rfl), hsa.rest 5 (by rfl), hsa.rest 6 (by rfl), hsa.rest 7 (by rfl), hsa.rest 8 (by rfl)⟩ hx ht
theorem xd_r12 {K : Act → World → Prop} {c : Code} (hc : regOf (Tryz.f21.body.getD .skip) 12 = some c) (a : Act) {v : Vxd} {wq : World} {oo : Option Addr} {n oc : Nat} {T : ByteArray} {er : Int} (hF : Fxd a v) (h3v : v.v3 = .slice oo n oc) (hE : Calls Tryz.prog 50 #[.slice oo n oc] wq fun e w' => e = .returned (.tuple #[.string T, .int .i64 er]) ∧ Below wq.heap.size wq w')
    (hQ : ∀ a' w', Fxd a' { v with v8 := .string T } → Below wq.heap.size wq w' → K a' w') :
    Code.wp Tryz.prog c (Exit.then K fun _ _ _ => False) a wq := by
  have HQ := hide hQ
  clear hQ
  obtain ⟨v0, v2, v3, v4, v5, v6, v7, v8⟩ := v
  simp only at h3v HQ
  subst h3v
  obtain ⟨u, rfl⟩ := frx_xd hF
  clear hF
  simp only [Tryz.f21, Option.getD_some, regOf] at hc
  injection hc with hc
  subst hc
  have HE := hide hE
  clear hE
  go_wp2_with (go_at_call 50; refine HE.out.mono ?_; rintro e w1 ⟨rfl, b1⟩; have B1 := hide b1; clear b1)
  exact HQ.out _ _ ⟨rfl, rfl, rfl, rfl, rfl, rfl, rfl, rfl, rfl, rfl⟩ B1.out
theorem xd_r13 {K : Act → World → Prop} {c : Code} (hc : regOf (Tryz.f21.body.getD .skip) 13 = some c) (a : Act) {v : Vxd} {wq : World} {T : ByteArray} (hF : Fxd a v) (h8v : v.v8 = .string T) (hQ : ∀ a', Fxd a' { v with v2 := .string T } → K a' wq) :
    Code.wp Tryz.prog c (Exit.then K fun _ _ _ => False) a wq := by
  have HQ := hide hQ
  clear hQ
  obtain ⟨v0, v2, v3, v4, v5, v6, v7, v8⟩ := v
  simp only at h8v HQ
  subst h8v
  obtain ⟨u, rfl⟩ := frx_xd hF
  clear hF
  simp only [Tryz.f21, Option.getD_some, regOf] at hc
  injection hc with hc
  subst hc
  go_wp2
  exact HQ.out _ ⟨rfl, rfl, rfl, rfl, rfl, rfl, rfl, rfl, rfl, rfl⟩
theorem xd_ret {W : World} {a : Act} {v : Vxd} {T : ByteArray} {R : Ending → World → Prop} (hF : Fxd a v) (h2 : v.v2 = .string T) (h : R (.returned (.string T)) W) :
    bodyPost Tryz.prog Tryz.f21 R .ret a W := by
  have g2 := slot_get (hF.s2.trans h2)
  refine bodyPost_ret (v := .string T) ?_ hF.defers h
  simp [results, Tryz.results21, go_sem, g2]
end Go.Proofs.YtmkkcgkakomacaaGreat.Y
