/-
  carillonref14's Encode: its regions (mkre.py)
-/
import Derived.Test.YtlfodldlkchmoaaGreatZKR2b
import Derived.Test.YtlfodldlkchmoaaGreatZC8
import Derived.Test.YtlfodldlkchmoaaGreatZKR3
namespace Go.Proofs.YtlfodldlkchmoaaGreat
open Go.RowKit
set_option maxHeartbeats 8000000
set_option maxRecDepth 100000
attribute [local go_sem ↓] Go.wp_at_zero Go.wp_at_succ
set_option linter.unusedSimpArgs false
set_option linter.unusedVariables false
theorem rsmall (n : Int) (w : World) : Calls Tryz.prog 47 #[.int .i64 n] w fun e w' => e = .returned (.agg #[.int .i64 1, .int .u64 (IntKind.u64.wrap n), .string ⟨#[]⟩]) ∧ Below w.heap.size w w' := by
  go_enter Tryz.func47, Tryz.ntmps47
  go_wp2
  refine bodyPost_ret (v := .agg #[.int .i64 1, .int .u64 (IntKind.u64.wrap n), .string ⟨#[]⟩]) (by simp [results, Tryz.results47, go_sem]) rfl ⟨rfl, (Below.refl _ _).alloc (Nat.le_refl _) _⟩
theorem rlong (n : Int) (w : World) : Calls Tryz.prog 49 #[.int .i64 n] w fun e w' => e = .returned (.agg #[.int .i64 3, .int .u64 (IntKind.u64.wrap n), .string ⟨#[]⟩]) ∧ Below w.heap.size w w' := by
  go_enter Tryz.func49, Tryz.ntmps49
  go_wp2
  refine bodyPost_ret (v := .agg #[.int .i64 3, .int .u64 (IntKind.u64.wrap n), .string ⟨#[]⟩]) (by simp [results, Tryz.results49, go_sem]) rfl ⟨rfl, (Below.refl _ _).alloc (Nat.le_refl _) _⟩
theorem rtext (s : ByteArray) (w : World) : Calls Tryz.prog 48 #[.string s] w fun e w' => e = .returned (.agg #[.int .i64 4, .int .u64 0, .string s]) ∧ Below w.heap.size w w' := by
  go_enter Tryz.func48, Tryz.ntmps48
  go_wp2
  refine bodyPost_ret (v := .agg #[.int .i64 4, .int .u64 0, .string s]) (by simp [results, Tryz.results48, go_sem]) rfl ⟨rfl, (Below.refl _ _).alloc (Nat.le_refl _) _⟩
theorem itemsRef_at (W : World) {cm : CM} (hS : cm.Small) (b : Nat) (t : TypeId) (hb : W.heap[b]? = some (.cells #[.int .i64 1, .int .u64 (IntKind.u64.wrap cm.kind), .string ⟨#[]⟩, .int .i64 4, .int .u64 0, .string cm.topic, .int .i64 4, .int .u64 0, .string cm.name, .int .i64 3, .int .u64 (IntKind.u64.wrap cm.seq), .string ⟨#[]⟩, .int .i64 4, .int .u64 0, .string cm.key, .int .i64 4, .int .u64 0, .string cm.val, .int .i64 3, .int .u64 (IntKind.u64.wrap (IntKind.i64.wrap (cm.n + 1))), .string ⟨#[]⟩, .int .i64 1, .int .u64 (IntKind.u64.wrap cm.node), .string ⟨#[]⟩, .int .i64 3, .int .u64 (IntKind.u64.wrap cm.ask), .string ⟨#[]⟩] t (0, 0))) : K.ItemsAt W (some ⟨b, 0, none⟩) (itemsC cm) := by
  have wk : IntKind.u64.wrap cm.kind = cm.kind := by rw [IntKind.wrap_u64]; have := hS.k1; have := hS.k2; omega
  have ws : IntKind.u64.wrap cm.seq = cm.seq := by rw [IntKind.wrap_u64]; have := hS.s1; have := hS.s2; omega
  have wo : IntKind.u64.wrap cm.node = cm.node := by rw [IntKind.wrap_u64]; have := hS.o1; have := hS.o2; omega
  have wa : IntKind.u64.wrap cm.ask = cm.ask := by rw [IntKind.wrap_u64]; have := hS.a1; have := hS.a2; omega
  have wn : IntKind.u64.wrap (IntKind.i64.wrap (cm.n + 1)) = cm.n + 1 := by rw [IntKind.wrap_u64, IntKind.wrap_i64]; have := hS.n1; have := hS.n2; omega
  rw [wk, ws, wo, wa, wn] at hb
  exact itemsC_at W cm b t hb
theorem rencC_call {cm : CM} (hS : cm.Small) (g : Nat) (w : World) (h : K.ItemsAt w (some ⟨g, 0, none⟩) (itemsC cm)) : Calls Tryz.prog 46 #[.slice (some ⟨g, 0, none⟩) 9 9] w fun e w' => e = .returned (.tuple #[.string ⟨(codeC cm).toArray⟩, .int .i64 0]) ∧ Below w.heap.size w w' := by
  have := K.rencode_any _ 9 (itemsC cm) w h (itemsC_ok hS) (by unfold maxLen; simp [itemsC])
  rw [encC hS] at this
  exact this
theorem frame_re (t : Array Value) (h : t.size = 45) : ∃ u : Nat → Value, t = List.toArray (u 0 :: u 1 :: u 2 :: u 3 :: u 4 :: u 5 :: u 6 :: u 7 :: u 8 :: u 9 :: u 10 :: u 11 :: u 12 :: u 13 :: u 14 :: u 15 :: u 16 :: u 17 :: u 18 :: u 19 :: u 20 :: u 21 :: u 22 :: u 23 :: u 24 :: u 25 :: u 26 :: u 27 :: u 28 :: u 29 :: u 30 :: u 31 :: u 32 :: u 33 :: u 34 :: u 35 :: u 36 :: u 37 :: u 38 :: u 39 :: u 40 :: u 41 :: u 42 :: u 43 :: u 44 :: []) := by
  refine ⟨fun i => t.getD i undef, ?_⟩
  refine Eq.trans (b := ((List.range 45).map fun i => t.getD i undef).toArray) ?_ rfl
  apply Array.ext
  · simp [h]
  · intro k h1 h2
    simp [Array.getD, h1]
structure Vre where
  v0 : Value
  v1 : Value
  v2 : Value
  v3 : Value
  v4 : Value
  v5 : Value
  v10 : Value
structure Fre (a : Act) (v : Vre) : Prop where
  size : a.tmps.size = 45
  defers : a.defers = []
  s0 : a.tmps.getD 0 undef = v.v0
  s1 : a.tmps.getD 1 undef = v.v1
  s2 : a.tmps.getD 2 undef = v.v2
  s3 : a.tmps.getD 3 undef = v.v3
  s4 : a.tmps.getD 4 undef = v.v4
  s5 : a.tmps.getD 5 undef = v.v5
  s10 : a.tmps.getD 10 undef = v.v10
theorem frx_re {a : Act} {v0 v1 v2 v3 v4 v5 v10 : Value} (h : Fre a ⟨v0, v1, v2, v3, v4, v5, v10⟩) : ∃ u : Nat → Value, a = ⟨List.toArray (v0 :: v1 :: v2 :: v3 :: v4 :: v5 :: u 6 :: u 7 :: u 8 :: u 9 :: v10 :: u 11 :: u 12 :: u 13 :: u 14 :: u 15 :: u 16 :: u 17 :: u 18 :: u 19 :: u 20 :: u 21 :: u 22 :: u 23 :: u 24 :: u 25 :: u 26 :: u 27 :: u 28 :: u 29 :: u 30 :: u 31 :: u 32 :: u 33 :: u 34 :: u 35 :: u 36 :: u 37 :: u 38 :: u 39 :: u 40 :: u 41 :: u 42 :: u 43 :: u 44 :: []), []⟩ := by
  obtain ⟨t', d'⟩ := a
  obtain ⟨hs, hd, q0, q1, q2, q3, q4, q5, q10⟩ := h
  obtain ⟨u, hu⟩ := frame_re t' hs
  simp only at hd q0 q1 q2 q3 q4 q5 q10
  subst hu hd
  have e0 : u 0 = v0 := q0
  have e1 : u 1 = v1 := q1
  have e2 : u 2 = v2 := q2
  have e3 : u 3 = v3 := q3
  have e4 : u 4 = v4 := q4
  have e5 : u 5 = v5 := q5
  have e10 : u 10 = v10 := q10
  refine ⟨u, ?_⟩
  rw [e0, e1, e2, e3, e4, e5, e10]
theorem re_r0 {K : Act → World → Prop} {c : Code} (hc : regOf (Tryz.f26.body.getD .skip) 0 = some c) (a : Act) {v : Vre} {wq : World} {x : CM} (hF : Fre a v) (h0v : v.v0 = x.v) (hQ : ∀ a' w' b, Fre a' { v with v1 := .pointer (some ⟨b, 0, none⟩), v2 := .string ⟨#[]⟩, v3 := .bool false } → w'.heap[b]? = some (.cells x.cells 31 (0, 0)) → Below wq.heap.size wq w' → K a' w') :
    Code.wp Tryz.prog c (Exit.then K fun _ _ _ => False) a wq := by
  have HQ := hide hQ
  clear hQ
  obtain ⟨v0, v1, v2, v3, v4, v5, v10⟩ := v
  simp only at h0v HQ
  subst h0v
  obtain ⟨u, rfl⟩ := frx_re hF
  clear hF
  simp only [Tryz.f26, Option.getD_some, regOf] at hc
  injection hc with hc
  subst hc
  simp only [CM.v, CM.cells] at *
  go_wp2
  exact HQ.out _ _ wq.heap.size ⟨rfl, rfl, rfl, rfl, rfl, rfl, rfl, rfl, rfl⟩ (heap_alloc_new _ _) ((Below.refl _ _).alloc (Nat.le_refl _) _)
theorem re_r1 {K : Act → World → Prop} {c : Code} (hc : regOf (Tryz.f26.body.getD .skip) 1 = some c) (a : Act) {v : Vre} {wq : World} {b : Nat} {x : CM} {p : Bool} (hF : Fre a v) (h1v : v.v1 = .pointer (some ⟨b, 0, none⟩)) (hB : wq.heap[b]? = some (.cells x.cells 31 (0, 0))) (hC : ∀ W, Below wq.heap.size wq W → Calls Tryz.prog 45 #[x.v] W fun e w' => e = .returned (.bool p) ∧ Below W.heap.size W w')
    (hQ : ∀ a' w', Fre a' { v with v4 := .bool p } → Below wq.heap.size wq w' → K a' w') :
    Code.wp Tryz.prog c (Exit.then K fun _ _ _ => False) a wq := by
  have HQ := hide hQ
  clear hQ
  obtain ⟨v0, v1, v2, v3, v4, v5, v10⟩ := v
  simp only at h1v HQ
  subst h1v
  obtain ⟨u, rfl⟩ := frx_re hF
  clear hF
  simp only [Tryz.f26, Option.getD_some, regOf] at hc
  injection hc with hc
  subst hc
  have HC := hide hC
  have c0 := box_cell hB 0 rfl
  have c1 := box_cell hB 1 rfl
  have c2 := box_cell hB 2 rfl
  have c3 := box_cell hB 3 rfl
  have c4 := box_cell hB 4 rfl
  have c5 := box_cell hB 5 rfl
  have c6 := box_cell hB 6 rfl
  have c7 := box_cell hB 7 rfl
  have c8 := box_cell hB 8 rfl
  clear hC hB
  simp only [CM.v, CM.cells] at *
  go_wp2_with (go_at_call 45; refine (HC.out _ (Below.refl _ _)).mono ?_; rintro e w1 ⟨rfl, b1⟩)
  exact HQ.out _ _ ⟨rfl, rfl, rfl, rfl, rfl, rfl, rfl, rfl, rfl⟩ b1
theorem re_r2 {K : Act → World → Prop} {c : Code} (hc : regOf (Tryz.f26.body.getD .skip) 2 = some c) (a : Act) {v : Vre} {wq : World} {p : Bool} (hF : Fre a v) (h4v : v.v4 = .bool p) (hQ : ∀ a', Fre a' { v with v10 := .bool (!p) } → K a' wq) :
    Code.wp Tryz.prog c (Exit.then K fun _ _ _ => False) a wq := by
  have HQ := hide hQ
  clear hQ
  obtain ⟨v0, v1, v2, v3, v4, v5, v10⟩ := v
  simp only at h4v HQ
  subst h4v
  obtain ⟨u, rfl⟩ := frx_re hF
  clear hF
  simp only [Tryz.f26, Option.getD_some, regOf] at hc
  injection hc with hc
  subst hc
  go_wp2
  exact HQ.out _ ⟨rfl, rfl, rfl, rfl, rfl, rfl, rfl, rfl, rfl⟩
theorem re_r3 {K : Act → World → Prop} {c : Code} (hc : regOf (Tryz.f26.body.getD .skip) 3 = some c) (a : Act) {v : Vre} {wq : World}  (hF : Fre a v) (hQ : ∀ a', Fre a' { v with v2 := .string ⟨#[]⟩, v3 := .bool false } → K a' wq) :
    Code.wp Tryz.prog c (Exit.then K fun _ _ _ => False) a wq := by
  have HQ := hide hQ
  clear hQ
  obtain ⟨v0, v1, v2, v3, v4, v5, v10⟩ := v
  obtain ⟨u, rfl⟩ := frx_re hF
  clear hF
  simp only [Tryz.f26, Option.getD_some, regOf] at hc
  injection hc with hc
  subst hc
  go_wp2
  exact HQ.out _ ⟨rfl, rfl, rfl, rfl, rfl, rfl, rfl, rfl, rfl⟩
theorem re_r4 {K : Act → World → Prop} {c : Code} (hc : regOf (Tryz.f26.body.getD .skip) 4 = some c) (a : Act) {v : Vre} {wq : World} {cm : CM} {cb : Nat} (hF : Fre a v) (h1v : v.v1 = .pointer (some ⟨cb, 0, none⟩)) (hC : wq.heap[cb]? = some (.cells cm.cells 31 (0, 0))) (hS : cm.Small)
    (hQ : ∀ a' w', Fre a' { v with v5 := .string ⟨(codeC cm).toArray⟩ } → Below wq.heap.size wq w' → K a' w') :
    Code.wp Tryz.prog c (Exit.then K fun _ _ _ => False) a wq := by
  have HQ := hide hQ
  clear hQ
  obtain ⟨v0, v1, v2, v3, v4, v5, v10⟩ := v
  simp only at h1v HQ
  subst h1v
  obtain ⟨u, rfl⟩ := frx_re hF
  clear hF
  simp only [Tryz.f26, Option.getD_some, regOf] at hc
  injection hc with hc
  subst hc
  generalize u 6 = u6
  generalize u 7 = u7
  generalize u 8 = u8
  generalize u 9 = u9
  generalize u 11 = u11
  generalize u 12 = u12
  generalize u 13 = u13
  generalize u 14 = u14
  generalize u 15 = u15
  generalize u 16 = u16
  generalize u 17 = u17
  generalize u 18 = u18
  generalize u 19 = u19
  generalize u 20 = u20
  generalize u 21 = u21
  generalize u 22 = u22
  generalize u 23 = u23
  generalize u 24 = u24
  generalize u 25 = u25
  generalize u 26 = u26
  generalize u 27 = u27
  generalize u 28 = u28
  generalize u 29 = u29
  generalize u 30 = u30
  generalize u 31 = u31
  generalize u 32 = u32
  generalize u 33 = u33
  generalize u 34 = u34
  generalize u 35 = u35
  generalize u 36 = u36
  generalize u 37 = u37
  generalize u 38 = u38
  generalize u 39 = u39
  generalize u 40 = u40
  generalize u 41 = u41
  generalize u 42 = u42
  generalize u 43 = u43
  generalize u 44 = u44
  clear u
  refine wp_region_phi (by kernel_rfl) (ns := 45) (uses := (fun i => match i with | 0 => [12] | 1 => [13] | 2 => [14] | 3 => [15] | 4 => [16] | 5 => [17] | 6 => [18] | 7 => [19] | 8 => [20] | 9 => [21] | 10 => [22] | 11 => [23] | 12 => [24] | 13 => [25] | 14 => [26] | 15 => [27] | 16 => [28] | 17 => [29] | 18 => [30] | 19 => [31] | 20 => [32] | 21 => [33] | 22 => [34] | 23 => [35] | 24 => [36] | 25 => [37] | 26 => [38] | 27 => [39] | 28 => [40] | 29 => [41] | 30 => [11] | 31 => [42] | 32 => [43] | 33 => [5] | 34 => [6] | _ => [])) (by kernel_rfl) (by kernel_rfl) (fun _ w w' => Below w.heap.size w w') (fun w => Below wq.heap.size wq w) (fun _ _ _ h r => h.trans (r.mono h.size)) ((Below.refl _ _).drew) (fun i => match i with | 0 => fun s w => s 12 = .pointer (some ⟨cb, 0, none⟩) | 1 => fun s w => s 13 = .int .i64 cm.kind | 2 => fun s w => s 14 = .agg #[.int .i64 1, .int .u64 (IntKind.u64.wrap cm.kind), .string ⟨#[]⟩] | 3 => fun s w => s 15 = .pointer (some ⟨cb, 1, none⟩) | 4 => fun s w => s 16 = .string cm.topic | 5 => fun s w => s 17 = .agg #[.int .i64 4, .int .u64 0, .string cm.topic] | 6 => fun s w => s 18 = .pointer (some ⟨cb, 2, none⟩) | 7 => fun s w => s 19 = .string cm.name | 8 => fun s w => s 20 = .agg #[.int .i64 4, .int .u64 0, .string cm.name] | 9 => fun s w => s 21 = .pointer (some ⟨cb, 3, none⟩) | 10 => fun s w => s 22 = .int .i64 cm.seq | 11 => fun s w => s 23 = .agg #[.int .i64 3, .int .u64 (IntKind.u64.wrap cm.seq), .string ⟨#[]⟩] | 12 => fun s w => s 24 = .pointer (some ⟨cb, 4, none⟩) | 13 => fun s w => s 25 = .string cm.key | 14 => fun s w => s 26 = .agg #[.int .i64 4, .int .u64 0, .string cm.key] | 15 => fun s w => s 27 = .pointer (some ⟨cb, 5, none⟩) | 16 => fun s w => s 28 = .string cm.val | 17 => fun s w => s 29 = .agg #[.int .i64 4, .int .u64 0, .string cm.val] | 18 => fun s w => s 30 = .pointer (some ⟨cb, 6, none⟩) | 19 => fun s w => s 31 = .int .i64 cm.n | 20 => fun s w => s 32 = .int .i64 (IntKind.i64.wrap (cm.n + 1)) | 21 => fun s w => s 33 = .agg #[.int .i64 3, .int .u64 (IntKind.u64.wrap (IntKind.i64.wrap (cm.n + 1))), .string ⟨#[]⟩] | 22 => fun s w => s 34 = .pointer (some ⟨cb, 7, none⟩) | 23 => fun s w => s 35 = .int .i64 cm.node | 24 => fun s w => s 36 = .agg #[.int .i64 1, .int .u64 (IntKind.u64.wrap cm.node), .string ⟨#[]⟩] | 25 => fun s w => s 37 = .pointer (some ⟨cb, 8, none⟩) | 26 => fun s w => s 38 = .int .i64 cm.ask | 27 => fun s w => s 39 = .agg #[.int .i64 3, .int .u64 (IntKind.u64.wrap cm.ask), .string ⟨#[]⟩] | 28 => fun s w => ∃ g, s 40 = .slice (some ⟨g, 0, none⟩) 9 9 ∧ w.heap[g]? = some (.cells #[.int .i64 1, .int .u64 (IntKind.u64.wrap cm.kind), .string ⟨#[]⟩, .int .i64 4, .int .u64 0, .string cm.topic, .int .i64 4, .int .u64 0, .string cm.name, .int .i64 3, .int .u64 (IntKind.u64.wrap cm.seq), .string ⟨#[]⟩, .int .i64 4, .int .u64 0, .string cm.key, .int .i64 4, .int .u64 0, .string cm.val, .int .i64 3, .int .u64 (IntKind.u64.wrap (IntKind.i64.wrap (cm.n + 1))), .string ⟨#[]⟩, .int .i64 1, .int .u64 (IntKind.u64.wrap cm.node), .string ⟨#[]⟩, .int .i64 3, .int .u64 (IntKind.u64.wrap cm.ask), .string ⟨#[]⟩] 110 (0, 0)) | 29 => fun s w => s 41 = .tuple #[.string ⟨(codeC cm).toArray⟩, .int .i64 0] | 30 => fun s w => s 11 = .tuple #[.string ⟨(codeC cm).toArray⟩, .int .i64 0] | 31 => fun s w => s 42 = .string ⟨(codeC cm).toArray⟩ | 32 => fun s w => s 43 = .int .i64 0 | 33 => fun s w => s 5 = .string ⟨(codeC cm).toArray⟩ | 34 => fun s w => s 6 = .int .i64 0 | _ => fun _ _ => True) ?phc ?phh ?pstep ?pdone
  case phc =>
    intro i s s' w hx h
    match i, hx, h with
    | 0, hx, h =>
      have e12 := hx 12 (by simp)
      first | exact (show _ from by simp only [← e12] at *; exact h) | (simp only [e12] at h; exact h)
    | 1, hx, h =>
      have e13 := hx 13 (by simp)
      first | exact (show _ from by simp only [← e13] at *; exact h) | (simp only [e13] at h; exact h)
    | 2, hx, h =>
      have e14 := hx 14 (by simp)
      first | exact (show _ from by simp only [← e14] at *; exact h) | (simp only [e14] at h; exact h)
    | 3, hx, h =>
      have e15 := hx 15 (by simp)
      first | exact (show _ from by simp only [← e15] at *; exact h) | (simp only [e15] at h; exact h)
    | 4, hx, h =>
      have e16 := hx 16 (by simp)
      first | exact (show _ from by simp only [← e16] at *; exact h) | (simp only [e16] at h; exact h)
    | 5, hx, h =>
      have e17 := hx 17 (by simp)
      first | exact (show _ from by simp only [← e17] at *; exact h) | (simp only [e17] at h; exact h)
    | 6, hx, h =>
      have e18 := hx 18 (by simp)
      first | exact (show _ from by simp only [← e18] at *; exact h) | (simp only [e18] at h; exact h)
    | 7, hx, h =>
      have e19 := hx 19 (by simp)
      first | exact (show _ from by simp only [← e19] at *; exact h) | (simp only [e19] at h; exact h)
    | 8, hx, h =>
      have e20 := hx 20 (by simp)
      first | exact (show _ from by simp only [← e20] at *; exact h) | (simp only [e20] at h; exact h)
    | 9, hx, h =>
      have e21 := hx 21 (by simp)
      first | exact (show _ from by simp only [← e21] at *; exact h) | (simp only [e21] at h; exact h)
    | 10, hx, h =>
      have e22 := hx 22 (by simp)
      first | exact (show _ from by simp only [← e22] at *; exact h) | (simp only [e22] at h; exact h)
    | 11, hx, h =>
      have e23 := hx 23 (by simp)
      first | exact (show _ from by simp only [← e23] at *; exact h) | (simp only [e23] at h; exact h)
    | 12, hx, h =>
      have e24 := hx 24 (by simp)
      first | exact (show _ from by simp only [← e24] at *; exact h) | (simp only [e24] at h; exact h)
    | 13, hx, h =>
      have e25 := hx 25 (by simp)
      first | exact (show _ from by simp only [← e25] at *; exact h) | (simp only [e25] at h; exact h)
    | 14, hx, h =>
      have e26 := hx 26 (by simp)
      first | exact (show _ from by simp only [← e26] at *; exact h) | (simp only [e26] at h; exact h)
    | 15, hx, h =>
      have e27 := hx 27 (by simp)
      first | exact (show _ from by simp only [← e27] at *; exact h) | (simp only [e27] at h; exact h)
    | 16, hx, h =>
      have e28 := hx 28 (by simp)
      first | exact (show _ from by simp only [← e28] at *; exact h) | (simp only [e28] at h; exact h)
    | 17, hx, h =>
      have e29 := hx 29 (by simp)
      first | exact (show _ from by simp only [← e29] at *; exact h) | (simp only [e29] at h; exact h)
    | 18, hx, h =>
      have e30 := hx 30 (by simp)
      first | exact (show _ from by simp only [← e30] at *; exact h) | (simp only [e30] at h; exact h)
    | 19, hx, h =>
      have e31 := hx 31 (by simp)
      first | exact (show _ from by simp only [← e31] at *; exact h) | (simp only [e31] at h; exact h)
    | 20, hx, h =>
      have e32 := hx 32 (by simp)
      first | exact (show _ from by simp only [← e32] at *; exact h) | (simp only [e32] at h; exact h)
    | 21, hx, h =>
      have e33 := hx 33 (by simp)
      first | exact (show _ from by simp only [← e33] at *; exact h) | (simp only [e33] at h; exact h)
    | 22, hx, h =>
      have e34 := hx 34 (by simp)
      first | exact (show _ from by simp only [← e34] at *; exact h) | (simp only [e34] at h; exact h)
    | 23, hx, h =>
      have e35 := hx 35 (by simp)
      first | exact (show _ from by simp only [← e35] at *; exact h) | (simp only [e35] at h; exact h)
    | 24, hx, h =>
      have e36 := hx 36 (by simp)
      first | exact (show _ from by simp only [← e36] at *; exact h) | (simp only [e36] at h; exact h)
    | 25, hx, h =>
      have e37 := hx 37 (by simp)
      first | exact (show _ from by simp only [← e37] at *; exact h) | (simp only [e37] at h; exact h)
    | 26, hx, h =>
      have e38 := hx 38 (by simp)
      first | exact (show _ from by simp only [← e38] at *; exact h) | (simp only [e38] at h; exact h)
    | 27, hx, h =>
      have e39 := hx 39 (by simp)
      first | exact (show _ from by simp only [← e39] at *; exact h) | (simp only [e39] at h; exact h)
    | 28, hx, h =>
      have e40 := hx 40 (by simp)
      first | exact (show _ from by simp only [← e40] at *; exact h) | (simp only [e40] at h; exact h)
    | 29, hx, h =>
      have e41 := hx 41 (by simp)
      first | exact (show _ from by simp only [← e41] at *; exact h) | (simp only [e41] at h; exact h)
    | 30, hx, h =>
      have e11 := hx 11 (by simp)
      first | exact (show _ from by simp only [← e11] at *; exact h) | (simp only [e11] at h; exact h)
    | 31, hx, h =>
      have e42 := hx 42 (by simp)
      first | exact (show _ from by simp only [← e42] at *; exact h) | (simp only [e42] at h; exact h)
    | 32, hx, h =>
      have e43 := hx 43 (by simp)
      first | exact (show _ from by simp only [← e43] at *; exact h) | (simp only [e43] at h; exact h)
    | 33, hx, h =>
      have e5 := hx 5 (by simp)
      first | exact (show _ from by simp only [← e5] at *; exact h) | (simp only [e5] at h; exact h)
    | 34, hx, h =>
      have e6 := hx 6 (by simp)
      first | exact (show _ from by simp only [← e6] at *; exact h) | (simp only [e6] at h; exact h)
    | (n + 35), _, h => exact h
  case phh =>
    intro i j s w w' hij h hb r
    match i, hij, h with
    | 0, hij, h =>
      exact h
    | 1, hij, h =>
      exact h
    | 2, hij, h =>
      exact h
    | 3, hij, h =>
      exact h
    | 4, hij, h =>
      exact h
    | 5, hij, h =>
      exact h
    | 6, hij, h =>
      exact h
    | 7, hij, h =>
      exact h
    | 8, hij, h =>
      exact h
    | 9, hij, h =>
      exact h
    | 10, hij, h =>
      exact h
    | 11, hij, h =>
      exact h
    | 12, hij, h =>
      exact h
    | 13, hij, h =>
      exact h
    | 14, hij, h =>
      exact h
    | 15, hij, h =>
      exact h
    | 16, hij, h =>
      exact h
    | 17, hij, h =>
      exact h
    | 18, hij, h =>
      exact h
    | 19, hij, h =>
      exact h
    | 20, hij, h =>
      exact h
    | 21, hij, h =>
      exact h
    | 22, hij, h =>
      exact h
    | 23, hij, h =>
      exact h
    | 24, hij, h =>
      exact h
    | 25, hij, h =>
      exact h
    | 26, hij, h =>
      exact h
    | 27, hij, h =>
      exact h
    | 28, hij, h =>
      obtain ⟨g, h1, h2⟩ := h
      exact ⟨g, h1, (r.block _ (heap_lt h2)).trans h2⟩
    | 29, hij, h =>
      exact h
    | 30, hij, h =>
      exact h
    | 31, hij, h =>
      exact h
    | 32, hij, h =>
      exact h
    | 33, hij, h =>
      exact h
    | 34, hij, h =>
      exact h
    | (n + 35), _, h => exact h
  case pstep =>
    intro i o ho a' w' hsa hb hd
    match i, ho with
    | 0, ho =>
      obtain rfl := Option.some.inj ho
      try dsimp only at hd
      have g1 : a'.tmps.getD 1 undef = .pointer (some ⟨cb, 0, none⟩) := hsa.rest 1 (by rfl)
      refine wpOp_of rfl rfl ?_
      refine op_run (v := .pointer (some ⟨cb, 0, none⟩)) (w' := w') ?_ ⟨_, rfl, ?_, ?_⟩
      · simp only [execOp, Act.eval, List.map_toArray, List.map_cons, List.map_nil, g1]; first | (go_simp; done) | rfl
      · try dsimp only
        exact (slots_put (ns := 45) (hsa.size.trans rfl) (by decide))
      · exact Below.refl _ _
    | 1, ho =>
      obtain rfl := Option.some.inj ho
      try dsimp only at hd
      have d0 : a'.tmps.getD 12 undef = .pointer (some ⟨cb, 0, none⟩) := hd 0 (by rfl)
      have y0 : w'.cell? ⟨cb, 0, none⟩ = some (.int .i64 cm.kind) := (hb.cell (p := ⟨cb, 0, none⟩) (heap_lt hC)).trans (box_cell hC 0 rfl)
      refine wpOp_of rfl rfl ?_
      refine op_run (v := .int .i64 cm.kind) (w' := w') ?_ ⟨_, rfl, ?_, ?_⟩
      · simp only [execOp, Act.eval, List.map_toArray, List.map_cons, List.map_nil, d0, y0]; first | (go_simp; done) | rfl
      · try dsimp only
        exact (slots_put (ns := 45) (hsa.size.trans rfl) (by decide))
      · exact Below.refl _ _
    | 2, ho =>
      obtain rfl := Option.some.inj ho
      try dsimp only at hd
      have d1 : a'.tmps.getD 13 undef = .int .i64 cm.kind := hd 1 (by rfl)
      refine wpOp_of rfl rfl ?_
      refine op_call 47 _ _ rfl (enters_of Tryz.func47 (by kernel_rfl) rfl) [.int .i64 cm.kind] (by simp only [List.map, Act.eval, d1]) (rsmall cm.kind w') ?_
      rintro e w'' ⟨rfl, b2⟩
      refine ⟨_, rfl, _, rfl, ?_, ?_⟩
      · try dsimp only
        exact (slots_put (ns := 45) (hsa.size.trans rfl) (by decide))
      · exact b2
    | 3, ho =>
      obtain rfl := Option.some.inj ho
      try dsimp only at hd
      have g1 : a'.tmps.getD 1 undef = .pointer (some ⟨cb, 0, none⟩) := hsa.rest 1 (by rfl)
      refine wpOp_of rfl rfl ?_
      refine op_run (v := .pointer (some ⟨cb, 1, none⟩)) (w' := w') ?_ ⟨_, rfl, ?_, ?_⟩
      · simp only [execOp, Act.eval, List.map_toArray, List.map_cons, List.map_nil, g1]; first | (go_simp; done) | rfl
      · try dsimp only
        exact (slots_put (ns := 45) (hsa.size.trans rfl) (by decide))
      · exact Below.refl _ _
    | 4, ho =>
      obtain rfl := Option.some.inj ho
      try dsimp only at hd
      have d3 : a'.tmps.getD 15 undef = .pointer (some ⟨cb, 1, none⟩) := hd 3 (by rfl)
      have y1 : w'.cell? ⟨cb, 1, none⟩ = some (.string cm.topic) := (hb.cell (p := ⟨cb, 1, none⟩) (heap_lt hC)).trans (box_cell hC 1 rfl)
      refine wpOp_of rfl rfl ?_
      refine op_run (v := .string cm.topic) (w' := w') ?_ ⟨_, rfl, ?_, ?_⟩
      · simp only [execOp, Act.eval, List.map_toArray, List.map_cons, List.map_nil, d3, y1]; first | (go_simp; done) | rfl
      · try dsimp only
        exact (slots_put (ns := 45) (hsa.size.trans rfl) (by decide))
      · exact Below.refl _ _
    | 5, ho =>
      obtain rfl := Option.some.inj ho
      try dsimp only at hd
      have d4 : a'.tmps.getD 16 undef = .string cm.topic := hd 4 (by rfl)
      refine wpOp_of rfl rfl ?_
      refine op_call 48 _ _ rfl (enters_of Tryz.func48 (by kernel_rfl) rfl) [.string cm.topic] (by simp only [List.map, Act.eval, d4]) (rtext cm.topic w') ?_
      rintro e w'' ⟨rfl, b2⟩
      refine ⟨_, rfl, _, rfl, ?_, ?_⟩
      · try dsimp only
        exact (slots_put (ns := 45) (hsa.size.trans rfl) (by decide))
      · exact b2
    | 6, ho =>
      obtain rfl := Option.some.inj ho
      try dsimp only at hd
      have g1 : a'.tmps.getD 1 undef = .pointer (some ⟨cb, 0, none⟩) := hsa.rest 1 (by rfl)
      refine wpOp_of rfl rfl ?_
      refine op_run (v := .pointer (some ⟨cb, 2, none⟩)) (w' := w') ?_ ⟨_, rfl, ?_, ?_⟩
      · simp only [execOp, Act.eval, List.map_toArray, List.map_cons, List.map_nil, g1]; first | (go_simp; done) | rfl
      · try dsimp only
        exact (slots_put (ns := 45) (hsa.size.trans rfl) (by decide))
      · exact Below.refl _ _
    | 7, ho =>
      obtain rfl := Option.some.inj ho
      try dsimp only at hd
      have d6 : a'.tmps.getD 18 undef = .pointer (some ⟨cb, 2, none⟩) := hd 6 (by rfl)
      have y2 : w'.cell? ⟨cb, 2, none⟩ = some (.string cm.name) := (hb.cell (p := ⟨cb, 2, none⟩) (heap_lt hC)).trans (box_cell hC 2 rfl)
      refine wpOp_of rfl rfl ?_
      refine op_run (v := .string cm.name) (w' := w') ?_ ⟨_, rfl, ?_, ?_⟩
      · simp only [execOp, Act.eval, List.map_toArray, List.map_cons, List.map_nil, d6, y2]; first | (go_simp; done) | rfl
      · try dsimp only
        exact (slots_put (ns := 45) (hsa.size.trans rfl) (by decide))
      · exact Below.refl _ _
    | 8, ho =>
      obtain rfl := Option.some.inj ho
      try dsimp only at hd
      have d7 : a'.tmps.getD 19 undef = .string cm.name := hd 7 (by rfl)
      refine wpOp_of rfl rfl ?_
      refine op_call 48 _ _ rfl (enters_of Tryz.func48 (by kernel_rfl) rfl) [.string cm.name] (by simp only [List.map, Act.eval, d7]) (rtext cm.name w') ?_
      rintro e w'' ⟨rfl, b2⟩
      refine ⟨_, rfl, _, rfl, ?_, ?_⟩
      · try dsimp only
        exact (slots_put (ns := 45) (hsa.size.trans rfl) (by decide))
      · exact b2
    | 9, ho =>
      obtain rfl := Option.some.inj ho
      try dsimp only at hd
      have g1 : a'.tmps.getD 1 undef = .pointer (some ⟨cb, 0, none⟩) := hsa.rest 1 (by rfl)
      refine wpOp_of rfl rfl ?_
      refine op_run (v := .pointer (some ⟨cb, 3, none⟩)) (w' := w') ?_ ⟨_, rfl, ?_, ?_⟩
      · simp only [execOp, Act.eval, List.map_toArray, List.map_cons, List.map_nil, g1]; first | (go_simp; done) | rfl
      · try dsimp only
        exact (slots_put (ns := 45) (hsa.size.trans rfl) (by decide))
      · exact Below.refl _ _
    | 10, ho =>
      obtain rfl := Option.some.inj ho
      try dsimp only at hd
      have d9 : a'.tmps.getD 21 undef = .pointer (some ⟨cb, 3, none⟩) := hd 9 (by rfl)
      have y3 : w'.cell? ⟨cb, 3, none⟩ = some (.int .i64 cm.seq) := (hb.cell (p := ⟨cb, 3, none⟩) (heap_lt hC)).trans (box_cell hC 3 rfl)
      refine wpOp_of rfl rfl ?_
      refine op_run (v := .int .i64 cm.seq) (w' := w') ?_ ⟨_, rfl, ?_, ?_⟩
      · simp only [execOp, Act.eval, List.map_toArray, List.map_cons, List.map_nil, d9, y3]; first | (go_simp; done) | rfl
      · try dsimp only
        exact (slots_put (ns := 45) (hsa.size.trans rfl) (by decide))
      · exact Below.refl _ _
    | 11, ho =>
      obtain rfl := Option.some.inj ho
      try dsimp only at hd
      have d10 : a'.tmps.getD 22 undef = .int .i64 cm.seq := hd 10 (by rfl)
      refine wpOp_of rfl rfl ?_
      refine op_call 49 _ _ rfl (enters_of Tryz.func49 (by kernel_rfl) rfl) [.int .i64 cm.seq] (by simp only [List.map, Act.eval, d10]) (rlong cm.seq w') ?_
      rintro e w'' ⟨rfl, b2⟩
      refine ⟨_, rfl, _, rfl, ?_, ?_⟩
      · try dsimp only
        exact (slots_put (ns := 45) (hsa.size.trans rfl) (by decide))
      · exact b2
    | 12, ho =>
      obtain rfl := Option.some.inj ho
      try dsimp only at hd
      have g1 : a'.tmps.getD 1 undef = .pointer (some ⟨cb, 0, none⟩) := hsa.rest 1 (by rfl)
      refine wpOp_of rfl rfl ?_
      refine op_run (v := .pointer (some ⟨cb, 4, none⟩)) (w' := w') ?_ ⟨_, rfl, ?_, ?_⟩
      · simp only [execOp, Act.eval, List.map_toArray, List.map_cons, List.map_nil, g1]; first | (go_simp; done) | rfl
      · try dsimp only
        exact (slots_put (ns := 45) (hsa.size.trans rfl) (by decide))
      · exact Below.refl _ _
    | 13, ho =>
      obtain rfl := Option.some.inj ho
      try dsimp only at hd
      have d12 : a'.tmps.getD 24 undef = .pointer (some ⟨cb, 4, none⟩) := hd 12 (by rfl)
      have y4 : w'.cell? ⟨cb, 4, none⟩ = some (.string cm.key) := (hb.cell (p := ⟨cb, 4, none⟩) (heap_lt hC)).trans (box_cell hC 4 rfl)
      refine wpOp_of rfl rfl ?_
      refine op_run (v := .string cm.key) (w' := w') ?_ ⟨_, rfl, ?_, ?_⟩
      · simp only [execOp, Act.eval, List.map_toArray, List.map_cons, List.map_nil, d12, y4]; first | (go_simp; done) | rfl
      · try dsimp only
        exact (slots_put (ns := 45) (hsa.size.trans rfl) (by decide))
      · exact Below.refl _ _
    | 14, ho =>
      obtain rfl := Option.some.inj ho
      try dsimp only at hd
      have d13 : a'.tmps.getD 25 undef = .string cm.key := hd 13 (by rfl)
      refine wpOp_of rfl rfl ?_
      refine op_call 48 _ _ rfl (enters_of Tryz.func48 (by kernel_rfl) rfl) [.string cm.key] (by simp only [List.map, Act.eval, d13]) (rtext cm.key w') ?_
      rintro e w'' ⟨rfl, b2⟩
      refine ⟨_, rfl, _, rfl, ?_, ?_⟩
      · try dsimp only
        exact (slots_put (ns := 45) (hsa.size.trans rfl) (by decide))
      · exact b2
    | 15, ho =>
      obtain rfl := Option.some.inj ho
      try dsimp only at hd
      have g1 : a'.tmps.getD 1 undef = .pointer (some ⟨cb, 0, none⟩) := hsa.rest 1 (by rfl)
      refine wpOp_of rfl rfl ?_
      refine op_run (v := .pointer (some ⟨cb, 5, none⟩)) (w' := w') ?_ ⟨_, rfl, ?_, ?_⟩
      · simp only [execOp, Act.eval, List.map_toArray, List.map_cons, List.map_nil, g1]; first | (go_simp; done) | rfl
      · try dsimp only
        exact (slots_put (ns := 45) (hsa.size.trans rfl) (by decide))
      · exact Below.refl _ _
    | 16, ho =>
      obtain rfl := Option.some.inj ho
      try dsimp only at hd
      have d15 : a'.tmps.getD 27 undef = .pointer (some ⟨cb, 5, none⟩) := hd 15 (by rfl)
      have y5 : w'.cell? ⟨cb, 5, none⟩ = some (.string cm.val) := (hb.cell (p := ⟨cb, 5, none⟩) (heap_lt hC)).trans (box_cell hC 5 rfl)
      refine wpOp_of rfl rfl ?_
      refine op_run (v := .string cm.val) (w' := w') ?_ ⟨_, rfl, ?_, ?_⟩
      · simp only [execOp, Act.eval, List.map_toArray, List.map_cons, List.map_nil, d15, y5]; first | (go_simp; done) | rfl
      · try dsimp only
        exact (slots_put (ns := 45) (hsa.size.trans rfl) (by decide))
      · exact Below.refl _ _
    | 17, ho =>
      obtain rfl := Option.some.inj ho
      try dsimp only at hd
      have d16 : a'.tmps.getD 28 undef = .string cm.val := hd 16 (by rfl)
      refine wpOp_of rfl rfl ?_
      refine op_call 48 _ _ rfl (enters_of Tryz.func48 (by kernel_rfl) rfl) [.string cm.val] (by simp only [List.map, Act.eval, d16]) (rtext cm.val w') ?_
      rintro e w'' ⟨rfl, b2⟩
      refine ⟨_, rfl, _, rfl, ?_, ?_⟩
      · try dsimp only
        exact (slots_put (ns := 45) (hsa.size.trans rfl) (by decide))
      · exact b2
    | 18, ho =>
      obtain rfl := Option.some.inj ho
      try dsimp only at hd
      have g1 : a'.tmps.getD 1 undef = .pointer (some ⟨cb, 0, none⟩) := hsa.rest 1 (by rfl)
      refine wpOp_of rfl rfl ?_
      refine op_run (v := .pointer (some ⟨cb, 6, none⟩)) (w' := w') ?_ ⟨_, rfl, ?_, ?_⟩
      · simp only [execOp, Act.eval, List.map_toArray, List.map_cons, List.map_nil, g1]; first | (go_simp; done) | rfl
      · try dsimp only
        exact (slots_put (ns := 45) (hsa.size.trans rfl) (by decide))
      · exact Below.refl _ _
    | 19, ho =>
      obtain rfl := Option.some.inj ho
      try dsimp only at hd
      have d18 : a'.tmps.getD 30 undef = .pointer (some ⟨cb, 6, none⟩) := hd 18 (by rfl)
      have y6 : w'.cell? ⟨cb, 6, none⟩ = some (.int .i64 cm.n) := (hb.cell (p := ⟨cb, 6, none⟩) (heap_lt hC)).trans (box_cell hC 6 rfl)
      refine wpOp_of rfl rfl ?_
      refine op_run (v := .int .i64 cm.n) (w' := w') ?_ ⟨_, rfl, ?_, ?_⟩
      · simp only [execOp, Act.eval, List.map_toArray, List.map_cons, List.map_nil, d18, y6]; first | (go_simp; done) | rfl
      · try dsimp only
        exact (slots_put (ns := 45) (hsa.size.trans rfl) (by decide))
      · exact Below.refl _ _
    | 20, ho =>
      obtain rfl := Option.some.inj ho
      try dsimp only at hd
      have d19 : a'.tmps.getD 31 undef = .int .i64 cm.n := hd 19 (by rfl)
      refine wpOp_of rfl rfl ?_
      refine op_run (v := .int .i64 (IntKind.i64.wrap (cm.n + 1))) (w' := w') ?_ ⟨_, rfl, ?_, ?_⟩
      · simp only [execOp, Act.eval, List.map_toArray, List.map_cons, List.map_nil, d19]; first | (go_simp; done) | rfl
      · try dsimp only
        exact (slots_put (ns := 45) (hsa.size.trans rfl) (by decide))
      · exact Below.refl _ _
    | 21, ho =>
      obtain rfl := Option.some.inj ho
      try dsimp only at hd
      have d20 : a'.tmps.getD 32 undef = .int .i64 (IntKind.i64.wrap (cm.n + 1)) := hd 20 (by rfl)
      refine wpOp_of rfl rfl ?_
      refine op_call 49 _ _ rfl (enters_of Tryz.func49 (by kernel_rfl) rfl) [.int .i64 (IntKind.i64.wrap (cm.n + 1))] (by simp only [List.map, Act.eval, d20]) (rlong (IntKind.i64.wrap (cm.n + 1)) w') ?_
      rintro e w'' ⟨rfl, b2⟩
      refine ⟨_, rfl, _, rfl, ?_, ?_⟩
      · try dsimp only
        exact (slots_put (ns := 45) (hsa.size.trans rfl) (by decide))
      · exact b2
    | 22, ho =>
      obtain rfl := Option.some.inj ho
      try dsimp only at hd
      have g1 : a'.tmps.getD 1 undef = .pointer (some ⟨cb, 0, none⟩) := hsa.rest 1 (by rfl)
      refine wpOp_of rfl rfl ?_
      refine op_run (v := .pointer (some ⟨cb, 7, none⟩)) (w' := w') ?_ ⟨_, rfl, ?_, ?_⟩
      · simp only [execOp, Act.eval, List.map_toArray, List.map_cons, List.map_nil, g1]; first | (go_simp; done) | rfl
      · try dsimp only
        exact (slots_put (ns := 45) (hsa.size.trans rfl) (by decide))
      · exact Below.refl _ _
    | 23, ho =>
      obtain rfl := Option.some.inj ho
      try dsimp only at hd
      have d22 : a'.tmps.getD 34 undef = .pointer (some ⟨cb, 7, none⟩) := hd 22 (by rfl)
      have y7 : w'.cell? ⟨cb, 7, none⟩ = some (.int .i64 cm.node) := (hb.cell (p := ⟨cb, 7, none⟩) (heap_lt hC)).trans (box_cell hC 7 rfl)
      refine wpOp_of rfl rfl ?_
      refine op_run (v := .int .i64 cm.node) (w' := w') ?_ ⟨_, rfl, ?_, ?_⟩
      · simp only [execOp, Act.eval, List.map_toArray, List.map_cons, List.map_nil, d22, y7]; first | (go_simp; done) | rfl
      · try dsimp only
        exact (slots_put (ns := 45) (hsa.size.trans rfl) (by decide))
      · exact Below.refl _ _
    | 24, ho =>
      obtain rfl := Option.some.inj ho
      try dsimp only at hd
      have d23 : a'.tmps.getD 35 undef = .int .i64 cm.node := hd 23 (by rfl)
      refine wpOp_of rfl rfl ?_
      refine op_call 47 _ _ rfl (enters_of Tryz.func47 (by kernel_rfl) rfl) [.int .i64 cm.node] (by simp only [List.map, Act.eval, d23]) (rsmall cm.node w') ?_
      rintro e w'' ⟨rfl, b2⟩
      refine ⟨_, rfl, _, rfl, ?_, ?_⟩
      · try dsimp only
        exact (slots_put (ns := 45) (hsa.size.trans rfl) (by decide))
      · exact b2
    | 25, ho =>
      obtain rfl := Option.some.inj ho
      try dsimp only at hd
      have g1 : a'.tmps.getD 1 undef = .pointer (some ⟨cb, 0, none⟩) := hsa.rest 1 (by rfl)
      refine wpOp_of rfl rfl ?_
      refine op_run (v := .pointer (some ⟨cb, 8, none⟩)) (w' := w') ?_ ⟨_, rfl, ?_, ?_⟩
      · simp only [execOp, Act.eval, List.map_toArray, List.map_cons, List.map_nil, g1]; first | (go_simp; done) | rfl
      · try dsimp only
        exact (slots_put (ns := 45) (hsa.size.trans rfl) (by decide))
      · exact Below.refl _ _
    | 26, ho =>
      obtain rfl := Option.some.inj ho
      try dsimp only at hd
      have d25 : a'.tmps.getD 37 undef = .pointer (some ⟨cb, 8, none⟩) := hd 25 (by rfl)
      have y8 : w'.cell? ⟨cb, 8, none⟩ = some (.int .i64 cm.ask) := (hb.cell (p := ⟨cb, 8, none⟩) (heap_lt hC)).trans (box_cell hC 8 rfl)
      refine wpOp_of rfl rfl ?_
      refine op_run (v := .int .i64 cm.ask) (w' := w') ?_ ⟨_, rfl, ?_, ?_⟩
      · simp only [execOp, Act.eval, List.map_toArray, List.map_cons, List.map_nil, d25, y8]; first | (go_simp; done) | rfl
      · try dsimp only
        exact (slots_put (ns := 45) (hsa.size.trans rfl) (by decide))
      · exact Below.refl _ _
    | 27, ho =>
      obtain rfl := Option.some.inj ho
      try dsimp only at hd
      have d26 : a'.tmps.getD 38 undef = .int .i64 cm.ask := hd 26 (by rfl)
      refine wpOp_of rfl rfl ?_
      refine op_call 49 _ _ rfl (enters_of Tryz.func49 (by kernel_rfl) rfl) [.int .i64 cm.ask] (by simp only [List.map, Act.eval, d26]) (rlong cm.ask w') ?_
      rintro e w'' ⟨rfl, b2⟩
      refine ⟨_, rfl, _, rfl, ?_, ?_⟩
      · try dsimp only
        exact (slots_put (ns := 45) (hsa.size.trans rfl) (by decide))
      · exact b2
    | 28, ho =>
      obtain rfl := Option.some.inj ho
      try dsimp only at hd
      have d2 : a'.tmps.getD 14 undef = .agg #[.int .i64 1, .int .u64 (IntKind.u64.wrap cm.kind), .string ⟨#[]⟩] := hd 2 (by rfl)
      have d5 : a'.tmps.getD 17 undef = .agg #[.int .i64 4, .int .u64 0, .string cm.topic] := hd 5 (by rfl)
      have d8 : a'.tmps.getD 20 undef = .agg #[.int .i64 4, .int .u64 0, .string cm.name] := hd 8 (by rfl)
      have d11 : a'.tmps.getD 23 undef = .agg #[.int .i64 3, .int .u64 (IntKind.u64.wrap cm.seq), .string ⟨#[]⟩] := hd 11 (by rfl)
      have d14 : a'.tmps.getD 26 undef = .agg #[.int .i64 4, .int .u64 0, .string cm.key] := hd 14 (by rfl)
      have d17 : a'.tmps.getD 29 undef = .agg #[.int .i64 4, .int .u64 0, .string cm.val] := hd 17 (by rfl)
      have d21 : a'.tmps.getD 33 undef = .agg #[.int .i64 3, .int .u64 (IntKind.u64.wrap (IntKind.i64.wrap (cm.n + 1))), .string ⟨#[]⟩] := hd 21 (by rfl)
      have d24 : a'.tmps.getD 36 undef = .agg #[.int .i64 1, .int .u64 (IntKind.u64.wrap cm.node), .string ⟨#[]⟩] := hd 24 (by rfl)
      have d27 : a'.tmps.getD 39 undef = .agg #[.int .i64 3, .int .u64 (IntKind.u64.wrap cm.ask), .string ⟨#[]⟩] := hd 27 (by rfl)
      refine wpOp_of rfl rfl ?_
      refine op_run (v := Value.slice (some ⟨w'.heap.size, 0, none⟩) 9 9) (w' := w'.alloc (.cells #[.int .i64 1, .int .u64 (IntKind.u64.wrap cm.kind), .string ⟨#[]⟩, .int .i64 4, .int .u64 0, .string cm.topic, .int .i64 4, .int .u64 0, .string cm.name, .int .i64 3, .int .u64 (IntKind.u64.wrap cm.seq), .string ⟨#[]⟩, .int .i64 4, .int .u64 0, .string cm.key, .int .i64 4, .int .u64 0, .string cm.val, .int .i64 3, .int .u64 (IntKind.u64.wrap (IntKind.i64.wrap (cm.n + 1))), .string ⟨#[]⟩, .int .i64 1, .int .u64 (IntKind.u64.wrap cm.node), .string ⟨#[]⟩, .int .i64 3, .int .u64 (IntKind.u64.wrap cm.ask), .string ⟨#[]⟩] 110)) ?_ ⟨_, rfl, ?_, ?_⟩
      · simp only [execOp, Act.eval, List.map_toArray, List.map_cons, List.map_nil, d2, d5, d8, d11, d14, d17, d21, d24, d27]; first | (go_simp; done) | rfl
      · try dsimp only
        exact ⟨_, (slots_put (ns := 45) (hsa.size.trans rfl) (by decide)), heap_alloc_new _ _⟩
      · exact (Below.refl _ _).alloc (Nat.le_refl _) _
    | 29, ho =>
      obtain rfl := Option.some.inj ho
      try dsimp only at hd
      have d28 : ∃ g, a'.tmps.getD 40 undef = .slice (some ⟨g, 0, none⟩) 9 9 ∧ w'.heap[g]? = some (.cells #[.int .i64 1, .int .u64 (IntKind.u64.wrap cm.kind), .string ⟨#[]⟩, .int .i64 4, .int .u64 0, .string cm.topic, .int .i64 4, .int .u64 0, .string cm.name, .int .i64 3, .int .u64 (IntKind.u64.wrap cm.seq), .string ⟨#[]⟩, .int .i64 4, .int .u64 0, .string cm.key, .int .i64 4, .int .u64 0, .string cm.val, .int .i64 3, .int .u64 (IntKind.u64.wrap (IntKind.i64.wrap (cm.n + 1))), .string ⟨#[]⟩, .int .i64 1, .int .u64 (IntKind.u64.wrap cm.node), .string ⟨#[]⟩, .int .i64 3, .int .u64 (IntKind.u64.wrap cm.ask), .string ⟨#[]⟩] 110 (0, 0)) := hd 28 (by rfl)
      obtain ⟨g, d28, h2⟩ := d28
      refine wpOp_of rfl rfl ?_
      refine op_call 46 _ _ rfl (enters_of Tryz.func46 (by kernel_rfl) rfl) [.slice (some ⟨g, 0, none⟩) 9 9] (by simp only [List.map, Act.eval, d28]) (rencC_call hS g w' (itemsRef_at w' hS g _ h2)) ?_
      rintro e w'' ⟨rfl, b2⟩
      refine ⟨_, rfl, _, rfl, ?_, ?_⟩
      · try dsimp only
        exact (slots_put (ns := 45) (hsa.size.trans rfl) (by decide))
      · exact b2
    | 30, ho =>
      obtain rfl := Option.some.inj ho
      try dsimp only at hd
      have d29 : a'.tmps.getD 41 undef = .tuple #[.string ⟨(codeC cm).toArray⟩, .int .i64 0] := hd 29 (by rfl)
      refine wpOp_of rfl rfl ?_
      refine op_run (v := .tuple #[.string ⟨(codeC cm).toArray⟩, .int .i64 0]) (w' := w') ?_ ⟨_, rfl, ?_, ?_⟩
      · simp only [execOp, Act.eval, List.map_toArray, List.map_cons, List.map_nil, d29]; first | (go_simp; done) | rfl
      · try dsimp only
        exact (slots_put (ns := 45) (hsa.size.trans rfl) (by decide))
      · exact Below.refl _ _
    | 31, ho =>
      obtain rfl := Option.some.inj ho
      try dsimp only at hd
      have d30 : a'.tmps.getD 11 undef = .tuple #[.string ⟨(codeC cm).toArray⟩, .int .i64 0] := hd 30 (by rfl)
      refine wpOp_of rfl rfl ?_
      refine op_run (v := .string ⟨(codeC cm).toArray⟩) (w' := w') ?_ ⟨_, rfl, ?_, ?_⟩
      · simp only [execOp, Act.eval, List.map_toArray, List.map_cons, List.map_nil, d30]; first | (go_simp; done) | rfl
      · try dsimp only
        exact (slots_put (ns := 45) (hsa.size.trans rfl) (by decide))
      · exact Below.refl _ _
    | 32, ho =>
      obtain rfl := Option.some.inj ho
      try dsimp only at hd
      have d30 : a'.tmps.getD 11 undef = .tuple #[.string ⟨(codeC cm).toArray⟩, .int .i64 0] := hd 30 (by rfl)
      refine wpOp_of rfl rfl ?_
      refine op_run (v := .int .i64 0) (w' := w') ?_ ⟨_, rfl, ?_, ?_⟩
      · simp only [execOp, Act.eval, List.map_toArray, List.map_cons, List.map_nil, d30]; first | (go_simp; done) | rfl
      · try dsimp only
        exact (slots_put (ns := 45) (hsa.size.trans rfl) (by decide))
      · exact Below.refl _ _
    | 33, ho =>
      obtain rfl := Option.some.inj ho
      try dsimp only at hd
      have d31 : a'.tmps.getD 42 undef = .string ⟨(codeC cm).toArray⟩ := hd 31 (by rfl)
      refine wpOp_of rfl rfl ?_
      refine op_run (v := .string ⟨(codeC cm).toArray⟩) (w' := w') ?_ ⟨_, rfl, ?_, ?_⟩
      · simp only [execOp, Act.eval, List.map_toArray, List.map_cons, List.map_nil, d31]; first | (go_simp; done) | rfl
      · try dsimp only
        exact (slots_put (ns := 45) (hsa.size.trans rfl) (by decide))
      · exact Below.refl _ _
    | 34, ho =>
      obtain rfl := Option.some.inj ho
      try dsimp only at hd
      have d32 : a'.tmps.getD 43 undef = .int .i64 0 := hd 32 (by rfl)
      refine wpOp_of rfl rfl ?_
      refine op_run (v := .int .i64 0) (w' := w') ?_ ⟨_, rfl, ?_, ?_⟩
      · simp only [execOp, Act.eval, List.map_toArray, List.map_cons, List.map_nil, d32]; first | (go_simp; done) | rfl
      · try dsimp only
        exact (slots_put (ns := 45) (hsa.size.trans rfl) (by decide))
      · exact Below.refl _ _
    | (n + 35), ho => exact absurd ho (by simp)
  case pdone =>
    intro a' w' hsa hb hd
    have d0 : a'.tmps.getD 12 undef = .pointer (some ⟨cb, 0, none⟩) := hd 0 (by decide)
    have d1 : a'.tmps.getD 13 undef = .int .i64 cm.kind := hd 1 (by decide)
    have d2 : a'.tmps.getD 14 undef = .agg #[.int .i64 1, .int .u64 (IntKind.u64.wrap cm.kind), .string ⟨#[]⟩] := hd 2 (by decide)
    have d3 : a'.tmps.getD 15 undef = .pointer (some ⟨cb, 1, none⟩) := hd 3 (by decide)
    have d4 : a'.tmps.getD 16 undef = .string cm.topic := hd 4 (by decide)
    have d5 : a'.tmps.getD 17 undef = .agg #[.int .i64 4, .int .u64 0, .string cm.topic] := hd 5 (by decide)
    have d6 : a'.tmps.getD 18 undef = .pointer (some ⟨cb, 2, none⟩) := hd 6 (by decide)
    have d7 : a'.tmps.getD 19 undef = .string cm.name := hd 7 (by decide)
    have d8 : a'.tmps.getD 20 undef = .agg #[.int .i64 4, .int .u64 0, .string cm.name] := hd 8 (by decide)
    have d9 : a'.tmps.getD 21 undef = .pointer (some ⟨cb, 3, none⟩) := hd 9 (by decide)
    have d10 : a'.tmps.getD 22 undef = .int .i64 cm.seq := hd 10 (by decide)
    have d11 : a'.tmps.getD 23 undef = .agg #[.int .i64 3, .int .u64 (IntKind.u64.wrap cm.seq), .string ⟨#[]⟩] := hd 11 (by decide)
    have d12 : a'.tmps.getD 24 undef = .pointer (some ⟨cb, 4, none⟩) := hd 12 (by decide)
    have d13 : a'.tmps.getD 25 undef = .string cm.key := hd 13 (by decide)
    have d14 : a'.tmps.getD 26 undef = .agg #[.int .i64 4, .int .u64 0, .string cm.key] := hd 14 (by decide)
    have d15 : a'.tmps.getD 27 undef = .pointer (some ⟨cb, 5, none⟩) := hd 15 (by decide)
    have d16 : a'.tmps.getD 28 undef = .string cm.val := hd 16 (by decide)
    have d17 : a'.tmps.getD 29 undef = .agg #[.int .i64 4, .int .u64 0, .string cm.val] := hd 17 (by decide)
    have d18 : a'.tmps.getD 30 undef = .pointer (some ⟨cb, 6, none⟩) := hd 18 (by decide)
    have d19 : a'.tmps.getD 31 undef = .int .i64 cm.n := hd 19 (by decide)
    have d20 : a'.tmps.getD 32 undef = .int .i64 (IntKind.i64.wrap (cm.n + 1)) := hd 20 (by decide)
    have d21 : a'.tmps.getD 33 undef = .agg #[.int .i64 3, .int .u64 (IntKind.u64.wrap (IntKind.i64.wrap (cm.n + 1))), .string ⟨#[]⟩] := hd 21 (by decide)
    have d22 : a'.tmps.getD 34 undef = .pointer (some ⟨cb, 7, none⟩) := hd 22 (by decide)
    have d23 : a'.tmps.getD 35 undef = .int .i64 cm.node := hd 23 (by decide)
    have d24 : a'.tmps.getD 36 undef = .agg #[.int .i64 1, .int .u64 (IntKind.u64.wrap cm.node), .string ⟨#[]⟩] := hd 24 (by decide)
    have d25 : a'.tmps.getD 37 undef = .pointer (some ⟨cb, 8, none⟩) := hd 25 (by decide)
    have d26 : a'.tmps.getD 38 undef = .int .i64 cm.ask := hd 26 (by decide)
    have d27 : a'.tmps.getD 39 undef = .agg #[.int .i64 3, .int .u64 (IntKind.u64.wrap cm.ask), .string ⟨#[]⟩] := hd 27 (by decide)
    have d28 : ∃ g, a'.tmps.getD 40 undef = .slice (some ⟨g, 0, none⟩) 9 9 ∧ w'.heap[g]? = some (.cells #[.int .i64 1, .int .u64 (IntKind.u64.wrap cm.kind), .string ⟨#[]⟩, .int .i64 4, .int .u64 0, .string cm.topic, .int .i64 4, .int .u64 0, .string cm.name, .int .i64 3, .int .u64 (IntKind.u64.wrap cm.seq), .string ⟨#[]⟩, .int .i64 4, .int .u64 0, .string cm.key, .int .i64 4, .int .u64 0, .string cm.val, .int .i64 3, .int .u64 (IntKind.u64.wrap (IntKind.i64.wrap (cm.n + 1))), .string ⟨#[]⟩, .int .i64 1, .int .u64 (IntKind.u64.wrap cm.node), .string ⟨#[]⟩, .int .i64 3, .int .u64 (IntKind.u64.wrap cm.ask), .string ⟨#[]⟩] 110 (0, 0)) := hd 28 (by decide)
    have d29 : a'.tmps.getD 41 undef = .tuple #[.string ⟨(codeC cm).toArray⟩, .int .i64 0] := hd 29 (by decide)
    have d30 : a'.tmps.getD 11 undef = .tuple #[.string ⟨(codeC cm).toArray⟩, .int .i64 0] := hd 30 (by decide)
    have d31 : a'.tmps.getD 42 undef = .string ⟨(codeC cm).toArray⟩ := hd 31 (by decide)
    have d32 : a'.tmps.getD 43 undef = .int .i64 0 := hd 32 (by decide)
    have d33 : a'.tmps.getD 5 undef = .string ⟨(codeC cm).toArray⟩ := hd 33 (by decide)
    have d34 : a'.tmps.getD 6 undef = .int .i64 0 := hd 34 (by decide)
    exact HQ.out _ _ ⟨hsa.size.trans rfl, hsa.defers.trans rfl, hsa.rest 0 (by rfl), hsa.rest 1 (by rfl), hsa.rest 2 (by rfl), hsa.rest 3 (by rfl), hsa.rest 4 (by rfl), d33, hsa.rest 10 (by rfl)⟩ hb
theorem re_r5 {K : Act → World → Prop} {c : Code} (hc : regOf (Tryz.f26.body.getD .skip) 5 = some c) (a : Act) {v : Vre} {wq : World} {T : ByteArray} (hF : Fre a v) (h5v : v.v5 = .string T) (hQ : ∀ a', Fre a' { v with v2 := .string T, v3 := .bool true } → K a' wq) :
    Code.wp Tryz.prog c (Exit.then K fun _ _ _ => False) a wq := by
  have HQ := hide hQ
  clear hQ
  obtain ⟨v0, v1, v2, v3, v4, v5, v10⟩ := v
  simp only at h5v HQ
  subst h5v
  obtain ⟨u, rfl⟩ := frx_re hF
  clear hF
  simp only [Tryz.f26, Option.getD_some, regOf] at hc
  injection hc with hc
  subst hc
  go_wp2
  exact HQ.out _ ⟨rfl, rfl, rfl, rfl, rfl, rfl, rfl, rfl, rfl⟩
theorem re_ret {W : World} {a : Act} {v : Vre} {T : ByteArray} {p : Bool} {R : Ending → World → Prop} (hF : Fre a v) (h0 : v.v2 = .string T) (h1 : v.v3 = .bool p) (h : R (.returned (.tuple #[.string T, .bool p])) W) :
    bodyPost Tryz.prog Tryz.f26 R .ret a W := by
  have g0 := slot_get (hF.s2.trans h0)
  have g1 := slot_get (hF.s3.trans h1)
  refine bodyPost_ret (v := .tuple #[.string T, .bool p]) ?_ hF.defers h
  simp [results, Tryz.results26, go_sem, g0, g1]
end Go.Proofs.YtlfodldlkchmoaaGreat
