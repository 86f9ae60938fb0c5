/-
  Load's regions (mkuq.py).
-/
import Derived.Test.YtfoomgdlbkjaeaaGreatZYCl
import Derived.Test.YtfoomgdlbkjaeaaGreatZUE
import Derived.Test.YtfoomgdlbkjaeaaGreatZUF
import Derived.Test.YtfoomgdlbkjaeaaGreatZUH
namespace Go.Proofs.YtfoomgdlbkjaeaaGreat.Y
open Go.RowKit
set_option maxHeartbeats 8000000
set_option maxRecDepth 100000
attribute [local go_sem ↓] Go.wp_at_zero Go.wp_at_succ
set_option linter.unusedSimpArgs false
set_option linter.unusedVariables false
open Go.Maps
structure LSt (bm bk bh : Bool) (w0 : World) (L : LOC) (G0 G1 G2 G3 : TG) (np nr : Nat) (P : List PU) (R : List Rec) (l : Nat → Bool) (a : Act) (w : World) : Prop where
  touch : Touch L.own w0 w
  s0 : l 14 = false → TAt w L G0
  s1 : l 14 = true → l 21 = false → bm = true → TAt w L G1
  p1 : l 20 = true → l 21 = false → bm = true → ∃ ro rc, a.tmps.getD 47 undef = .slice ro np rc ∧ OwnsQ w 75 3 (.slice ro np rc) np (prodCells P)
  s2 : l 21 = true → l 28 = false → bm = true → bk = true → TAt w L G2
  p2 : l 27 = true → l 28 = false → bm = true → bk = true → ∃ ro rc, a.tmps.getD 54 undef = .slice ro nr rc ∧ OwnsQ w 39 5 (.slice ro nr rc) nr (recCells R) ∧ ∀ j, (Value.slice ro nr rc).ownBlock = some j → w0.heap.size ≤ j
  s3 : l 28 = true → bm = true → bk = true → bh = true → ∃ L' : LOC, L'.b = L.b ∧ TAt w L' G3 ∧ ∀ j, L'.own j → L.own j ∨ w0.heap.size ≤ j
theorem put_getD {a : Act} {d k : Nat} {v : Value} (h : d ≠ k) : (a.put (some d) v).tmps.getD k undef = a.tmps.getD k undef := by
  simp [Act.put, Array.getD_eq_getD_getElem?, Array.getElem?_setIfInBounds_ne h]
theorem updL_same (l : Nat → Bool) (i : Nat) : updL l i i = true := if_pos rfl
theorem updL_other (l : Nat → Bool) {i k : Nat} (h : k ≠ i) : updL l i k = l k := if_neg h
section
variable {bm bk bh : Bool} {w0 w : World} {L : LOC} {G0 G1 G2 G3 : TG} {np nr : Nat} {P : List PU} {R : List Rec} {l : Nat → Bool} {a : Act}
theorem LSt.put (h : LSt bm bk bh w0 L G0 G1 G2 G3 np nr P R l a w) (i d : Nat) (v : Value) (hi : (14 ≠ i ∧ 20 ≠ i ∧ 21 ≠ i) ∧ 27 ≠ i ∧ 28 ≠ i) (hd : d ≠ 47 ∧ d ≠ 54) : LSt bm bk bh w0 L G0 G1 G2 G3 np nr P R (updL l i) (a.put (some d) v) w := by
  obtain ⟨⟨h1, h2, h3⟩, h4, h5⟩ := hi
  refine ⟨h.touch, ?_, ?_, ?_, ?_, ?_, ?_⟩
  all_goals simp only [updL_other l h1, updL_other l h2, updL_other l h3, updL_other l h4, updL_other l h5, put_getD hd.1, put_getD hd.2]
  · exact h.s0
  · exact h.s1
  · exact h.p1
  · exact h.s2
  · exact h.p2
  · exact h.s3
theorem LSt.offm (h : LSt false bk bh w0 L G0 G1 G2 G3 np nr P R l a w) (i : Nat) (d : Nat) (v : Value) (hs : l 14 = false → updL l i 14 = false ∨ True) : LSt false bk bh w0 L G0 G1 G2 G3 np nr P R (updL l i) (a.put (some d) v) w := by
  refine ⟨h.touch, fun e => h.s0 ?_, fun _ _ e => (by cases e), fun _ _ e => (by cases e), fun _ _ e => (by cases e), fun _ _ e => (by cases e), fun _ e => (by cases e)⟩
  by_cases x : 14 = i
  · subst x
    rw [updL_same] at e
    cases e
  · rw [updL_other l x] at e
    exact e
theorem LSt.offk (h : LSt bm false bh w0 L G0 G1 G2 G3 np nr P R l a w) (i : Nat) (d : Nat) (v : Value) (hi : 14 ≠ i ∧ 20 ≠ i ∧ 21 ≠ i) (hd : d ≠ 47) : LSt bm false bh w0 L G0 G1 G2 G3 np nr P R (updL l i) (a.put (some d) v) w := by
  obtain ⟨h1, h2, h3⟩ := hi
  refine ⟨h.touch, ?_, ?_, ?_, fun _ _ _ e => (by cases e), fun _ _ _ e => (by cases e), fun _ _ e => (by cases e)⟩
  all_goals simp only [updL_other l h1, updL_other l h2, updL_other l h3, put_getD hd]
  · exact h.s0
  · exact h.s1
  · exact h.p1
end
theorem frame_ld (t : Array Value) (h : t.size = 59) : ∃ u : Nat → Value, t = List.toArray (u 0 :: u 1 :: u 2 :: u 3 :: u 4 :: u 5 :: u 6 :: u 7 :: u 8 :: u 9 :: u 10 :: u 11 :: u 12 :: u 13 :: u 14 :: u 15 :: u 16 :: u 17 :: u 18 :: u 19 :: u 20 :: u 21 :: u 22 :: u 23 :: u 24 :: u 25 :: u 26 :: u 27 :: u 28 :: u 29 :: u 30 :: u 31 :: u 32 :: u 33 :: u 34 :: u 35 :: u 36 :: u 37 :: u 38 :: u 39 :: u 40 :: u 41 :: u 42 :: u 43 :: u 44 :: u 45 :: u 46 :: u 47 :: u 48 :: u 49 :: u 50 :: u 51 :: u 52 :: u 53 :: u 54 :: u 55 :: u 56 :: u 57 :: u 58 :: []) := by
  refine ⟨fun i => t.getD i undef, ?_⟩
  refine Eq.trans (b := ((List.range 59).map fun i => t.getD i undef).toArray) ?_ rfl
  apply Array.ext
  · simp [h]
  · intro k h1 h2
    simp [Array.getD, h1]
structure Vld where
  v0 : Value
  v2 : Value
  v3 : Value
  v4 : Value
  v5 : Value
  v6 : Value
  v7 : Value
  v8 : Value
  v9 : Value
structure Fld (a : Act) (v : Vld) : Prop where
  size : a.tmps.size = 59
  defers : a.defers = []
  s0 : a.tmps.getD 0 undef = v.v0
  s2 : a.tmps.getD 2 undef = v.v2
  s3 : a.tmps.getD 3 undef = v.v3
  s4 : a.tmps.getD 4 undef = v.v4
  s5 : a.tmps.getD 5 undef = v.v5
  s6 : a.tmps.getD 6 undef = v.v6
  s7 : a.tmps.getD 7 undef = v.v7
  s8 : a.tmps.getD 8 undef = v.v8
  s9 : a.tmps.getD 9 undef = v.v9
theorem frx_ld {a : Act} {v0 v2 v3 v4 v5 v6 v7 v8 v9 : Value} (h : Fld a ⟨v0, v2, v3, v4, v5, v6, v7, v8, v9⟩) : ∃ u : Nat → Value, a = ⟨List.toArray (v0 :: u 1 :: v2 :: v3 :: v4 :: v5 :: v6 :: v7 :: v8 :: v9 :: u 10 :: u 11 :: u 12 :: u 13 :: u 14 :: u 15 :: u 16 :: u 17 :: u 18 :: u 19 :: u 20 :: u 21 :: u 22 :: u 23 :: u 24 :: u 25 :: u 26 :: u 27 :: u 28 :: u 29 :: u 30 :: u 31 :: u 32 :: u 33 :: u 34 :: u 35 :: u 36 :: u 37 :: u 38 :: u 39 :: u 40 :: u 41 :: u 42 :: u 43 :: u 44 :: u 45 :: u 46 :: u 47 :: u 48 :: u 49 :: u 50 :: u 51 :: u 52 :: u 53 :: u 54 :: u 55 :: u 56 :: u 57 :: u 58 :: []), []⟩ := by
  obtain ⟨t', d'⟩ := a
  obtain ⟨hs, hd, q0, q2, q3, q4, q5, q6, q7, q8, q9⟩ := h
  obtain ⟨u, hu⟩ := frame_ld t' hs
  simp only at hd q0 q2 q3 q4 q5 q6 q7 q8 q9
  subst hu hd
  have e0 : u 0 = v0 := q0
  have e2 : u 2 = v2 := q2
  have e3 : u 3 = v3 := q3
  have e4 : u 4 = v4 := q4
  have e5 : u 5 = v5 := q5
  have e6 : u 6 = v6 := q6
  have e7 : u 7 = v7 := q7
  have e8 : u 8 = v8 := q8
  have e9 : u 9 = v9 := q9
  refine ⟨u, ?_⟩
  rw [e0, e2, e3, e4, e5, e6, e7, e8, e9]
theorem ld_r0 {K : Act → World → Prop} {c : Code} (hc : regOf (Tryz.f20.body.getD .skip) 0 = some c) (a : Act) {v : Vld} {wq : World}  (hF : Fld a v) (hQ : ∀ a', Fld a' { v with v2 := .pointer none, v3 := .int .i64 0 } → K a' wq) :
    Code.wp Tryz.prog c (Exit.then K fun _ _ _ => False) a wq := by
  have HQ := hide hQ
  clear hQ
  obtain ⟨v0, v2, v3, v4, v5, v6, v7, v8, v9⟩ := v
  obtain ⟨u, rfl⟩ := frx_ld hF
  clear hF
  simp only [Tryz.f20, Option.getD_some, regOf] at hc
  injection hc with hc
  subst hc
  go_wp2
  exact HQ.out _ ⟨rfl, rfl, rfl, rfl, rfl, rfl, rfl, rfl, rfl, rfl, rfl⟩
theorem ld_r1 {K : Act → World → Prop} {c : Code} (hc : regOf (Tryz.f20.body.getD .skip) 1 = some c) (a : Act) {v : Vld} {wq : World} {s : ByteArray} {n1 n2 n3 : Nat} {ok : Bool} {R : Option Addr → Nat → Option Addr → Nat → Option Addr → Nat → World → Prop} (hF : Fld a v) (h0v : v.v0 = .string s) (hE : Calls Tryz.prog 42 #[.string s] wq fun e w' => ∃ ho hc po pc ro rc, e = .returned (.tuple #[.slice ho n1 hc, .slice po n2 pc, .slice ro n3 rc, .bool ok]) ∧ R ho hc po pc ro rc w')
    (hQ : ∀ a' w1 ho hc po pc ro rc, Fld a' { v with v4 := .slice ho n1 hc, v5 := .slice po n2 pc, v6 := .slice ro n3 rc, v7 := .bool ok } → R ho hc po pc ro rc w1 → K a' w1) :
    Code.wp Tryz.prog c (Exit.then K fun _ _ _ => False) a wq := by
  have HQ := hide hQ
  clear hQ
  obtain ⟨v0, v2, v3, v4, v5, v6, v7, v8, v9⟩ := v
  simp only at h0v HQ
  subst h0v
  obtain ⟨u, rfl⟩ := frx_ld hF
  clear hF
  simp only [Tryz.f20, Option.getD_some, regOf] at hc
  injection hc with hc
  subst hc
  have HE := hide hE
  clear hE
  go_wp2_with (go_at_call 42; refine HE.out.mono ?_; rintro e w1 ⟨ho, hc, po, pc, ro, rc, rfl, r1⟩; have R1 := hide r1; clear r1)
  exact HQ.out _ _ _ _ _ _ _ _ ⟨rfl, rfl, rfl, rfl, rfl, rfl, rfl, rfl, rfl, rfl, rfl⟩ R1.out
theorem ld_r2 {K : Act → World → Prop} {c : Code} (hc : regOf (Tryz.f20.body.getD .skip) 2 = some c) (a : Act) {v : Vld} {wq : World} {b : Bool} (hF : Fld a v) (h7v : v.v7 = .bool b) (hQ : ∀ a', Fld a' v → a'.tmps.getD 18 undef = .bool (!b) → K a' wq) :
    Code.wp Tryz.prog c (Exit.then K fun _ _ _ => False) a wq := by
  have HQ := hide hQ
  clear hQ
  obtain ⟨v0, v2, v3, v4, v5, v6, v7, v8, v9⟩ := v
  simp only at h7v HQ
  subst h7v
  obtain ⟨u, rfl⟩ := frx_ld hF
  clear hF
  simp only [Tryz.f20, Option.getD_some, regOf] at hc
  injection hc with hc
  subst hc
  go_wp2
  exact HQ.out _ ⟨rfl, rfl, rfl, rfl, rfl, rfl, rfl, rfl, rfl, rfl, rfl⟩ (by first | rfl | (simp; done))
theorem ld_r3 {K : Act → World → Prop} {c : Code} (hc : regOf (Tryz.f20.body.getD .skip) 3 = some c) (a : Act) {v : Vld} {wq : World}  (hF : Fld a v) (hQ : ∀ a', Fld a' { v with v2 := .pointer none, v3 := .int .i64 10 } → K a' wq) :
    Code.wp Tryz.prog c (Exit.then K fun _ _ _ => False) a wq := by
  have HQ := hide hQ
  clear hQ
  obtain ⟨v0, v2, v3, v4, v5, v6, v7, v8, v9⟩ := v
  obtain ⟨u, rfl⟩ := frx_ld hF
  clear hF
  simp only [Tryz.f20, Option.getD_some, regOf] at hc
  injection hc with hc
  subst hc
  go_wp2
  exact HQ.out _ ⟨rfl, rfl, rfl, rfl, rfl, rfl, rfl, rfl, rfl, rfl, rfl⟩
theorem ld_r6 {K : Act → World → Prop} {c : Code} (hc : regOf (Tryz.f20.body.getD .skip) 6 = some c) (a : Act) {v : Vld} {wq : World}  (hF : Fld a v) (hQ : ∀ a', Fld a' { v with v2 := .pointer none, v3 := .int .i64 10 } → K a' wq) :
    Code.wp Tryz.prog c (Exit.then K fun _ _ _ => False) a wq := by
  have HQ := hide hQ
  clear hQ
  obtain ⟨v0, v2, v3, v4, v5, v6, v7, v8, v9⟩ := v
  obtain ⟨u, rfl⟩ := frx_ld hF
  clear hF
  simp only [Tryz.f20, Option.getD_some, regOf] at hc
  injection hc with hc
  subst hc
  go_wp2
  exact HQ.out _ ⟨rfl, rfl, rfl, rfl, rfl, rfl, rfl, rfl, rfl, rfl, rfl⟩
theorem ld_r4 {K : Act → World → Prop} {c : Code} (hc : regOf (Tryz.f20.body.getD .skip) 4 = some c) (a : Act) {v : Vld} {wq : World} {g cp : Nat} {nm : ByteArray} {ec : Int} {R : Option Addr → World → Prop} (hF : Fld a v) (h4v : v.v4 = .slice (some ⟨g, 0, none⟩) 4 cp) (hB : wq.cell? ⟨g, 2, none⟩ = some (.string nm)) (hE : Calls Tryz.prog 7 #[.string nm] wq fun e w' => ∃ po, e = .returned (.tuple #[.pointer po, .int .i64 ec]) ∧ R po w')
    (hQ : ∀ a' w1 po, Fld a' { v with v8 := .pointer po, v9 := .int .i64 ec } → R po w1 → K a' w1) :
    Code.wp Tryz.prog c (Exit.then K fun _ _ _ => False) a wq := by
  have HQ := hide hQ
  clear hQ
  obtain ⟨v0, v2, v3, v4, v5, v6, v7, v8, v9⟩ := v
  simp only at h4v HQ
  subst h4v
  obtain ⟨u, rfl⟩ := frx_ld hF
  clear hF
  simp only [Tryz.f20, Option.getD_some, regOf] at hc
  injection hc with hc
  subst hc
  have HE := hide hE
  clear hE
  go_wp2_with (go_at_call 7; refine HE.out.mono ?_; rintro e w1 ⟨po, rfl, r1⟩; have R1 := hide r1; clear r1)
  exact HQ.out _ _ _ ⟨rfl, rfl, rfl, rfl, rfl, rfl, rfl, rfl, rfl, rfl, rfl⟩ R1.out
theorem ld_r5x {K : Act → World → Prop} {c : Code} (hc : regOf (Tryz.f20.body.getD .skip) 5 = some c) (a : Act) {v : Vld} {wq : World} {ec : Int} (hF : Fld a v) (h9v : v.v9 = .int .i64 ec) (he : ec ≠ 0)
    (hQ : ∀ a' w', Fld a' v → a'.tmps.getD 57 undef = .bool true → Below wq.heap.size wq w' → K a' w') :
    Code.wp Tryz.prog c (Exit.then K fun _ _ _ => False) a wq := by
  have HQ := hide hQ
  clear hQ
  obtain ⟨v0, v2, v3, v4, v5, v6, v7, v8, v9⟩ := v
  simp only at h9v HQ
  subst h9v
  obtain ⟨u, rfl⟩ := frx_ld hF
  clear hF
  simp only [Tryz.f20, Option.getD_some, regOf] at hc
  injection hc with hc
  subst hc
  have hne : (ec == 0) = false := beq_eq_false_iff_ne.2 he
  refine wp_region_phi (by kernel_rfl) (ns := 59) (uses := (fun i => match i with | 0 => [27] | 1 => [28] | 2 => [29] | 3 => [30] | 4 => [31] | 5 => [32] | 6 => [33] | 7 => [34] | 8 => [35] | 9 => [36] | 10 => [37] | 11 => [38] | 12 => [39] | 13 => [40] | 14 => [41] | 15 => [42] | 16 => [43] | 17 => [44] | 18 => [45] | 19 => [46] | 20 => [47] | 21 => [48] | 22 => [49] | 23 => [50] | 24 => [51] | 25 => [52] | 26 => [53] | 27 => [54] | 28 => [55] | 29 => [56] | 30 => [57] | _ => [])) (by kernel_rfl) (by kernel_rfl) (fun _ w w' => Below w.heap.size w w') (fun w => Below wq.heap.size wq w) (fun _ _ _ h r => h.trans (r.mono h.size)) ((Below.refl _ _).drew) (fun i => match i with | 0 => fun s w => s 27 = .int .i64 ec | 1 => fun s w => s 28 = .bool true | 2 => fun s w => s 29 = .bool true | 3 => fun s w => s 30 = undef | 4 => fun s w => s 31 = undef | 5 => fun s w => s 32 = undef | 6 => fun s w => s 33 = undef | 7 => fun s w => s 34 = undef | 8 => fun s w => s 35 = undef | 9 => fun s w => s 36 = undef | 10 => fun s w => s 37 = undef | 11 => fun s w => s 38 = undef | 12 => fun s w => s 39 = undef | 13 => fun s w => s 40 = undef | 14 => fun s w => s 41 = undef | 15 => fun s w => s 42 = undef | 16 => fun s w => s 43 = .bool true | 17 => fun s w => s 44 = .bool true | 18 => fun s w => s 45 = undef | 19 => fun s w => s 46 = undef | 20 => fun s w => s 47 = undef | 21 => fun s w => s 48 = undef | 22 => fun s w => s 49 = undef | 23 => fun s w => s 50 = .bool true | 24 => fun s w => s 51 = .bool true | 25 => fun s w => s 52 = undef | 26 => fun s w => s 53 = undef | 27 => fun s w => s 54 = undef | 28 => fun s w => s 55 = undef | 29 => fun s w => s 56 = undef | 30 => fun s w => s 57 = .bool true | _ => fun _ _ => True) ?phc ?phh ?pstep ?pdone
  case phc =>
    intro i s s' w hx h
    iterate 31 (rcases i with _ | i; · exact (hx _ (List.mem_singleton.2 rfl)).symm.trans h)
    exact h
  case phh =>
    intro i j s w w' hij h hb r
    iterate 31 (rcases i with _ | i; · exact h)
    exact h
  case pstep =>
    intro i o ho a' w' hsa hb hd
    match i, ho with
    | 0, ho =>
      obtain rfl := Option.some.inj ho
      try dsimp only at hd
      have g9 : a'.tmps.getD 9 undef = .int .i64 ec := hsa.rest 9 (by rfl)
      refine wpOp_of rfl rfl ?_
      refine op_run (v := .int .i64 ec) (w' := w') ?_ ⟨_, rfl, slots_put (ns := 59) (hsa.size.trans rfl) (by decide), Below.refl _ _⟩
      simp only [execOp, Act.eval, g9]; first | (go_simp; done) | rfl
    | 1, ho =>
      obtain rfl := Option.some.inj ho
      try dsimp only at hd
      have d0 : a'.tmps.getD 27 undef = .int .i64 ec := hd 0 (by rfl)
      refine wpOp_of rfl rfl ?_
      refine op_run (v := .bool true) (w' := w') ?_ ⟨_, rfl, slots_put (ns := 59) (hsa.size.trans rfl) (by decide), Below.refl _ _⟩
      simp only [execOp, Act.eval, d0]; first | (go_simp; done) | rfl
    | 2, ho =>
      obtain rfl := Option.some.inj ho
      try dsimp only at hd
      have d1 : a'.tmps.getD 28 undef = .bool true := hd 1 (by rfl)
      refine wpOp_of rfl rfl ?_
      refine op_run (v := .bool true) (w' := w') ?_ ⟨_, rfl, slots_put (ns := 59) (hsa.size.trans rfl) (by decide), Below.refl _ _⟩
      simp only [execOp, Act.eval, d1]; first | (go_simp; done) | rfl
    | 3, ho | 4, ho | 5, ho | 6, ho | 7, ho | 8, ho | 9, ho | 10, ho | 11, ho | 12, ho | 13, ho | 14, ho | 15, ho =>
      obtain rfl := Option.some.inj ho
      try dsimp only at hd
      have d2 : a'.tmps.getD 29 undef = .bool true := hd 2 (by rfl)
      exact wpOp_off (j := 2) (dj := 29) rfl rfl rfl d2 (by simp [undef]) ⟨undef, rfl, slots_put (ns := 59) (hsa.size.trans rfl) (by decide), Below.refl _ _⟩
    | 16, ho =>
      obtain rfl := Option.some.inj ho
      try dsimp only at hd
      have d2 : a'.tmps.getD 29 undef = .bool true := hd 2 (by rfl)
      have d15 : a'.tmps.getD 42 undef = undef := hd 15 (by rfl)
      refine wpOp_of rfl rfl ?_
      refine op_run (v := .bool true) (w' := w') ?_ ⟨_, rfl, slots_put (ns := 59) (hsa.size.trans rfl) (by decide), Below.refl _ _⟩
      simp only [execOp, Act.eval, d2, d15]; first | (go_simp; done) | rfl
    | 17, ho =>
      obtain rfl := Option.some.inj ho
      try dsimp only at hd
      have d16 : a'.tmps.getD 43 undef = .bool true := hd 16 (by rfl)
      refine wpOp_of rfl rfl ?_
      refine op_run (v := .bool true) (w' := w') ?_ ⟨_, rfl, slots_put (ns := 59) (hsa.size.trans rfl) (by decide), Below.refl _ _⟩
      simp only [execOp, Act.eval, d16]; first | (go_simp; done) | rfl
    | 18, ho | 19, ho | 20, ho | 21, ho | 22, ho =>
      obtain rfl := Option.some.inj ho
      try dsimp only at hd
      have d17 : a'.tmps.getD 44 undef = .bool true := hd 17 (by rfl)
      exact wpOp_off (j := 17) (dj := 44) rfl rfl rfl d17 (by simp [undef]) ⟨undef, rfl, slots_put (ns := 59) (hsa.size.trans rfl) (by decide), Below.refl _ _⟩
    | 23, ho =>
      obtain rfl := Option.some.inj ho
      try dsimp only at hd
      have d17 : a'.tmps.getD 44 undef = .bool true := hd 17 (by rfl)
      have d22 : a'.tmps.getD 49 undef = undef := hd 22 (by rfl)
      refine wpOp_of rfl rfl ?_
      refine op_run (v := .bool true) (w' := w') ?_ ⟨_, rfl, slots_put (ns := 59) (hsa.size.trans rfl) (by decide), Below.refl _ _⟩
      simp only [execOp, Act.eval, d17, d22]; first | (go_simp; done) | rfl
    | 24, ho =>
      obtain rfl := Option.some.inj ho
      try dsimp only at hd
      have d23 : a'.tmps.getD 50 undef = .bool true := hd 23 (by rfl)
      refine wpOp_of rfl rfl ?_
      refine op_run (v := .bool true) (w' := w') ?_ ⟨_, rfl, slots_put (ns := 59) (hsa.size.trans rfl) (by decide), Below.refl _ _⟩
      simp only [execOp, Act.eval, d23]; first | (go_simp; done) | rfl
    | 25, ho | 26, ho | 27, ho | 28, ho | 29, ho =>
      obtain rfl := Option.some.inj ho
      try dsimp only at hd
      have d24 : a'.tmps.getD 51 undef = .bool true := hd 24 (by rfl)
      exact wpOp_off (j := 24) (dj := 51) rfl rfl rfl d24 (by simp [undef]) ⟨undef, rfl, slots_put (ns := 59) (hsa.size.trans rfl) (by decide), Below.refl _ _⟩
    | 30, ho =>
      obtain rfl := Option.some.inj ho
      try dsimp only at hd
      have d24 : a'.tmps.getD 51 undef = .bool true := hd 24 (by rfl)
      have d29 : a'.tmps.getD 56 undef = undef := hd 29 (by rfl)
      refine wpOp_of rfl rfl ?_
      refine op_run (v := .bool true) (w' := w') ?_ ⟨_, rfl, slots_put (ns := 59) (hsa.size.trans rfl) (by decide), Below.refl _ _⟩
      simp only [execOp, Act.eval, d24, d29]; first | (go_simp; done) | rfl
    | (n + 31), ho => exact absurd ho (by simp)
  case pdone =>
    intro a' w' hsa hb hd
    have d30 : a'.tmps.getD 57 undef = .bool true := hd 30 (by decide)
    exact HQ.out a' w' ⟨hsa.size.trans rfl, hsa.defers.trans rfl, hsa.rest 0 (by rfl), hsa.rest 2 (by rfl), hsa.rest 3 (by rfl), hsa.rest 4 (by rfl), hsa.rest 5 (by rfl), hsa.rest 6 (by rfl), hsa.rest 7 (by rfl), hsa.rest 8 (by rfl), hsa.rest 9 (by rfl)⟩ d30 hb
theorem ld_r5b {K : Act → World → Prop} {c : Code} (hc : regOf (Tryz.f20.body.getD .skip) 5 = some c) (a : Act) {v : Vld} {wq : World} {L : LOC} {G0 G1 G2 G3 : TG} {np nr : Nat} {P : List PU} {R : List Rec} {g cp : Nat} {y1 y2 : Int} (hF : Fld a v) (h4v : v.v4 = .slice (some ⟨g, 0, none⟩) 4 cp) (h8v : v.v8 = .pointer (some ⟨L.b, 0, none⟩)) (h9v : v.v9 = .int .i64 0) (hT : TAt wq L G0) (hg1 : ∀ W, Touch L.own wq W → W.cell? ⟨g, 4, none⟩ = some (.int .u64 y1)) (hg2 : ∀ W, Touch L.own wq W → W.cell? ⟨g, 7, none⟩ = some (.int .u64 y2)) (hM : ∀ W, Touch L.own wq W → TAt W L G0 → Calls Tryz.prog 43 #[.pointer (some ⟨L.b, 0, none⟩), .int .i64 (IntKind.i64.wrap y1), .int .i64 (IntKind.i64.wrap y2)] W fun e w' => e = .returned (.bool false) ∧ Touch L.own W w' ∧ (false = true → TAt w' L G1)) 
    (hQ : ∀ a' w', Fld a' v → a'.tmps.getD 57 undef = .bool true → Touch L.own wq w' → K a' w') :
    Code.wp Tryz.prog c (Exit.then K fun _ _ _ => False) a wq := by
  have HQ := hide hQ
  clear hQ
  obtain ⟨v0, v2, v3, v4, v5, v6, v7, v8, v9⟩ := v
  simp only at h4v h8v h9v HQ
  subst h4v h8v h9v
  obtain ⟨u, rfl⟩ := frx_ld hF
  clear hF
  simp only [Tryz.f20, Option.getD_some, regOf] at hc
  injection hc with hc
  subst hc
  refine wp_region_any rfl ?_
  have HT0 := hide hT
  clear hT
  refine wpAny_staged (ns := 59) (uses := (fun i => match i with | 0 => [27] | 1 => [28] | 2 => [29] | 3 => [30] | 4 => [31] | 5 => [32] | 6 => [33] | 7 => [34] | 8 => [35] | 9 => [36] | 10 => [37] | 11 => [38] | 12 => [39] | 13 => [40] | 14 => [41] | 15 => [42] | 16 => [43] | 17 => [44] | 18 => [45] | 19 => [46] | 20 => [47] | 21 => [48] | 22 => [49] | 23 => [50] | 24 => [51] | 25 => [52] | 26 => [53] | 27 => [54] | 28 => [55] | 29 => [56] | 30 => [57] | _ => [])) (by kernel_rfl) (by kernel_rfl) (LSt false false false wq L G0 G1 G2 G3 np nr P R) ?h0 (fun i => match i with | 0 => fun s => s 27 = .int .i64 0 | 1 => fun s => s 28 = .bool false | 2 => fun s => s 29 = .bool false | 3 => fun s => s 30 = .pointer (some ⟨L.b, 0, none⟩) | 4 => fun s => s 31 = .slice (some ⟨g, 0, none⟩) 4 cp | 5 => fun s => s 32 = .pointer (some ⟨g, 3, none⟩) | 6 => fun s => s 33 = .pointer (some ⟨g, 4, none⟩) | 7 => fun s => s 34 = .int .u64 y1 | 8 => fun s => s 35 = .int .i64 (IntKind.i64.wrap y1) | 9 => fun s => s 36 = .slice (some ⟨g, 0, none⟩) 4 cp | 10 => fun s => s 37 = .pointer (some ⟨g, 6, none⟩) | 11 => fun s => s 38 = .pointer (some ⟨g, 7, none⟩) | 12 => fun s => s 39 = .int .u64 y2 | 13 => fun s => s 40 = .int .i64 (IntKind.i64.wrap y2) | 14 => fun s => s 41 = .bool false | 15 => fun s => s 42 = .bool true | 16 => fun s => s 43 = .bool true | 17 => fun s => s 44 = .bool true | 18 => fun s => s 45 = undef | 19 => fun s => s 46 = undef | 20 => fun s => s 47 = undef | 21 => fun s => s 48 = undef | 22 => fun s => s 49 = undef | 23 => fun s => s 50 = .bool true | 24 => fun s => s 51 = .bool true | 25 => fun s => s 52 = undef | 26 => fun s => s 53 = undef | 27 => fun s => s 54 = undef | 28 => fun s => s 55 = undef | 29 => fun s => s 56 = undef | 30 => fun s => s 57 = .bool true | _ => fun _ => True) ?phc ?pstep ?pdone
  case h0 =>
    exact ⟨(Touch.refl _ _).drew, fun _ => HT0.out.below (Below.refl _ _).drew, fun e => (by cases e), fun e => (by cases e), fun e => (by cases e), fun e => (by cases e), fun e => (by cases e)⟩
  case phc =>
    intro i s s' hx h
    iterate 31 (rcases i with _ | i; · exact (hx _ (List.mem_singleton.2 rfl)).symm.trans h)
    exact h
  case pstep =>
    intro i o ho a' w' l hl hr hq hsa hS hd
    match i, ho, hl, hr, hq with
    | 0, ho, hl, hr, hq =>
      obtain rfl := Option.some.inj ho
      try dsimp only at hd
      have g9 : a'.tmps.getD 9 undef = .int .i64 0 := hsa.rest 9 (by rfl)
      refine wpOp_of rfl rfl ?_
      refine op_run (v := .int .i64 0) (w' := w') ?_ ⟨_, rfl, ?_, ?_⟩
      · simp only [execOp, Act.eval, g9]; first | (go_simp; done) | rfl
      · try dsimp only
        exact (slots_put (ns := 59) (hsa.size.trans rfl) (by decide))
      · exact hS.put 0 27 _ (by decide) (by decide)
    | 1, ho, hl, hr, hq =>
      obtain rfl := Option.some.inj ho
      try dsimp only at hd
      have d0 : a'.tmps.getD 27 undef = .int .i64 0 := hd 0 (by rfl)
      refine wpOp_of rfl rfl ?_
      refine op_run (v := .bool false) (w' := w') ?_ ⟨_, rfl, ?_, ?_⟩
      · simp only [execOp, Act.eval, d0]; first | (go_simp; done) | rfl
      · try dsimp only
        exact (slots_put (ns := 59) (hsa.size.trans rfl) (by decide))
      · exact hS.put 1 28 _ (by decide) (by decide)
    | 2, ho, hl, hr, hq =>
      obtain rfl := Option.some.inj ho
      try dsimp only at hd
      have d1 : a'.tmps.getD 28 undef = .bool false := hd 1 (by rfl)
      refine wpOp_of rfl rfl ?_
      refine op_run (v := .bool false) (w' := w') ?_ ⟨_, rfl, ?_, ?_⟩
      · simp only [execOp, Act.eval, d1]; first | (go_simp; done) | rfl
      · try dsimp only
        exact (slots_put (ns := 59) (hsa.size.trans rfl) (by decide))
      · exact hS.put 2 29 _ (by decide) (by decide)
    | 3, ho, hl, hr, hq =>
      obtain rfl := Option.some.inj ho
      try dsimp only at hd
      have d2 : a'.tmps.getD 29 undef = .bool false := hd 2 (by rfl)
      have g8 : a'.tmps.getD 8 undef = .pointer (some ⟨L.b, 0, none⟩) := hsa.rest 8 (by rfl)
      refine wpOp_on (j := 2) (dj := 29) rfl rfl rfl d2 ?_
      refine op_run (v := .pointer (some ⟨L.b, 0, none⟩)) (w' := w') ?_ ⟨_, rfl, ?_, ?_⟩
      · simp only [execOp, Act.eval, d2, g8]; first | (go_simp; done) | rfl
      · try dsimp only
        exact (slots_put (ns := 59) (hsa.size.trans rfl) (by decide))
      · exact hS.put 3 30 _ (by decide) (by decide)
    | 4, ho, hl, hr, hq =>
      obtain rfl := Option.some.inj ho
      try dsimp only at hd
      have d2 : a'.tmps.getD 29 undef = .bool false := hd 2 (by rfl)
      have g4 : a'.tmps.getD 4 undef = .slice (some ⟨g, 0, none⟩) 4 cp := hsa.rest 4 (by rfl)
      refine wpOp_on (j := 2) (dj := 29) rfl rfl rfl d2 ?_
      refine op_run (v := .slice (some ⟨g, 0, none⟩) 4 cp) (w' := w') ?_ ⟨_, rfl, ?_, ?_⟩
      · simp only [execOp, Act.eval, d2, g4]; first | (go_simp; done) | rfl
      · try dsimp only
        exact (slots_put (ns := 59) (hsa.size.trans rfl) (by decide))
      · exact hS.put 4 31 _ (by decide) (by decide)
    | 5, ho, hl, hr, hq =>
      obtain rfl := Option.some.inj ho
      try dsimp only at hd
      have d2 : a'.tmps.getD 29 undef = .bool false := hd 2 (by rfl)
      have d4 : a'.tmps.getD 31 undef = .slice (some ⟨g, 0, none⟩) 4 cp := hd 4 (by rfl)
      refine wpOp_on (j := 2) (dj := 29) rfl rfl rfl d2 ?_
      refine op_run (v := .pointer (some ⟨g, 3, none⟩)) (w' := w') ?_ ⟨_, rfl, ?_, ?_⟩
      · simp only [execOp, Act.eval, d2, d4]; first | (go_simp; done) | rfl
      · try dsimp only
        exact (slots_put (ns := 59) (hsa.size.trans rfl) (by decide))
      · exact hS.put 5 32 _ (by decide) (by decide)
    | 6, ho, hl, hr, hq =>
      obtain rfl := Option.some.inj ho
      try dsimp only at hd
      have d2 : a'.tmps.getD 29 undef = .bool false := hd 2 (by rfl)
      have d5 : a'.tmps.getD 32 undef = .pointer (some ⟨g, 3, none⟩) := hd 5 (by rfl)
      refine wpOp_on (j := 2) (dj := 29) rfl rfl rfl d2 ?_
      refine op_run (v := .pointer (some ⟨g, 4, none⟩)) (w' := w') ?_ ⟨_, rfl, ?_, ?_⟩
      · simp only [execOp, Act.eval, d2, d5]; first | (go_simp; done) | rfl
      · try dsimp only
        exact (slots_put (ns := 59) (hsa.size.trans rfl) (by decide))
      · exact hS.put 6 33 _ (by decide) (by decide)
    | 7, ho, hl, hr, hq =>
      obtain rfl := Option.some.inj ho
      try dsimp only at hd
      have d2 : a'.tmps.getD 29 undef = .bool false := hd 2 (by rfl)
      have d6 : a'.tmps.getD 33 undef = .pointer (some ⟨g, 4, none⟩) := hd 6 (by rfl)
      refine wpOp_on (j := 2) (dj := 29) rfl rfl rfl d2 ?_
      have y := (hg1 w' hS.touch)
      refine op_run (v := .int .u64 y1) (w' := w') ?_ ⟨_, rfl, ?_, ?_⟩
      · simp only [execOp, Act.eval, d2, d6, y]; first | (go_simp; done) | rfl
      · try dsimp only
        exact (slots_put (ns := 59) (hsa.size.trans rfl) (by decide))
      · exact hS.put 7 34 _ (by decide) (by decide)
    | 8, ho, hl, hr, hq =>
      obtain rfl := Option.some.inj ho
      try dsimp only at hd
      have d2 : a'.tmps.getD 29 undef = .bool false := hd 2 (by rfl)
      have d7 : a'.tmps.getD 34 undef = .int .u64 y1 := hd 7 (by rfl)
      refine wpOp_on (j := 2) (dj := 29) rfl rfl rfl d2 ?_
      refine op_run (v := .int .i64 (IntKind.i64.wrap y1)) (w' := w') ?_ ⟨_, rfl, ?_, ?_⟩
      · simp only [execOp, Act.eval, d2, d7]; first | (go_simp; done) | rfl
      · try dsimp only
        exact (slots_put (ns := 59) (hsa.size.trans rfl) (by decide))
      · exact hS.put 8 35 _ (by decide) (by decide)
    | 9, ho, hl, hr, hq =>
      obtain rfl := Option.some.inj ho
      try dsimp only at hd
      have d2 : a'.tmps.getD 29 undef = .bool false := hd 2 (by rfl)
      have g4 : a'.tmps.getD 4 undef = .slice (some ⟨g, 0, none⟩) 4 cp := hsa.rest 4 (by rfl)
      refine wpOp_on (j := 2) (dj := 29) rfl rfl rfl d2 ?_
      refine op_run (v := .slice (some ⟨g, 0, none⟩) 4 cp) (w' := w') ?_ ⟨_, rfl, ?_, ?_⟩
      · simp only [execOp, Act.eval, d2, g4]; first | (go_simp; done) | rfl
      · try dsimp only
        exact (slots_put (ns := 59) (hsa.size.trans rfl) (by decide))
      · exact hS.put 9 36 _ (by decide) (by decide)
    | 10, ho, hl, hr, hq =>
      obtain rfl := Option.some.inj ho
      try dsimp only at hd
      have d2 : a'.tmps.getD 29 undef = .bool false := hd 2 (by rfl)
      have d9 : a'.tmps.getD 36 undef = .slice (some ⟨g, 0, none⟩) 4 cp := hd 9 (by rfl)
      refine wpOp_on (j := 2) (dj := 29) rfl rfl rfl d2 ?_
      refine op_run (v := .pointer (some ⟨g, 6, none⟩)) (w' := w') ?_ ⟨_, rfl, ?_, ?_⟩
      · simp only [execOp, Act.eval, d2, d9]; first | (go_simp; done) | rfl
      · try dsimp only
        exact (slots_put (ns := 59) (hsa.size.trans rfl) (by decide))
      · exact hS.put 10 37 _ (by decide) (by decide)
    | 11, ho, hl, hr, hq =>
      obtain rfl := Option.some.inj ho
      try dsimp only at hd
      have d2 : a'.tmps.getD 29 undef = .bool false := hd 2 (by rfl)
      have d10 : a'.tmps.getD 37 undef = .pointer (some ⟨g, 6, none⟩) := hd 10 (by rfl)
      refine wpOp_on (j := 2) (dj := 29) rfl rfl rfl d2 ?_
      refine op_run (v := .pointer (some ⟨g, 7, none⟩)) (w' := w') ?_ ⟨_, rfl, ?_, ?_⟩
      · simp only [execOp, Act.eval, d2, d10]; first | (go_simp; done) | rfl
      · try dsimp only
        exact (slots_put (ns := 59) (hsa.size.trans rfl) (by decide))
      · exact hS.put 11 38 _ (by decide) (by decide)
    | 12, ho, hl, hr, hq =>
      obtain rfl := Option.some.inj ho
      try dsimp only at hd
      have d2 : a'.tmps.getD 29 undef = .bool false := hd 2 (by rfl)
      have d11 : a'.tmps.getD 38 undef = .pointer (some ⟨g, 7, none⟩) := hd 11 (by rfl)
      refine wpOp_on (j := 2) (dj := 29) rfl rfl rfl d2 ?_
      have y := (hg2 w' hS.touch)
      refine op_run (v := .int .u64 y2) (w' := w') ?_ ⟨_, rfl, ?_, ?_⟩
      · simp only [execOp, Act.eval, d2, d11, y]; first | (go_simp; done) | rfl
      · try dsimp only
        exact (slots_put (ns := 59) (hsa.size.trans rfl) (by decide))
      · exact hS.put 12 39 _ (by decide) (by decide)
    | 13, ho, hl, hr, hq =>
      obtain rfl := Option.some.inj ho
      try dsimp only at hd
      have d2 : a'.tmps.getD 29 undef = .bool false := hd 2 (by rfl)
      have d12 : a'.tmps.getD 39 undef = .int .u64 y2 := hd 12 (by rfl)
      refine wpOp_on (j := 2) (dj := 29) rfl rfl rfl d2 ?_
      refine op_run (v := .int .i64 (IntKind.i64.wrap y2)) (w' := w') ?_ ⟨_, rfl, ?_, ?_⟩
      · simp only [execOp, Act.eval, d2, d12]; first | (go_simp; done) | rfl
      · try dsimp only
        exact (slots_put (ns := 59) (hsa.size.trans rfl) (by decide))
      · exact hS.put 13 40 _ (by decide) (by decide)
    | 14, ho, hl, hr, hq =>
      obtain rfl := Option.some.inj ho
      try dsimp only at hd
      have d2 : a'.tmps.getD 29 undef = .bool false := hd 2 (by rfl)
      have d3 : a'.tmps.getD 30 undef = .pointer (some ⟨L.b, 0, none⟩) := hd 3 (by rfl)
      have d8 : a'.tmps.getD 35 undef = .int .i64 (IntKind.i64.wrap y1) := hd 8 (by rfl)
      have d13 : a'.tmps.getD 40 undef = .int .i64 (IntKind.i64.wrap y2) := hd 13 (by rfl)
      refine wpOp_on (j := 2) (dj := 29) rfl rfl rfl d2 ?_
      have t0 := hS.s0 hl
      refine op_call 43 _ _ rfl (enters_of Tryz.func43 (by kernel_rfl) rfl) [.pointer (some ⟨L.b, 0, none⟩), .int .i64 (IntKind.i64.wrap y1), .int .i64 (IntKind.i64.wrap y2)] (by simp only [List.map, Act.eval, d2, d3, d8, d13]) (hM w' hS.touch t0) ?_
      rintro e w'' ⟨rfl, tt, ta⟩
      refine ⟨_, rfl, _, rfl, ?_, ?_⟩
      · try dsimp only
        exact (slots_put (ns := 59) (hsa.size.trans rfl) (by decide))
      · exact ⟨hS.touch.andThen tt fun _ _ e => e, fun e => absurd e (by rw [updL_same]; decide), fun _ _ e => ta e, fun e => absurd e (by rw [updL_other l (by decide), hq 20 (by kernel_rfl)]; decide), fun e => absurd e (by rw [updL_other l (by decide), hq 21 (by kernel_rfl)]; decide), fun e => absurd e (by rw [updL_other l (by decide), hq 27 (by kernel_rfl)]; decide), fun e => absurd e (by rw [updL_other l (by decide), hq 28 (by kernel_rfl)]; decide)⟩
    | 15, ho, hl, hr, hq =>
      obtain rfl := Option.some.inj ho
      try dsimp only at hd
      have d2 : a'.tmps.getD 29 undef = .bool false := hd 2 (by rfl)
      have d14 : a'.tmps.getD 41 undef = .bool false := hd 14 (by rfl)
      refine wpOp_on (j := 2) (dj := 29) rfl rfl rfl d2 ?_
      refine op_run (v := .bool true) (w' := w') ?_ ⟨_, rfl, ?_, ?_⟩
      · simp only [execOp, Act.eval, d2, d14]; first | (go_simp; done) | rfl
      · try dsimp only
        exact (slots_put (ns := 59) (hsa.size.trans rfl) (by decide))
      · exact hS.put 15 42 _ (by decide) (by decide)
    | 16, ho, hl, hr, hq =>
      obtain rfl := Option.some.inj ho
      try dsimp only at hd
      have d2 : a'.tmps.getD 29 undef = .bool false := hd 2 (by rfl)
      have d15 : a'.tmps.getD 42 undef = .bool true := hd 15 (by rfl)
      refine wpOp_of rfl rfl ?_
      refine op_run (v := .bool true) (w' := w') ?_ ⟨_, rfl, ?_, ?_⟩
      · simp only [execOp, Act.eval, d2, d15]; first | (go_simp; done) | rfl
      · try dsimp only
        exact (slots_put (ns := 59) (hsa.size.trans rfl) (by decide))
      · exact hS.put 16 43 _ (by decide) (by decide)
    | 17, ho, hl, hr, hq =>
      obtain rfl := Option.some.inj ho
      try dsimp only at hd
      have d16 : a'.tmps.getD 43 undef = .bool true := hd 16 (by rfl)
      refine wpOp_of rfl rfl ?_
      refine op_run (v := .bool true) (w' := w') ?_ ⟨_, rfl, ?_, ?_⟩
      · simp only [execOp, Act.eval, d16]; first | (go_simp; done) | rfl
      · try dsimp only
        exact (slots_put (ns := 59) (hsa.size.trans rfl) (by decide))
      · exact hS.put 17 44 _ (by decide) (by decide)
    | 18, ho, hl, hr, hq =>
      obtain rfl := Option.some.inj ho
      try dsimp only at hd
      have d17 : a'.tmps.getD 44 undef = .bool true := hd 17 (by rfl)
      refine wpOp_off (j := 17) (dj := 44) rfl rfl rfl d17 (by simp [undef]) ⟨undef, rfl, ?_, ?_⟩
      · exact (slots_put (ns := 59) (hsa.size.trans rfl) (by decide))
      · exact hS.offm 18 45 _ (fun _ => .inr trivial)
    | 19, ho, hl, hr, hq =>
      obtain rfl := Option.some.inj ho
      try dsimp only at hd
      have d17 : a'.tmps.getD 44 undef = .bool true := hd 17 (by rfl)
      refine wpOp_off (j := 17) (dj := 44) rfl rfl rfl d17 (by simp [undef]) ⟨undef, rfl, ?_, ?_⟩
      · exact (slots_put (ns := 59) (hsa.size.trans rfl) (by decide))
      · exact hS.offm 19 46 _ (fun _ => .inr trivial)
    | 20, ho, hl, hr, hq =>
      obtain rfl := Option.some.inj ho
      try dsimp only at hd
      have d17 : a'.tmps.getD 44 undef = .bool true := hd 17 (by rfl)
      refine wpOp_off (j := 17) (dj := 44) rfl rfl rfl d17 (by simp [undef]) ⟨undef, rfl, ?_, ?_⟩
      · exact (slots_put (ns := 59) (hsa.size.trans rfl) (by decide))
      · exact hS.offm 20 47 _ (fun _ => .inr trivial)
    | 21, ho, hl, hr, hq =>
      obtain rfl := Option.some.inj ho
      try dsimp only at hd
      have d17 : a'.tmps.getD 44 undef = .bool true := hd 17 (by rfl)
      refine wpOp_off (j := 17) (dj := 44) rfl rfl rfl d17 (by simp [undef]) ⟨undef, rfl, ?_, ?_⟩
      · exact (slots_put (ns := 59) (hsa.size.trans rfl) (by decide))
      · exact hS.offm 21 48 _ (fun _ => .inr trivial)
    | 22, ho, hl, hr, hq =>
      obtain rfl := Option.some.inj ho
      try dsimp only at hd
      have d17 : a'.tmps.getD 44 undef = .bool true := hd 17 (by rfl)
      refine wpOp_off (j := 17) (dj := 44) rfl rfl rfl d17 (by simp [undef]) ⟨undef, rfl, ?_, ?_⟩
      · exact (slots_put (ns := 59) (hsa.size.trans rfl) (by decide))
      · exact hS.offm 22 49 _ (fun _ => .inr trivial)
    | 23, ho, hl, hr, hq =>
      obtain rfl := Option.some.inj ho
      try dsimp only at hd
      have d17 : a'.tmps.getD 44 undef = .bool true := hd 17 (by rfl)
      have d22 : a'.tmps.getD 49 undef = undef := hd 22 (by rfl)
      refine wpOp_of rfl rfl ?_
      refine op_run (v := .bool true) (w' := w') ?_ ⟨_, rfl, ?_, ?_⟩
      · simp only [execOp, Act.eval, d17, d22]; first | (go_simp; done) | rfl
      · try dsimp only
        exact (slots_put (ns := 59) (hsa.size.trans rfl) (by decide))
      · exact hS.put 23 50 _ (by decide) (by decide)
    | 24, ho, hl, hr, hq =>
      obtain rfl := Option.some.inj ho
      try dsimp only at hd
      have d23 : a'.tmps.getD 50 undef = .bool true := hd 23 (by rfl)
      refine wpOp_of rfl rfl ?_
      refine op_run (v := .bool true) (w' := w') ?_ ⟨_, rfl, ?_, ?_⟩
      · simp only [execOp, Act.eval, d23]; first | (go_simp; done) | rfl
      · try dsimp only
        exact (slots_put (ns := 59) (hsa.size.trans rfl) (by decide))
      · exact hS.put 24 51 _ (by decide) (by decide)
    | 25, ho, hl, hr, hq =>
      obtain rfl := Option.some.inj ho
      try dsimp only at hd
      have d24 : a'.tmps.getD 51 undef = .bool true := hd 24 (by rfl)
      refine wpOp_off (j := 24) (dj := 51) rfl rfl rfl d24 (by simp [undef]) ⟨undef, rfl, ?_, ?_⟩
      · exact (slots_put (ns := 59) (hsa.size.trans rfl) (by decide))
      · exact hS.offm 25 52 _ (fun _ => .inr trivial)
    | 26, ho, hl, hr, hq =>
      obtain rfl := Option.some.inj ho
      try dsimp only at hd
      have d24 : a'.tmps.getD 51 undef = .bool true := hd 24 (by rfl)
      refine wpOp_off (j := 24) (dj := 51) rfl rfl rfl d24 (by simp [undef]) ⟨undef, rfl, ?_, ?_⟩
      · exact (slots_put (ns := 59) (hsa.size.trans rfl) (by decide))
      · exact hS.offm 26 53 _ (fun _ => .inr trivial)
    | 27, ho, hl, hr, hq =>
      obtain rfl := Option.some.inj ho
      try dsimp only at hd
      have d24 : a'.tmps.getD 51 undef = .bool true := hd 24 (by rfl)
      refine wpOp_off (j := 24) (dj := 51) rfl rfl rfl d24 (by simp [undef]) ⟨undef, rfl, ?_, ?_⟩
      · exact (slots_put (ns := 59) (hsa.size.trans rfl) (by decide))
      · exact hS.offm 27 54 _ (fun _ => .inr trivial)
    | 28, ho, hl, hr, hq =>
      obtain rfl := Option.some.inj ho
      try dsimp only at hd
      have d24 : a'.tmps.getD 51 undef = .bool true := hd 24 (by rfl)
      refine wpOp_off (j := 24) (dj := 51) rfl rfl rfl d24 (by simp [undef]) ⟨undef, rfl, ?_, ?_⟩
      · exact (slots_put (ns := 59) (hsa.size.trans rfl) (by decide))
      · exact hS.offm 28 55 _ (fun _ => .inr trivial)
    | 29, ho, hl, hr, hq =>
      obtain rfl := Option.some.inj ho
      try dsimp only at hd
      have d24 : a'.tmps.getD 51 undef = .bool true := hd 24 (by rfl)
      refine wpOp_off (j := 24) (dj := 51) rfl rfl rfl d24 (by simp [undef]) ⟨undef, rfl, ?_, ?_⟩
      · exact (slots_put (ns := 59) (hsa.size.trans rfl) (by decide))
      · exact hS.offm 29 56 _ (fun _ => .inr trivial)
    | 30, ho, hl, hr, hq =>
      obtain rfl := Option.some.inj ho
      try dsimp only at hd
      have d24 : a'.tmps.getD 51 undef = .bool true := hd 24 (by rfl)
      have d29 : a'.tmps.getD 56 undef = undef := hd 29 (by rfl)
      refine wpOp_of rfl rfl ?_
      refine op_run (v := .bool true) (w' := w') ?_ ⟨_, rfl, ?_, ?_⟩
      · simp only [execOp, Act.eval, d24, d29]; first | (go_simp; done) | rfl
      · try dsimp only
        exact (slots_put (ns := 59) (hsa.size.trans rfl) (by decide))
      · exact hS.put 30 57 _ (by decide) (by decide)
    | (n + 31), ho, _, _, _ => exact absurd ho (by simp)
  case pdone =>
    intro a' w' l hl hsa hS hd
    have d30 : a'.tmps.getD 57 undef = .bool true := hd 30 (by decide)
    exact HQ.out a' w' ⟨hsa.size.trans rfl, hsa.defers.trans rfl, hsa.rest 0 (by rfl), hsa.rest 2 (by rfl), hsa.rest 3 (by rfl), hsa.rest 4 (by rfl), hsa.rest 5 (by rfl), hsa.rest 6 (by rfl), hsa.rest 7 (by rfl), hsa.rest 8 (by rfl), hsa.rest 9 (by rfl)⟩ d30 hS.touch
theorem ld_r5c {K : Act → World → Prop} {c : Code} (hc : regOf (Tryz.f20.body.getD .skip) 5 = some c) (a : Act) {v : Vld} {wq : World} {L : LOC} {G0 G1 G2 G3 : TG} {np nr : Nat} {P : List PU} {R : List Rec} {g cp : Nat} {y1 y2 : Int} {po : Option Addr} {pn pc : Nat} (hF : Fld a v) (h4v : v.v4 = .slice (some ⟨g, 0, none⟩) 4 cp) (h8v : v.v8 = .pointer (some ⟨L.b, 0, none⟩)) (h9v : v.v9 = .int .i64 0) (h5v : v.v5 = .slice po pn pc) (hT : TAt wq L G0) (hg1 : ∀ W, Touch L.own wq W → W.cell? ⟨g, 4, none⟩ = some (.int .u64 y1)) (hg2 : ∀ W, Touch L.own wq W → W.cell? ⟨g, 7, none⟩ = some (.int .u64 y2)) (hM : ∀ W, Touch L.own wq W → TAt W L G0 → Calls Tryz.prog 43 #[.pointer (some ⟨L.b, 0, none⟩), .int .i64 (IntKind.i64.wrap y1), .int .i64 (IntKind.i64.wrap y2)] W fun e w' => e = .returned (.bool true) ∧ Touch L.own W w' ∧ (true = true → TAt w' L G1)) (hP : ∀ W, Touch L.own wq W → Calls Tryz.prog 45 #[.slice po pn pc] W fun e w' => ∃ ro rc, e = .returned (.slice ro np rc) ∧ OwnsQ w' 75 3 (.slice ro np rc) np (prodCells P) ∧ Below W.heap.size W w') (hK : ∀ W ro rc, Touch L.own wq W → TAt W L G1 → OwnsQ W 75 3 (.slice ro np rc) np (prodCells P) → Calls Tryz.prog 44 #[.pointer (some ⟨L.b, 0, none⟩), .slice ro np rc] W fun e w' => e = .returned (.bool false) ∧ Touch L.own W w' ∧ (false = true → TAt w' L G2)) 
    (hQ : ∀ a' w', Fld a' v → a'.tmps.getD 57 undef = .bool true → Touch L.own wq w' → K a' w') :
    Code.wp Tryz.prog c (Exit.then K fun _ _ _ => False) a wq := by
  have HQ := hide hQ
  clear hQ
  obtain ⟨v0, v2, v3, v4, v5, v6, v7, v8, v9⟩ := v
  simp only at h4v h8v h9v h5v HQ
  subst h4v h8v h9v h5v
  obtain ⟨u, rfl⟩ := frx_ld hF
  clear hF
  simp only [Tryz.f20, Option.getD_some, regOf] at hc
  injection hc with hc
  subst hc
  refine wp_region_any rfl ?_
  have HT0 := hide hT
  clear hT
  refine wpAny_staged (ns := 59) (uses := (fun i => match i with | 0 => [27] | 1 => [28] | 2 => [29] | 3 => [30] | 4 => [31] | 5 => [32] | 6 => [33] | 7 => [34] | 8 => [35] | 9 => [36] | 10 => [37] | 11 => [38] | 12 => [39] | 13 => [40] | 14 => [41] | 15 => [42] | 16 => [43] | 17 => [44] | 18 => [45] | 19 => [46] | 20 => [47] | 21 => [48] | 22 => [49] | 23 => [50] | 24 => [51] | 25 => [52] | 26 => [53] | 27 => [54] | 28 => [55] | 29 => [56] | 30 => [57] | _ => [])) (by kernel_rfl) (by kernel_rfl) (LSt true false false wq L G0 G1 G2 G3 np nr P R) ?h0 (fun i => match i with | 0 => fun s => s 27 = .int .i64 0 | 1 => fun s => s 28 = .bool false | 2 => fun s => s 29 = .bool false | 3 => fun s => s 30 = .pointer (some ⟨L.b, 0, none⟩) | 4 => fun s => s 31 = .slice (some ⟨g, 0, none⟩) 4 cp | 5 => fun s => s 32 = .pointer (some ⟨g, 3, none⟩) | 6 => fun s => s 33 = .pointer (some ⟨g, 4, none⟩) | 7 => fun s => s 34 = .int .u64 y1 | 8 => fun s => s 35 = .int .i64 (IntKind.i64.wrap y1) | 9 => fun s => s 36 = .slice (some ⟨g, 0, none⟩) 4 cp | 10 => fun s => s 37 = .pointer (some ⟨g, 6, none⟩) | 11 => fun s => s 38 = .pointer (some ⟨g, 7, none⟩) | 12 => fun s => s 39 = .int .u64 y2 | 13 => fun s => s 40 = .int .i64 (IntKind.i64.wrap y2) | 14 => fun s => s 41 = .bool true | 15 => fun s => s 42 = .bool false | 16 => fun s => s 43 = .bool false | 17 => fun s => s 44 = .bool false | 18 => fun s => s 45 = .pointer (some ⟨L.b, 0, none⟩) | 19 => fun s => s 46 = .slice po pn pc | 20 => fun s => ∃ xo xc, s 47 = .slice xo np xc | 21 => fun s => s 48 = .bool false | 22 => fun s => s 49 = .bool true | 23 => fun s => s 50 = .bool true | 24 => fun s => s 51 = .bool true | 25 => fun s => s 52 = undef | 26 => fun s => s 53 = undef | 27 => fun s => s 54 = undef | 28 => fun s => s 55 = undef | 29 => fun s => s 56 = undef | 30 => fun s => s 57 = .bool true | _ => fun _ => True) ?phc ?pstep ?pdone
  case h0 =>
    exact ⟨(Touch.refl _ _).drew, fun _ => HT0.out.below (Below.refl _ _).drew, fun e => (by cases e), fun e => (by cases e), fun e => (by cases e), fun e => (by cases e), fun e => (by cases e)⟩
  case phc =>
    intro i s s' hx h
    match i, hx, h with
    | 0, hx, h => exact (hx 27 (by simp)).symm.trans h
    | 1, hx, h => exact (hx 28 (by simp)).symm.trans h
    | 2, hx, h => exact (hx 29 (by simp)).symm.trans h
    | 3, hx, h => exact (hx 30 (by simp)).symm.trans h
    | 4, hx, h => exact (hx 31 (by simp)).symm.trans h
    | 5, hx, h => exact (hx 32 (by simp)).symm.trans h
    | 6, hx, h => exact (hx 33 (by simp)).symm.trans h
    | 7, hx, h => exact (hx 34 (by simp)).symm.trans h
    | 8, hx, h => exact (hx 35 (by simp)).symm.trans h
    | 9, hx, h => exact (hx 36 (by simp)).symm.trans h
    | 10, hx, h => exact (hx 37 (by simp)).symm.trans h
    | 11, hx, h => exact (hx 38 (by simp)).symm.trans h
    | 12, hx, h => exact (hx 39 (by simp)).symm.trans h
    | 13, hx, h => exact (hx 40 (by simp)).symm.trans h
    | 14, hx, h => exact (hx 41 (by simp)).symm.trans h
    | 15, hx, h => exact (hx 42 (by simp)).symm.trans h
    | 16, hx, h => exact (hx 43 (by simp)).symm.trans h
    | 17, hx, h => exact (hx 44 (by simp)).symm.trans h
    | 18, hx, h => exact (hx 45 (by simp)).symm.trans h
    | 19, hx, h => exact (hx 46 (by simp)).symm.trans h
    | 20, hx, h => obtain ⟨xo, xc, h⟩ := h; exact ⟨xo, xc, (hx 47 (by simp)).symm.trans h⟩
    | 21, hx, h => exact (hx 48 (by simp)).symm.trans h
    | 22, hx, h => exact (hx 49 (by simp)).symm.trans h
    | 23, hx, h => exact (hx 50 (by simp)).symm.trans h
    | 24, hx, h => exact (hx 51 (by simp)).symm.trans h
    | 25, hx, h => exact (hx 52 (by simp)).symm.trans h
    | 26, hx, h => exact (hx 53 (by simp)).symm.trans h
    | 27, hx, h => exact (hx 54 (by simp)).symm.trans h
    | 28, hx, h => exact (hx 55 (by simp)).symm.trans h
    | 29, hx, h => exact (hx 56 (by simp)).symm.trans h
    | 30, hx, h => exact (hx 57 (by simp)).symm.trans h
    | (n + 31), _, h => exact h
  case pstep =>
    intro i o ho a' w' l hl hr hq hsa hS hd
    match i, ho, hl, hr, hq with
    | 0, ho, hl, hr, hq =>
      obtain rfl := Option.some.inj ho
      try dsimp only at hd
      have g9 : a'.tmps.getD 9 undef = .int .i64 0 := hsa.rest 9 (by rfl)
      refine wpOp_of rfl rfl ?_
      refine op_run (v := .int .i64 0) (w' := w') ?_ ⟨_, rfl, ?_, ?_⟩
      · simp only [execOp, Act.eval, g9]; first | (go_simp; done) | rfl
      · try dsimp only
        exact (slots_put (ns := 59) (hsa.size.trans rfl) (by decide))
      · exact hS.put 0 27 _ (by decide) (by decide)
    | 1, ho, hl, hr, hq =>
      obtain rfl := Option.some.inj ho
      try dsimp only at hd
      have d0 : a'.tmps.getD 27 undef = .int .i64 0 := hd 0 (by rfl)
      refine wpOp_of rfl rfl ?_
      refine op_run (v := .bool false) (w' := w') ?_ ⟨_, rfl, ?_, ?_⟩
      · simp only [execOp, Act.eval, d0]; first | (go_simp; done) | rfl
      · try dsimp only
        exact (slots_put (ns := 59) (hsa.size.trans rfl) (by decide))
      · exact hS.put 1 28 _ (by decide) (by decide)
    | 2, ho, hl, hr, hq =>
      obtain rfl := Option.some.inj ho
      try dsimp only at hd
      have d1 : a'.tmps.getD 28 undef = .bool false := hd 1 (by rfl)
      refine wpOp_of rfl rfl ?_
      refine op_run (v := .bool false) (w' := w') ?_ ⟨_, rfl, ?_, ?_⟩
      · simp only [execOp, Act.eval, d1]; first | (go_simp; done) | rfl
      · try dsimp only
        exact (slots_put (ns := 59) (hsa.size.trans rfl) (by decide))
      · exact hS.put 2 29 _ (by decide) (by decide)
    | 3, ho, hl, hr, hq =>
      obtain rfl := Option.some.inj ho
      try dsimp only at hd
      have d2 : a'.tmps.getD 29 undef = .bool false := hd 2 (by rfl)
      have g8 : a'.tmps.getD 8 undef = .pointer (some ⟨L.b, 0, none⟩) := hsa.rest 8 (by rfl)
      refine wpOp_on (j := 2) (dj := 29) rfl rfl rfl d2 ?_
      refine op_run (v := .pointer (some ⟨L.b, 0, none⟩)) (w' := w') ?_ ⟨_, rfl, ?_, ?_⟩
      · simp only [execOp, Act.eval, d2, g8]; first | (go_simp; done) | rfl
      · try dsimp only
        exact (slots_put (ns := 59) (hsa.size.trans rfl) (by decide))
      · exact hS.put 3 30 _ (by decide) (by decide)
    | 4, ho, hl, hr, hq =>
      obtain rfl := Option.some.inj ho
      try dsimp only at hd
      have d2 : a'.tmps.getD 29 undef = .bool false := hd 2 (by rfl)
      have g4 : a'.tmps.getD 4 undef = .slice (some ⟨g, 0, none⟩) 4 cp := hsa.rest 4 (by rfl)
      refine wpOp_on (j := 2) (dj := 29) rfl rfl rfl d2 ?_
      refine op_run (v := .slice (some ⟨g, 0, none⟩) 4 cp) (w' := w') ?_ ⟨_, rfl, ?_, ?_⟩
      · simp only [execOp, Act.eval, d2, g4]; first | (go_simp; done) | rfl
      · try dsimp only
        exact (slots_put (ns := 59) (hsa.size.trans rfl) (by decide))
      · exact hS.put 4 31 _ (by decide) (by decide)
    | 5, ho, hl, hr, hq =>
      obtain rfl := Option.some.inj ho
      try dsimp only at hd
      have d2 : a'.tmps.getD 29 undef = .bool false := hd 2 (by rfl)
      have d4 : a'.tmps.getD 31 undef = .slice (some ⟨g, 0, none⟩) 4 cp := hd 4 (by rfl)
      refine wpOp_on (j := 2) (dj := 29) rfl rfl rfl d2 ?_
      refine op_run (v := .pointer (some ⟨g, 3, none⟩)) (w' := w') ?_ ⟨_, rfl, ?_, ?_⟩
      · simp only [execOp, Act.eval, d2, d4]; first | (go_simp; done) | rfl
      · try dsimp only
        exact (slots_put (ns := 59) (hsa.size.trans rfl) (by decide))
      · exact hS.put 5 32 _ (by decide) (by decide)
    | 6, ho, hl, hr, hq =>
      obtain rfl := Option.some.inj ho
      try dsimp only at hd
      have d2 : a'.tmps.getD 29 undef = .bool false := hd 2 (by rfl)
      have d5 : a'.tmps.getD 32 undef = .pointer (some ⟨g, 3, none⟩) := hd 5 (by rfl)
      refine wpOp_on (j := 2) (dj := 29) rfl rfl rfl d2 ?_
      refine op_run (v := .pointer (some ⟨g, 4, none⟩)) (w' := w') ?_ ⟨_, rfl, ?_, ?_⟩
      · simp only [execOp, Act.eval, d2, d5]; first | (go_simp; done) | rfl
      · try dsimp only
        exact (slots_put (ns := 59) (hsa.size.trans rfl) (by decide))
      · exact hS.put 6 33 _ (by decide) (by decide)
    | 7, ho, hl, hr, hq =>
      obtain rfl := Option.some.inj ho
      try dsimp only at hd
      have d2 : a'.tmps.getD 29 undef = .bool false := hd 2 (by rfl)
      have d6 : a'.tmps.getD 33 undef = .pointer (some ⟨g, 4, none⟩) := hd 6 (by rfl)
      refine wpOp_on (j := 2) (dj := 29) rfl rfl rfl d2 ?_
      have y := (hg1 w' hS.touch)
      refine op_run (v := .int .u64 y1) (w' := w') ?_ ⟨_, rfl, ?_, ?_⟩
      · simp only [execOp, Act.eval, d2, d6, y]; first | (go_simp; done) | rfl
      · try dsimp only
        exact (slots_put (ns := 59) (hsa.size.trans rfl) (by decide))
      · exact hS.put 7 34 _ (by decide) (by decide)
    | 8, ho, hl, hr, hq =>
      obtain rfl := Option.some.inj ho
      try dsimp only at hd
      have d2 : a'.tmps.getD 29 undef = .bool false := hd 2 (by rfl)
      have d7 : a'.tmps.getD 34 undef = .int .u64 y1 := hd 7 (by rfl)
      refine wpOp_on (j := 2) (dj := 29) rfl rfl rfl d2 ?_
      refine op_run (v := .int .i64 (IntKind.i64.wrap y1)) (w' := w') ?_ ⟨_, rfl, ?_, ?_⟩
      · simp only [execOp, Act.eval, d2, d7]; first | (go_simp; done) | rfl
      · try dsimp only
        exact (slots_put (ns := 59) (hsa.size.trans rfl) (by decide))
      · exact hS.put 8 35 _ (by decide) (by decide)
    | 9, ho, hl, hr, hq =>
      obtain rfl := Option.some.inj ho
      try dsimp only at hd
      have d2 : a'.tmps.getD 29 undef = .bool false := hd 2 (by rfl)
      have g4 : a'.tmps.getD 4 undef = .slice (some ⟨g, 0, none⟩) 4 cp := hsa.rest 4 (by rfl)
      refine wpOp_on (j := 2) (dj := 29) rfl rfl rfl d2 ?_
      refine op_run (v := .slice (some ⟨g, 0, none⟩) 4 cp) (w' := w') ?_ ⟨_, rfl, ?_, ?_⟩
      · simp only [execOp, Act.eval, d2, g4]; first | (go_simp; done) | rfl
      · try dsimp only
        exact (slots_put (ns := 59) (hsa.size.trans rfl) (by decide))
      · exact hS.put 9 36 _ (by decide) (by decide)
    | 10, ho, hl, hr, hq =>
      obtain rfl := Option.some.inj ho
      try dsimp only at hd
      have d2 : a'.tmps.getD 29 undef = .bool false := hd 2 (by rfl)
      have d9 : a'.tmps.getD 36 undef = .slice (some ⟨g, 0, none⟩) 4 cp := hd 9 (by rfl)
      refine wpOp_on (j := 2) (dj := 29) rfl rfl rfl d2 ?_
      refine op_run (v := .pointer (some ⟨g, 6, none⟩)) (w' := w') ?_ ⟨_, rfl, ?_, ?_⟩
      · simp only [execOp, Act.eval, d2, d9]; first | (go_simp; done) | rfl
      · try dsimp only
        exact (slots_put (ns := 59) (hsa.size.trans rfl) (by decide))
      · exact hS.put 10 37 _ (by decide) (by decide)
    | 11, ho, hl, hr, hq =>
      obtain rfl := Option.some.inj ho
      try dsimp only at hd
      have d2 : a'.tmps.getD 29 undef = .bool false := hd 2 (by rfl)
      have d10 : a'.tmps.getD 37 undef = .pointer (some ⟨g, 6, none⟩) := hd 10 (by rfl)
      refine wpOp_on (j := 2) (dj := 29) rfl rfl rfl d2 ?_
      refine op_run (v := .pointer (some ⟨g, 7, none⟩)) (w' := w') ?_ ⟨_, rfl, ?_, ?_⟩
      · simp only [execOp, Act.eval, d2, d10]; first | (go_simp; done) | rfl
      · try dsimp only
        exact (slots_put (ns := 59) (hsa.size.trans rfl) (by decide))
      · exact hS.put 11 38 _ (by decide) (by decide)
    | 12, ho, hl, hr, hq =>
      obtain rfl := Option.some.inj ho
      try dsimp only at hd
      have d2 : a'.tmps.getD 29 undef = .bool false := hd 2 (by rfl)
      have d11 : a'.tmps.getD 38 undef = .pointer (some ⟨g, 7, none⟩) := hd 11 (by rfl)
      refine wpOp_on (j := 2) (dj := 29) rfl rfl rfl d2 ?_
      have y := (hg2 w' hS.touch)
      refine op_run (v := .int .u64 y2) (w' := w') ?_ ⟨_, rfl, ?_, ?_⟩
      · simp only [execOp, Act.eval, d2, d11, y]; first | (go_simp; done) | rfl
      · try dsimp only
        exact (slots_put (ns := 59) (hsa.size.trans rfl) (by decide))
      · exact hS.put 12 39 _ (by decide) (by decide)
    | 13, ho, hl, hr, hq =>
      obtain rfl := Option.some.inj ho
      try dsimp only at hd
      have d2 : a'.tmps.getD 29 undef = .bool false := hd 2 (by rfl)
      have d12 : a'.tmps.getD 39 undef = .int .u64 y2 := hd 12 (by rfl)
      refine wpOp_on (j := 2) (dj := 29) rfl rfl rfl d2 ?_
      refine op_run (v := .int .i64 (IntKind.i64.wrap y2)) (w' := w') ?_ ⟨_, rfl, ?_, ?_⟩
      · simp only [execOp, Act.eval, d2, d12]; first | (go_simp; done) | rfl
      · try dsimp only
        exact (slots_put (ns := 59) (hsa.size.trans rfl) (by decide))
      · exact hS.put 13 40 _ (by decide) (by decide)
    | 14, ho, hl, hr, hq =>
      obtain rfl := Option.some.inj ho
      try dsimp only at hd
      have d2 : a'.tmps.getD 29 undef = .bool false := hd 2 (by rfl)
      have d3 : a'.tmps.getD 30 undef = .pointer (some ⟨L.b, 0, none⟩) := hd 3 (by rfl)
      have d8 : a'.tmps.getD 35 undef = .int .i64 (IntKind.i64.wrap y1) := hd 8 (by rfl)
      have d13 : a'.tmps.getD 40 undef = .int .i64 (IntKind.i64.wrap y2) := hd 13 (by rfl)
      refine wpOp_on (j := 2) (dj := 29) rfl rfl rfl d2 ?_
      have t0 := hS.s0 hl
      refine op_call 43 _ _ rfl (enters_of Tryz.func43 (by kernel_rfl) rfl) [.pointer (some ⟨L.b, 0, none⟩), .int .i64 (IntKind.i64.wrap y1), .int .i64 (IntKind.i64.wrap y2)] (by simp only [List.map, Act.eval, d2, d3, d8, d13]) (hM w' hS.touch t0) ?_
      rintro e w'' ⟨rfl, tt, ta⟩
      refine ⟨_, rfl, _, rfl, ?_, ?_⟩
      · try dsimp only
        exact (slots_put (ns := 59) (hsa.size.trans rfl) (by decide))
      · exact ⟨hS.touch.andThen tt fun _ _ e => e, fun e => absurd e (by rw [updL_same]; decide), fun _ _ e => ta e, fun e => absurd e (by rw [updL_other l (by decide), hq 20 (by kernel_rfl)]; decide), fun e => absurd e (by rw [updL_other l (by decide), hq 21 (by kernel_rfl)]; decide), fun e => absurd e (by rw [updL_other l (by decide), hq 27 (by kernel_rfl)]; decide), fun e => absurd e (by rw [updL_other l (by decide), hq 28 (by kernel_rfl)]; decide)⟩
    | 15, ho, hl, hr, hq =>
      obtain rfl := Option.some.inj ho
      try dsimp only at hd
      have d2 : a'.tmps.getD 29 undef = .bool false := hd 2 (by rfl)
      have d14 : a'.tmps.getD 41 undef = .bool true := hd 14 (by rfl)
      refine wpOp_on (j := 2) (dj := 29) rfl rfl rfl d2 ?_
      refine op_run (v := .bool false) (w' := w') ?_ ⟨_, rfl, ?_, ?_⟩
      · simp only [execOp, Act.eval, d2, d14]; first | (go_simp; done) | rfl
      · try dsimp only
        exact (slots_put (ns := 59) (hsa.size.trans rfl) (by decide))
      · exact hS.put 15 42 _ (by decide) (by decide)
    | 16, ho, hl, hr, hq =>
      obtain rfl := Option.some.inj ho
      try dsimp only at hd
      have d2 : a'.tmps.getD 29 undef = .bool false := hd 2 (by rfl)
      have d15 : a'.tmps.getD 42 undef = .bool false := hd 15 (by rfl)
      refine wpOp_of rfl rfl ?_
      refine op_run (v := .bool false) (w' := w') ?_ ⟨_, rfl, ?_, ?_⟩
      · simp only [execOp, Act.eval, d2, d15]; first | (go_simp; done) | rfl
      · try dsimp only
        exact (slots_put (ns := 59) (hsa.size.trans rfl) (by decide))
      · exact hS.put 16 43 _ (by decide) (by decide)
    | 17, ho, hl, hr, hq =>
      obtain rfl := Option.some.inj ho
      try dsimp only at hd
      have d16 : a'.tmps.getD 43 undef = .bool false := hd 16 (by rfl)
      refine wpOp_of rfl rfl ?_
      refine op_run (v := .bool false) (w' := w') ?_ ⟨_, rfl, ?_, ?_⟩
      · simp only [execOp, Act.eval, d16]; first | (go_simp; done) | rfl
      · try dsimp only
        exact (slots_put (ns := 59) (hsa.size.trans rfl) (by decide))
      · exact hS.put 17 44 _ (by decide) (by decide)
    | 18, ho, hl, hr, hq =>
      obtain rfl := Option.some.inj ho
      try dsimp only at hd
      have d17 : a'.tmps.getD 44 undef = .bool false := hd 17 (by rfl)
      have g8 : a'.tmps.getD 8 undef = .pointer (some ⟨L.b, 0, none⟩) := hsa.rest 8 (by rfl)
      refine wpOp_on (j := 17) (dj := 44) rfl rfl rfl d17 ?_
      refine op_run (v := .pointer (some ⟨L.b, 0, none⟩)) (w' := w') ?_ ⟨_, rfl, ?_, ?_⟩
      · simp only [execOp, Act.eval, d17, g8]; first | (go_simp; done) | rfl
      · try dsimp only
        exact (slots_put (ns := 59) (hsa.size.trans rfl) (by decide))
      · exact hS.put 18 45 _ (by decide) (by decide)
    | 19, ho, hl, hr, hq =>
      obtain rfl := Option.some.inj ho
      try dsimp only at hd
      have d17 : a'.tmps.getD 44 undef = .bool false := hd 17 (by rfl)
      have g5 : a'.tmps.getD 5 undef = .slice po pn pc := hsa.rest 5 (by rfl)
      refine wpOp_on (j := 17) (dj := 44) rfl rfl rfl d17 ?_
      refine op_run (v := .slice po pn pc) (w' := w') ?_ ⟨_, rfl, ?_, ?_⟩
      · simp only [execOp, Act.eval, d17, g5]; first | (go_simp; done) | rfl
      · try dsimp only
        exact (slots_put (ns := 59) (hsa.size.trans rfl) (by decide))
      · exact hS.put 19 46 _ (by decide) (by decide)
    | 20, ho, hl, hr, hq =>
      obtain rfl := Option.some.inj ho
      try dsimp only at hd
      have d17 : a'.tmps.getD 44 undef = .bool false := hd 17 (by rfl)
      have d19 : a'.tmps.getD 46 undef = .slice po pn pc := hd 19 (by rfl)
      refine wpOp_on (j := 17) (dj := 44) rfl rfl rfl d17 ?_
      have t1 := hS.s1 (hr 14 (by kernel_rfl)) (hq 21 (by kernel_rfl)) rfl
      refine op_call 45 _ _ rfl (enters_of Tryz.func45 (by kernel_rfl) rfl) [.slice po pn pc] (by simp only [List.map, Act.eval, d17, d19]) (hP w' hS.touch) ?_
      rintro e w'' ⟨ro, rc, rfl, qq, bb⟩
      refine ⟨_, rfl, _, rfl, ?_, ?_⟩
      · try dsimp only
        exact ⟨_, _, (slots_put (ns := 59) (hsa.size.trans rfl) (by decide))⟩
      · exact ⟨hS.touch.below bb, fun e => absurd e (by rw [updL_other l (by decide), hr 14 (by kernel_rfl)]; decide), fun _ _ _ => t1.below bb, fun _ _ _ => ⟨ro, rc, (slots_put (ns := 59) (hsa.size.trans rfl) (by decide)), qq⟩, fun e => absurd e (by rw [updL_other l (by decide), hq 21 (by kernel_rfl)]; decide), fun e => absurd e (by rw [updL_other l (by decide), hq 27 (by kernel_rfl)]; decide), fun e => absurd e (by rw [updL_other l (by decide), hq 28 (by kernel_rfl)]; decide)⟩
    | 21, ho, hl, hr, hq =>
      obtain rfl := Option.some.inj ho
      try dsimp only at hd
      have d17 : a'.tmps.getD 44 undef = .bool false := hd 17 (by rfl)
      have d18 : a'.tmps.getD 45 undef = .pointer (some ⟨L.b, 0, none⟩) := hd 18 (by rfl)
      refine wpOp_on (j := 17) (dj := 44) rfl rfl rfl d17 ?_
      obtain ⟨ro, rc, d20, q20⟩ := hS.p1 (hr 20 (by kernel_rfl)) hl rfl
      have t1 := hS.s1 (hr 14 (by kernel_rfl)) hl rfl
      refine op_call 44 _ _ rfl (enters_of Tryz.func44 (by kernel_rfl) rfl) [.pointer (some ⟨L.b, 0, none⟩), .slice ro np rc] (by simp only [List.map, Act.eval, d17, d18, d20]) (hK w' ro rc hS.touch t1 q20) ?_
      rintro e w'' ⟨rfl, tt, ta⟩
      refine ⟨_, rfl, _, rfl, ?_, ?_⟩
      · try dsimp only
        exact (slots_put (ns := 59) (hsa.size.trans rfl) (by decide))
      · exact ⟨hS.touch.andThen tt fun _ _ e => e, fun e => absurd e (by rw [updL_other l (by decide), hr 14 (by kernel_rfl)]; decide), fun _ e => absurd e (by rw [updL_same]; decide), fun _ e => absurd e (by rw [updL_same]; decide), fun _ _ _ e => ta e, fun e => absurd e (by rw [updL_other l (by decide), hq 27 (by kernel_rfl)]; decide), fun e => absurd e (by rw [updL_other l (by decide), hq 28 (by kernel_rfl)]; decide)⟩
    | 22, ho, hl, hr, hq =>
      obtain rfl := Option.some.inj ho
      try dsimp only at hd
      have d17 : a'.tmps.getD 44 undef = .bool false := hd 17 (by rfl)
      have d21 : a'.tmps.getD 48 undef = .bool false := hd 21 (by rfl)
      refine wpOp_on (j := 17) (dj := 44) rfl rfl rfl d17 ?_
      refine op_run (v := .bool true) (w' := w') ?_ ⟨_, rfl, ?_, ?_⟩
      · simp only [execOp, Act.eval, d17, d21]; first | (go_simp; done) | rfl
      · try dsimp only
        exact (slots_put (ns := 59) (hsa.size.trans rfl) (by decide))
      · exact hS.put 22 49 _ (by decide) (by decide)
    | 23, ho, hl, hr, hq =>
      obtain rfl := Option.some.inj ho
      try dsimp only at hd
      have d17 : a'.tmps.getD 44 undef = .bool false := hd 17 (by rfl)
      have d22 : a'.tmps.getD 49 undef = .bool true := hd 22 (by rfl)
      refine wpOp_of rfl rfl ?_
      refine op_run (v := .bool true) (w' := w') ?_ ⟨_, rfl, ?_, ?_⟩
      · simp only [execOp, Act.eval, d17, d22]; first | (go_simp; done) | rfl
      · try dsimp only
        exact (slots_put (ns := 59) (hsa.size.trans rfl) (by decide))
      · exact hS.put 23 50 _ (by decide) (by decide)
    | 24, ho, hl, hr, hq =>
      obtain rfl := Option.some.inj ho
      try dsimp only at hd
      have d23 : a'.tmps.getD 50 undef = .bool true := hd 23 (by rfl)
      refine wpOp_of rfl rfl ?_
      refine op_run (v := .bool true) (w' := w') ?_ ⟨_, rfl, ?_, ?_⟩
      · simp only [execOp, Act.eval, d23]; first | (go_simp; done) | rfl
      · try dsimp only
        exact (slots_put (ns := 59) (hsa.size.trans rfl) (by decide))
      · exact hS.put 24 51 _ (by decide) (by decide)
    | 25, ho, hl, hr, hq =>
      obtain rfl := Option.some.inj ho
      try dsimp only at hd
      have d24 : a'.tmps.getD 51 undef = .bool true := hd 24 (by rfl)
      refine wpOp_off (j := 24) (dj := 51) rfl rfl rfl d24 (by simp [undef]) ⟨undef, rfl, ?_, ?_⟩
      · exact (slots_put (ns := 59) (hsa.size.trans rfl) (by decide))
      · exact hS.put 25 52 _ (by decide) (by decide)
    | 26, ho, hl, hr, hq =>
      obtain rfl := Option.some.inj ho
      try dsimp only at hd
      have d24 : a'.tmps.getD 51 undef = .bool true := hd 24 (by rfl)
      refine wpOp_off (j := 24) (dj := 51) rfl rfl rfl d24 (by simp [undef]) ⟨undef, rfl, ?_, ?_⟩
      · exact (slots_put (ns := 59) (hsa.size.trans rfl) (by decide))
      · exact hS.put 26 53 _ (by decide) (by decide)
    | 27, ho, hl, hr, hq =>
      obtain rfl := Option.some.inj ho
      try dsimp only at hd
      have d24 : a'.tmps.getD 51 undef = .bool true := hd 24 (by rfl)
      refine wpOp_off (j := 24) (dj := 51) rfl rfl rfl d24 (by simp [undef]) ⟨undef, rfl, ?_, ?_⟩
      · exact (slots_put (ns := 59) (hsa.size.trans rfl) (by decide))
      · exact hS.offk 27 54 _ (by decide) (by decide)
    | 28, ho, hl, hr, hq =>
      obtain rfl := Option.some.inj ho
      try dsimp only at hd
      have d24 : a'.tmps.getD 51 undef = .bool true := hd 24 (by rfl)
      refine wpOp_off (j := 24) (dj := 51) rfl rfl rfl d24 (by simp [undef]) ⟨undef, rfl, ?_, ?_⟩
      · exact (slots_put (ns := 59) (hsa.size.trans rfl) (by decide))
      · exact hS.offk 28 55 _ (by decide) (by decide)
    | 29, ho, hl, hr, hq =>
      obtain rfl := Option.some.inj ho
      try dsimp only at hd
      have d24 : a'.tmps.getD 51 undef = .bool true := hd 24 (by rfl)
      refine wpOp_off (j := 24) (dj := 51) rfl rfl rfl d24 (by simp [undef]) ⟨undef, rfl, ?_, ?_⟩
      · exact (slots_put (ns := 59) (hsa.size.trans rfl) (by decide))
      · exact hS.put 29 56 _ (by decide) (by decide)
    | 30, ho, hl, hr, hq =>
      obtain rfl := Option.some.inj ho
      try dsimp only at hd
      have d24 : a'.tmps.getD 51 undef = .bool true := hd 24 (by rfl)
      have d29 : a'.tmps.getD 56 undef = undef := hd 29 (by rfl)
      refine wpOp_of rfl rfl ?_
      refine op_run (v := .bool true) (w' := w') ?_ ⟨_, rfl, ?_, ?_⟩
      · simp only [execOp, Act.eval, d24, d29]; first | (go_simp; done) | rfl
      · try dsimp only
        exact (slots_put (ns := 59) (hsa.size.trans rfl) (by decide))
      · exact hS.put 30 57 _ (by decide) (by decide)
    | (n + 31), ho, _, _, _ => exact absurd ho (by simp)
  case pdone =>
    intro a' w' l hl hsa hS hd
    have d30 : a'.tmps.getD 57 undef = .bool true := hd 30 (by decide)
    exact HQ.out a' w' ⟨hsa.size.trans rfl, hsa.defers.trans rfl, hsa.rest 0 (by rfl), hsa.rest 2 (by rfl), hsa.rest 3 (by rfl), hsa.rest 4 (by rfl), hsa.rest 5 (by rfl), hsa.rest 6 (by rfl), hsa.rest 7 (by rfl), hsa.rest 8 (by rfl), hsa.rest 9 (by rfl)⟩ d30 hS.touch
theorem ld_r5d {K : Act → World → Prop} {c : Code} (hc : regOf (Tryz.f20.body.getD .skip) 5 = some c) (a : Act) {v : Vld} {wq : World} {L : LOC} {G0 G1 G2 G3 : TG} {np nr : Nat} {P : List PU} {R : List Rec} {g cp : Nat} {y1 y2 : Int} {po : Option Addr} {pn pc : Nat} {qo : Option Addr} {qn qc : Nat} (hF : Fld a v) (h4v : v.v4 = .slice (some ⟨g, 0, none⟩) 4 cp) (h8v : v.v8 = .pointer (some ⟨L.b, 0, none⟩)) (h9v : v.v9 = .int .i64 0) (h5v : v.v5 = .slice po pn pc) (h6v : v.v6 = .slice qo qn qc) (hT : TAt wq L G0) (hg1 : ∀ W, Touch L.own wq W → W.cell? ⟨g, 4, none⟩ = some (.int .u64 y1)) (hg2 : ∀ W, Touch L.own wq W → W.cell? ⟨g, 7, none⟩ = some (.int .u64 y2)) (hM : ∀ W, Touch L.own wq W → TAt W L G0 → Calls Tryz.prog 43 #[.pointer (some ⟨L.b, 0, none⟩), .int .i64 (IntKind.i64.wrap y1), .int .i64 (IntKind.i64.wrap y2)] W fun e w' => e = .returned (.bool true) ∧ Touch L.own W w' ∧ (true = true → TAt w' L G1)) (hP : ∀ W, Touch L.own wq W → Calls Tryz.prog 45 #[.slice po pn pc] W fun e w' => ∃ ro rc, e = .returned (.slice ro np rc) ∧ OwnsQ w' 75 3 (.slice ro np rc) np (prodCells P) ∧ Below W.heap.size W w') (hK : ∀ W ro rc, Touch L.own wq W → TAt W L G1 → OwnsQ W 75 3 (.slice ro np rc) np (prodCells P) → Calls Tryz.prog 44 #[.pointer (some ⟨L.b, 0, none⟩), .slice ro np rc] W fun e w' => e = .returned (.bool true) ∧ Touch L.own W w' ∧ (true = true → TAt w' L G2)) (hR : ∀ W, Touch L.own wq W → Calls Tryz.prog 47 #[.slice qo qn qc] W fun e w' => ∃ ro rc, e = .returned (.slice ro nr rc) ∧ OwnsQ w' 39 5 (.slice ro nr rc) nr (recCells R) ∧ (∀ j, (Value.slice ro nr rc).ownBlock = some j → wq.heap.size ≤ j) ∧ Below W.heap.size W w') (hH : ∀ W ro rc, Touch L.own wq W → TAt W L G2 → OwnsQ W 39 5 (.slice ro nr rc) nr (recCells R) → (∀ j, (Value.slice ro nr rc).ownBlock = some j → wq.heap.size ≤ j) → Calls Tryz.prog 46 #[.pointer (some ⟨L.b, 0, none⟩), .slice ro nr rc] W fun e w' => e = .returned (.bool false) ∧ Touch L.own W w' ∧ (false = true → ∃ L' : LOC, L'.b = L.b ∧ TAt w' L' G3 ∧ ∀ j, L'.own j → L.own j ∨ wq.heap.size ≤ j)) 
    (hQ : ∀ a' w', Fld a' v → a'.tmps.getD 57 undef = .bool true → Touch L.own wq w' → K a' w') :
    Code.wp Tryz.prog c (Exit.then K fun _ _ _ => False) a wq := by
  have HQ := hide hQ
  clear hQ
  obtain ⟨v0, v2, v3, v4, v5, v6, v7, v8, v9⟩ := v
  simp only at h4v h8v h9v h5v h6v HQ
  subst h4v h8v h9v h5v h6v
  obtain ⟨u, rfl⟩ := frx_ld hF
  clear hF
  simp only [Tryz.f20, Option.getD_some, regOf] at hc
  injection hc with hc
  subst hc
  refine wp_region_any rfl ?_
  have HT0 := hide hT
  clear hT
  refine wpAny_staged (ns := 59) (uses := (fun i => match i with | 0 => [27] | 1 => [28] | 2 => [29] | 3 => [30] | 4 => [31] | 5 => [32] | 6 => [33] | 7 => [34] | 8 => [35] | 9 => [36] | 10 => [37] | 11 => [38] | 12 => [39] | 13 => [40] | 14 => [41] | 15 => [42] | 16 => [43] | 17 => [44] | 18 => [45] | 19 => [46] | 20 => [47] | 21 => [48] | 22 => [49] | 23 => [50] | 24 => [51] | 25 => [52] | 26 => [53] | 27 => [54] | 28 => [55] | 29 => [56] | 30 => [57] | _ => [])) (by kernel_rfl) (by kernel_rfl) (LSt true true false wq L G0 G1 G2 G3 np nr P R) ?h0 (fun i => match i with | 0 => fun s => s 27 = .int .i64 0 | 1 => fun s => s 28 = .bool false | 2 => fun s => s 29 = .bool false | 3 => fun s => s 30 = .pointer (some ⟨L.b, 0, none⟩) | 4 => fun s => s 31 = .slice (some ⟨g, 0, none⟩) 4 cp | 5 => fun s => s 32 = .pointer (some ⟨g, 3, none⟩) | 6 => fun s => s 33 = .pointer (some ⟨g, 4, none⟩) | 7 => fun s => s 34 = .int .u64 y1 | 8 => fun s => s 35 = .int .i64 (IntKind.i64.wrap y1) | 9 => fun s => s 36 = .slice (some ⟨g, 0, none⟩) 4 cp | 10 => fun s => s 37 = .pointer (some ⟨g, 6, none⟩) | 11 => fun s => s 38 = .pointer (some ⟨g, 7, none⟩) | 12 => fun s => s 39 = .int .u64 y2 | 13 => fun s => s 40 = .int .i64 (IntKind.i64.wrap y2) | 14 => fun s => s 41 = .bool true | 15 => fun s => s 42 = .bool false | 16 => fun s => s 43 = .bool false | 17 => fun s => s 44 = .bool false | 18 => fun s => s 45 = .pointer (some ⟨L.b, 0, none⟩) | 19 => fun s => s 46 = .slice po pn pc | 20 => fun s => ∃ xo xc, s 47 = .slice xo np xc | 21 => fun s => s 48 = .bool true | 22 => fun s => s 49 = .bool false | 23 => fun s => s 50 = .bool false | 24 => fun s => s 51 = .bool false | 25 => fun s => s 52 = .pointer (some ⟨L.b, 0, none⟩) | 26 => fun s => s 53 = .slice qo qn qc | 27 => fun s => ∃ xo xc, s 54 = .slice xo nr xc | 28 => fun s => s 55 = .bool false | 29 => fun s => s 56 = .bool true | 30 => fun s => s 57 = .bool true | _ => fun _ => True) ?phc ?pstep ?pdone
  case h0 =>
    exact ⟨(Touch.refl _ _).drew, fun _ => HT0.out.below (Below.refl _ _).drew, fun e => (by cases e), fun e => (by cases e), fun e => (by cases e), fun e => (by cases e), fun e => (by cases e)⟩
  case phc =>
    intro i s s' hx h
    match i, hx, h with
    | 0, hx, h => exact (hx 27 (by simp)).symm.trans h
    | 1, hx, h => exact (hx 28 (by simp)).symm.trans h
    | 2, hx, h => exact (hx 29 (by simp)).symm.trans h
    | 3, hx, h => exact (hx 30 (by simp)).symm.trans h
    | 4, hx, h => exact (hx 31 (by simp)).symm.trans h
    | 5, hx, h => exact (hx 32 (by simp)).symm.trans h
    | 6, hx, h => exact (hx 33 (by simp)).symm.trans h
    | 7, hx, h => exact (hx 34 (by simp)).symm.trans h
    | 8, hx, h => exact (hx 35 (by simp)).symm.trans h
    | 9, hx, h => exact (hx 36 (by simp)).symm.trans h
    | 10, hx, h => exact (hx 37 (by simp)).symm.trans h
    | 11, hx, h => exact (hx 38 (by simp)).symm.trans h
    | 12, hx, h => exact (hx 39 (by simp)).symm.trans h
    | 13, hx, h => exact (hx 40 (by simp)).symm.trans h
    | 14, hx, h => exact (hx 41 (by simp)).symm.trans h
    | 15, hx, h => exact (hx 42 (by simp)).symm.trans h
    | 16, hx, h => exact (hx 43 (by simp)).symm.trans h
    | 17, hx, h => exact (hx 44 (by simp)).symm.trans h
    | 18, hx, h => exact (hx 45 (by simp)).symm.trans h
    | 19, hx, h => exact (hx 46 (by simp)).symm.trans h
    | 20, hx, h => obtain ⟨xo, xc, h⟩ := h; exact ⟨xo, xc, (hx 47 (by simp)).symm.trans h⟩
    | 21, hx, h => exact (hx 48 (by simp)).symm.trans h
    | 22, hx, h => exact (hx 49 (by simp)).symm.trans h
    | 23, hx, h => exact (hx 50 (by simp)).symm.trans h
    | 24, hx, h => exact (hx 51 (by simp)).symm.trans h
    | 25, hx, h => exact (hx 52 (by simp)).symm.trans h
    | 26, hx, h => exact (hx 53 (by simp)).symm.trans h
    | 27, hx, h => obtain ⟨xo, xc, h⟩ := h; exact ⟨xo, xc, (hx 54 (by simp)).symm.trans h⟩
    | 28, hx, h => exact (hx 55 (by simp)).symm.trans h
    | 29, hx, h => exact (hx 56 (by simp)).symm.trans h
    | 30, hx, h => exact (hx 57 (by simp)).symm.trans h
    | (n + 31), _, h => exact h
  case pstep =>
    intro i o ho a' w' l hl hr hq hsa hS hd
    match i, ho, hl, hr, hq with
    | 0, ho, hl, hr, hq =>
      obtain rfl := Option.some.inj ho
      try dsimp only at hd
      have g9 : a'.tmps.getD 9 undef = .int .i64 0 := hsa.rest 9 (by rfl)
      refine wpOp_of rfl rfl ?_
      refine op_run (v := .int .i64 0) (w' := w') ?_ ⟨_, rfl, ?_, ?_⟩
      · simp only [execOp, Act.eval, g9]; first | (go_simp; done) | rfl
      · try dsimp only
        exact (slots_put (ns := 59) (hsa.size.trans rfl) (by decide))
      · exact hS.put 0 27 _ (by decide) (by decide)
    | 1, ho, hl, hr, hq =>
      obtain rfl := Option.some.inj ho
      try dsimp only at hd
      have d0 : a'.tmps.getD 27 undef = .int .i64 0 := hd 0 (by rfl)
      refine wpOp_of rfl rfl ?_
      refine op_run (v := .bool false) (w' := w') ?_ ⟨_, rfl, ?_, ?_⟩
      · simp only [execOp, Act.eval, d0]; first | (go_simp; done) | rfl
      · try dsimp only
        exact (slots_put (ns := 59) (hsa.size.trans rfl) (by decide))
      · exact hS.put 1 28 _ (by decide) (by decide)
    | 2, ho, hl, hr, hq =>
      obtain rfl := Option.some.inj ho
      try dsimp only at hd
      have d1 : a'.tmps.getD 28 undef = .bool false := hd 1 (by rfl)
      refine wpOp_of rfl rfl ?_
      refine op_run (v := .bool false) (w' := w') ?_ ⟨_, rfl, ?_, ?_⟩
      · simp only [execOp, Act.eval, d1]; first | (go_simp; done) | rfl
      · try dsimp only
        exact (slots_put (ns := 59) (hsa.size.trans rfl) (by decide))
      · exact hS.put 2 29 _ (by decide) (by decide)
    | 3, ho, hl, hr, hq =>
      obtain rfl := Option.some.inj ho
      try dsimp only at hd
      have d2 : a'.tmps.getD 29 undef = .bool false := hd 2 (by rfl)
      have g8 : a'.tmps.getD 8 undef = .pointer (some ⟨L.b, 0, none⟩) := hsa.rest 8 (by rfl)
      refine wpOp_on (j := 2) (dj := 29) rfl rfl rfl d2 ?_
      refine op_run (v := .pointer (some ⟨L.b, 0, none⟩)) (w' := w') ?_ ⟨_, rfl, ?_, ?_⟩
      · simp only [execOp, Act.eval, d2, g8]; first | (go_simp; done) | rfl
      · try dsimp only
        exact (slots_put (ns := 59) (hsa.size.trans rfl) (by decide))
      · exact hS.put 3 30 _ (by decide) (by decide)
    | 4, ho, hl, hr, hq =>
      obtain rfl := Option.some.inj ho
      try dsimp only at hd
      have d2 : a'.tmps.getD 29 undef = .bool false := hd 2 (by rfl)
      have g4 : a'.tmps.getD 4 undef = .slice (some ⟨g, 0, none⟩) 4 cp := hsa.rest 4 (by rfl)
      refine wpOp_on (j := 2) (dj := 29) rfl rfl rfl d2 ?_
      refine op_run (v := .slice (some ⟨g, 0, none⟩) 4 cp) (w' := w') ?_ ⟨_, rfl, ?_, ?_⟩
      · simp only [execOp, Act.eval, d2, g4]; first | (go_simp; done) | rfl
      · try dsimp only
        exact (slots_put (ns := 59) (hsa.size.trans rfl) (by decide))
      · exact hS.put 4 31 _ (by decide) (by decide)
    | 5, ho, hl, hr, hq =>
      obtain rfl := Option.some.inj ho
      try dsimp only at hd
      have d2 : a'.tmps.getD 29 undef = .bool false := hd 2 (by rfl)
      have d4 : a'.tmps.getD 31 undef = .slice (some ⟨g, 0, none⟩) 4 cp := hd 4 (by rfl)
      refine wpOp_on (j := 2) (dj := 29) rfl rfl rfl d2 ?_
      refine op_run (v := .pointer (some ⟨g, 3, none⟩)) (w' := w') ?_ ⟨_, rfl, ?_, ?_⟩
      · simp only [execOp, Act.eval, d2, d4]; first | (go_simp; done) | rfl
      · try dsimp only
        exact (slots_put (ns := 59) (hsa.size.trans rfl) (by decide))
      · exact hS.put 5 32 _ (by decide) (by decide)
    | 6, ho, hl, hr, hq =>
      obtain rfl := Option.some.inj ho
      try dsimp only at hd
      have d2 : a'.tmps.getD 29 undef = .bool false := hd 2 (by rfl)
      have d5 : a'.tmps.getD 32 undef = .pointer (some ⟨g, 3, none⟩) := hd 5 (by rfl)
      refine wpOp_on (j := 2) (dj := 29) rfl rfl rfl d2 ?_
      refine op_run (v := .pointer (some ⟨g, 4, none⟩)) (w' := w') ?_ ⟨_, rfl, ?_, ?_⟩
      · simp only [execOp, Act.eval, d2, d5]; first | (go_simp; done) | rfl
      · try dsimp only
        exact (slots_put (ns := 59) (hsa.size.trans rfl) (by decide))
      · exact hS.put 6 33 _ (by decide) (by decide)
    | 7, ho, hl, hr, hq =>
      obtain rfl := Option.some.inj ho
      try dsimp only at hd
      have d2 : a'.tmps.getD 29 undef = .bool false := hd 2 (by rfl)
      have d6 : a'.tmps.getD 33 undef = .pointer (some ⟨g, 4, none⟩) := hd 6 (by rfl)
      refine wpOp_on (j := 2) (dj := 29) rfl rfl rfl d2 ?_
      have y := (hg1 w' hS.touch)
      refine op_run (v := .int .u64 y1) (w' := w') ?_ ⟨_, rfl, ?_, ?_⟩
      · simp only [execOp, Act.eval, d2, d6, y]; first | (go_simp; done) | rfl
      · try dsimp only
        exact (slots_put (ns := 59) (hsa.size.trans rfl) (by decide))
      · exact hS.put 7 34 _ (by decide) (by decide)
    | 8, ho, hl, hr, hq =>
      obtain rfl := Option.some.inj ho
      try dsimp only at hd
      have d2 : a'.tmps.getD 29 undef = .bool false := hd 2 (by rfl)
      have d7 : a'.tmps.getD 34 undef = .int .u64 y1 := hd 7 (by rfl)
      refine wpOp_on (j := 2) (dj := 29) rfl rfl rfl d2 ?_
      refine op_run (v := .int .i64 (IntKind.i64.wrap y1)) (w' := w') ?_ ⟨_, rfl, ?_, ?_⟩
      · simp only [execOp, Act.eval, d2, d7]; first | (go_simp; done) | rfl
      · try dsimp only
        exact (slots_put (ns := 59) (hsa.size.trans rfl) (by decide))
      · exact hS.put 8 35 _ (by decide) (by decide)
    | 9, ho, hl, hr, hq =>
      obtain rfl := Option.some.inj ho
      try dsimp only at hd
      have d2 : a'.tmps.getD 29 undef = .bool false := hd 2 (by rfl)
      have g4 : a'.tmps.getD 4 undef = .slice (some ⟨g, 0, none⟩) 4 cp := hsa.rest 4 (by rfl)
      refine wpOp_on (j := 2) (dj := 29) rfl rfl rfl d2 ?_
      refine op_run (v := .slice (some ⟨g, 0, none⟩) 4 cp) (w' := w') ?_ ⟨_, rfl, ?_, ?_⟩
      · simp only [execOp, Act.eval, d2, g4]; first | (go_simp; done) | rfl
      · try dsimp only
        exact (slots_put (ns := 59) (hsa.size.trans rfl) (by decide))
      · exact hS.put 9 36 _ (by decide) (by decide)
    | 10, ho, hl, hr, hq =>
      obtain rfl := Option.some.inj ho
      try dsimp only at hd
      have d2 : a'.tmps.getD 29 undef = .bool false := hd 2 (by rfl)
      have d9 : a'.tmps.getD 36 undef = .slice (some ⟨g, 0, none⟩) 4 cp := hd 9 (by rfl)
      refine wpOp_on (j := 2) (dj := 29) rfl rfl rfl d2 ?_
      refine op_run (v := .pointer (some ⟨g, 6, none⟩)) (w' := w') ?_ ⟨_, rfl, ?_, ?_⟩
      · simp only [execOp, Act.eval, d2, d9]; first | (go_simp; done) | rfl
      · try dsimp only
        exact (slots_put (ns := 59) (hsa.size.trans rfl) (by decide))
      · exact hS.put 10 37 _ (by decide) (by decide)
    | 11, ho, hl, hr, hq =>
      obtain rfl := Option.some.inj ho
      try dsimp only at hd
      have d2 : a'.tmps.getD 29 undef = .bool false := hd 2 (by rfl)
      have d10 : a'.tmps.getD 37 undef = .pointer (some ⟨g, 6, none⟩) := hd 10 (by rfl)
      refine wpOp_on (j := 2) (dj := 29) rfl rfl rfl d2 ?_
      refine op_run (v := .pointer (some ⟨g, 7, none⟩)) (w' := w') ?_ ⟨_, rfl, ?_, ?_⟩
      · simp only [execOp, Act.eval, d2, d10]; first | (go_simp; done) | rfl
      · try dsimp only
        exact (slots_put (ns := 59) (hsa.size.trans rfl) (by decide))
      · exact hS.put 11 38 _ (by decide) (by decide)
    | 12, ho, hl, hr, hq =>
      obtain rfl := Option.some.inj ho
      try dsimp only at hd
      have d2 : a'.tmps.getD 29 undef = .bool false := hd 2 (by rfl)
      have d11 : a'.tmps.getD 38 undef = .pointer (some ⟨g, 7, none⟩) := hd 11 (by rfl)
      refine wpOp_on (j := 2) (dj := 29) rfl rfl rfl d2 ?_
      have y := (hg2 w' hS.touch)
      refine op_run (v := .int .u64 y2) (w' := w') ?_ ⟨_, rfl, ?_, ?_⟩
      · simp only [execOp, Act.eval, d2, d11, y]; first | (go_simp; done) | rfl
      · try dsimp only
        exact (slots_put (ns := 59) (hsa.size.trans rfl) (by decide))
      · exact hS.put 12 39 _ (by decide) (by decide)
    | 13, ho, hl, hr, hq =>
      obtain rfl := Option.some.inj ho
      try dsimp only at hd
      have d2 : a'.tmps.getD 29 undef = .bool false := hd 2 (by rfl)
      have d12 : a'.tmps.getD 39 undef = .int .u64 y2 := hd 12 (by rfl)
      refine wpOp_on (j := 2) (dj := 29) rfl rfl rfl d2 ?_
      refine op_run (v := .int .i64 (IntKind.i64.wrap y2)) (w' := w') ?_ ⟨_, rfl, ?_, ?_⟩
      · simp only [execOp, Act.eval, d2, d12]; first | (go_simp; done) | rfl
      · try dsimp only
        exact (slots_put (ns := 59) (hsa.size.trans rfl) (by decide))
      · exact hS.put 13 40 _ (by decide) (by decide)
    | 14, ho, hl, hr, hq =>
      obtain rfl := Option.some.inj ho
      try dsimp only at hd
      have d2 : a'.tmps.getD 29 undef = .bool false := hd 2 (by rfl)
      have d3 : a'.tmps.getD 30 undef = .pointer (some ⟨L.b, 0, none⟩) := hd 3 (by rfl)
      have d8 : a'.tmps.getD 35 undef = .int .i64 (IntKind.i64.wrap y1) := hd 8 (by rfl)
      have d13 : a'.tmps.getD 40 undef = .int .i64 (IntKind.i64.wrap y2) := hd 13 (by rfl)
      refine wpOp_on (j := 2) (dj := 29) rfl rfl rfl d2 ?_
      have t0 := hS.s0 hl
      refine op_call 43 _ _ rfl (enters_of Tryz.func43 (by kernel_rfl) rfl) [.pointer (some ⟨L.b, 0, none⟩), .int .i64 (IntKind.i64.wrap y1), .int .i64 (IntKind.i64.wrap y2)] (by simp only [List.map, Act.eval, d2, d3, d8, d13]) (hM w' hS.touch t0) ?_
      rintro e w'' ⟨rfl, tt, ta⟩
      refine ⟨_, rfl, _, rfl, ?_, ?_⟩
      · try dsimp only
        exact (slots_put (ns := 59) (hsa.size.trans rfl) (by decide))
      · exact ⟨hS.touch.andThen tt fun _ _ e => e, fun e => absurd e (by rw [updL_same]; decide), fun _ _ e => ta e, fun e => absurd e (by rw [updL_other l (by decide), hq 20 (by kernel_rfl)]; decide), fun e => absurd e (by rw [updL_other l (by decide), hq 21 (by kernel_rfl)]; decide), fun e => absurd e (by rw [updL_other l (by decide), hq 27 (by kernel_rfl)]; decide), fun e => absurd e (by rw [updL_other l (by decide), hq 28 (by kernel_rfl)]; decide)⟩
    | 15, ho, hl, hr, hq =>
      obtain rfl := Option.some.inj ho
      try dsimp only at hd
      have d2 : a'.tmps.getD 29 undef = .bool false := hd 2 (by rfl)
      have d14 : a'.tmps.getD 41 undef = .bool true := hd 14 (by rfl)
      refine wpOp_on (j := 2) (dj := 29) rfl rfl rfl d2 ?_
      refine op_run (v := .bool false) (w' := w') ?_ ⟨_, rfl, ?_, ?_⟩
      · simp only [execOp, Act.eval, d2, d14]; first | (go_simp; done) | rfl
      · try dsimp only
        exact (slots_put (ns := 59) (hsa.size.trans rfl) (by decide))
      · exact hS.put 15 42 _ (by decide) (by decide)
    | 16, ho, hl, hr, hq =>
      obtain rfl := Option.some.inj ho
      try dsimp only at hd
      have d2 : a'.tmps.getD 29 undef = .bool false := hd 2 (by rfl)
      have d15 : a'.tmps.getD 42 undef = .bool false := hd 15 (by rfl)
      refine wpOp_of rfl rfl ?_
      refine op_run (v := .bool false) (w' := w') ?_ ⟨_, rfl, ?_, ?_⟩
      · simp only [execOp, Act.eval, d2, d15]; first | (go_simp; done) | rfl
      · try dsimp only
        exact (slots_put (ns := 59) (hsa.size.trans rfl) (by decide))
      · exact hS.put 16 43 _ (by decide) (by decide)
    | 17, ho, hl, hr, hq =>
      obtain rfl := Option.some.inj ho
      try dsimp only at hd
      have d16 : a'.tmps.getD 43 undef = .bool false := hd 16 (by rfl)
      refine wpOp_of rfl rfl ?_
      refine op_run (v := .bool false) (w' := w') ?_ ⟨_, rfl, ?_, ?_⟩
      · simp only [execOp, Act.eval, d16]; first | (go_simp; done) | rfl
      · try dsimp only
        exact (slots_put (ns := 59) (hsa.size.trans rfl) (by decide))
      · exact hS.put 17 44 _ (by decide) (by decide)
    | 18, ho, hl, hr, hq =>
      obtain rfl := Option.some.inj ho
      try dsimp only at hd
      have d17 : a'.tmps.getD 44 undef = .bool false := hd 17 (by rfl)
      have g8 : a'.tmps.getD 8 undef = .pointer (some ⟨L.b, 0, none⟩) := hsa.rest 8 (by rfl)
      refine wpOp_on (j := 17) (dj := 44) rfl rfl rfl d17 ?_
      refine op_run (v := .pointer (some ⟨L.b, 0, none⟩)) (w' := w') ?_ ⟨_, rfl, ?_, ?_⟩
      · simp only [execOp, Act.eval, d17, g8]; first | (go_simp; done) | rfl
      · try dsimp only
        exact (slots_put (ns := 59) (hsa.size.trans rfl) (by decide))
      · exact hS.put 18 45 _ (by decide) (by decide)
    | 19, ho, hl, hr, hq =>
      obtain rfl := Option.some.inj ho
      try dsimp only at hd
      have d17 : a'.tmps.getD 44 undef = .bool false := hd 17 (by rfl)
      have g5 : a'.tmps.getD 5 undef = .slice po pn pc := hsa.rest 5 (by rfl)
      refine wpOp_on (j := 17) (dj := 44) rfl rfl rfl d17 ?_
      refine op_run (v := .slice po pn pc) (w' := w') ?_ ⟨_, rfl, ?_, ?_⟩
      · simp only [execOp, Act.eval, d17, g5]; first | (go_simp; done) | rfl
      · try dsimp only
        exact (slots_put (ns := 59) (hsa.size.trans rfl) (by decide))
      · exact hS.put 19 46 _ (by decide) (by decide)
    | 20, ho, hl, hr, hq =>
      obtain rfl := Option.some.inj ho
      try dsimp only at hd
      have d17 : a'.tmps.getD 44 undef = .bool false := hd 17 (by rfl)
      have d19 : a'.tmps.getD 46 undef = .slice po pn pc := hd 19 (by rfl)
      refine wpOp_on (j := 17) (dj := 44) rfl rfl rfl d17 ?_
      have t1 := hS.s1 (hr 14 (by kernel_rfl)) (hq 21 (by kernel_rfl)) rfl
      refine op_call 45 _ _ rfl (enters_of Tryz.func45 (by kernel_rfl) rfl) [.slice po pn pc] (by simp only [List.map, Act.eval, d17, d19]) (hP w' hS.touch) ?_
      rintro e w'' ⟨ro, rc, rfl, qq, bb⟩
      refine ⟨_, rfl, _, rfl, ?_, ?_⟩
      · try dsimp only
        exact ⟨_, _, (slots_put (ns := 59) (hsa.size.trans rfl) (by decide))⟩
      · exact ⟨hS.touch.below bb, fun e => absurd e (by rw [updL_other l (by decide), hr 14 (by kernel_rfl)]; decide), fun _ _ _ => t1.below bb, fun _ _ _ => ⟨ro, rc, (slots_put (ns := 59) (hsa.size.trans rfl) (by decide)), qq⟩, fun e => absurd e (by rw [updL_other l (by decide), hq 21 (by kernel_rfl)]; decide), fun e => absurd e (by rw [updL_other l (by decide), hq 27 (by kernel_rfl)]; decide), fun e => absurd e (by rw [updL_other l (by decide), hq 28 (by kernel_rfl)]; decide)⟩
    | 21, ho, hl, hr, hq =>
      obtain rfl := Option.some.inj ho
      try dsimp only at hd
      have d17 : a'.tmps.getD 44 undef = .bool false := hd 17 (by rfl)
      have d18 : a'.tmps.getD 45 undef = .pointer (some ⟨L.b, 0, none⟩) := hd 18 (by rfl)
      refine wpOp_on (j := 17) (dj := 44) rfl rfl rfl d17 ?_
      obtain ⟨ro, rc, d20, q20⟩ := hS.p1 (hr 20 (by kernel_rfl)) hl rfl
      have t1 := hS.s1 (hr 14 (by kernel_rfl)) hl rfl
      refine op_call 44 _ _ rfl (enters_of Tryz.func44 (by kernel_rfl) rfl) [.pointer (some ⟨L.b, 0, none⟩), .slice ro np rc] (by simp only [List.map, Act.eval, d17, d18, d20]) (hK w' ro rc hS.touch t1 q20) ?_
      rintro e w'' ⟨rfl, tt, ta⟩
      refine ⟨_, rfl, _, rfl, ?_, ?_⟩
      · try dsimp only
        exact (slots_put (ns := 59) (hsa.size.trans rfl) (by decide))
      · exact ⟨hS.touch.andThen tt fun _ _ e => e, fun e => absurd e (by rw [updL_other l (by decide), hr 14 (by kernel_rfl)]; decide), fun _ e => absurd e (by rw [updL_same]; decide), fun _ e => absurd e (by rw [updL_same]; decide), fun _ _ _ e => ta e, fun e => absurd e (by rw [updL_other l (by decide), hq 27 (by kernel_rfl)]; decide), fun e => absurd e (by rw [updL_other l (by decide), hq 28 (by kernel_rfl)]; decide)⟩
    | 22, ho, hl, hr, hq =>
      obtain rfl := Option.some.inj ho
      try dsimp only at hd
      have d17 : a'.tmps.getD 44 undef = .bool false := hd 17 (by rfl)
      have d21 : a'.tmps.getD 48 undef = .bool true := hd 21 (by rfl)
      refine wpOp_on (j := 17) (dj := 44) rfl rfl rfl d17 ?_
      refine op_run (v := .bool false) (w' := w') ?_ ⟨_, rfl, ?_, ?_⟩
      · simp only [execOp, Act.eval, d17, d21]; first | (go_simp; done) | rfl
      · try dsimp only
        exact (slots_put (ns := 59) (hsa.size.trans rfl) (by decide))
      · exact hS.put 22 49 _ (by decide) (by decide)
    | 23, ho, hl, hr, hq =>
      obtain rfl := Option.some.inj ho
      try dsimp only at hd
      have d17 : a'.tmps.getD 44 undef = .bool false := hd 17 (by rfl)
      have d22 : a'.tmps.getD 49 undef = .bool false := hd 22 (by rfl)
      refine wpOp_of rfl rfl ?_
      refine op_run (v := .bool false) (w' := w') ?_ ⟨_, rfl, ?_, ?_⟩
      · simp only [execOp, Act.eval, d17, d22]; first | (go_simp; done) | rfl
      · try dsimp only
        exact (slots_put (ns := 59) (hsa.size.trans rfl) (by decide))
      · exact hS.put 23 50 _ (by decide) (by decide)
    | 24, ho, hl, hr, hq =>
      obtain rfl := Option.some.inj ho
      try dsimp only at hd
      have d23 : a'.tmps.getD 50 undef = .bool false := hd 23 (by rfl)
      refine wpOp_of rfl rfl ?_
      refine op_run (v := .bool false) (w' := w') ?_ ⟨_, rfl, ?_, ?_⟩
      · simp only [execOp, Act.eval, d23]; first | (go_simp; done) | rfl
      · try dsimp only
        exact (slots_put (ns := 59) (hsa.size.trans rfl) (by decide))
      · exact hS.put 24 51 _ (by decide) (by decide)
    | 25, ho, hl, hr, hq =>
      obtain rfl := Option.some.inj ho
      try dsimp only at hd
      have d24 : a'.tmps.getD 51 undef = .bool false := hd 24 (by rfl)
      have g8 : a'.tmps.getD 8 undef = .pointer (some ⟨L.b, 0, none⟩) := hsa.rest 8 (by rfl)
      refine wpOp_on (j := 24) (dj := 51) rfl rfl rfl d24 ?_
      refine op_run (v := .pointer (some ⟨L.b, 0, none⟩)) (w' := w') ?_ ⟨_, rfl, ?_, ?_⟩
      · simp only [execOp, Act.eval, d24, g8]; first | (go_simp; done) | rfl
      · try dsimp only
        exact (slots_put (ns := 59) (hsa.size.trans rfl) (by decide))
      · exact hS.put 25 52 _ (by decide) (by decide)
    | 26, ho, hl, hr, hq =>
      obtain rfl := Option.some.inj ho
      try dsimp only at hd
      have d24 : a'.tmps.getD 51 undef = .bool false := hd 24 (by rfl)
      have g6 : a'.tmps.getD 6 undef = .slice qo qn qc := hsa.rest 6 (by rfl)
      refine wpOp_on (j := 24) (dj := 51) rfl rfl rfl d24 ?_
      refine op_run (v := .slice qo qn qc) (w' := w') ?_ ⟨_, rfl, ?_, ?_⟩
      · simp only [execOp, Act.eval, d24, g6]; first | (go_simp; done) | rfl
      · try dsimp only
        exact (slots_put (ns := 59) (hsa.size.trans rfl) (by decide))
      · exact hS.put 26 53 _ (by decide) (by decide)
    | 27, ho, hl, hr, hq =>
      obtain rfl := Option.some.inj ho
      try dsimp only at hd
      have d24 : a'.tmps.getD 51 undef = .bool false := hd 24 (by rfl)
      have d26 : a'.tmps.getD 53 undef = .slice qo qn qc := hd 26 (by rfl)
      refine wpOp_on (j := 24) (dj := 51) rfl rfl rfl d24 ?_
      have t2 := hS.s2 (hr 21 (by kernel_rfl)) (hq 28 (by kernel_rfl)) rfl rfl
      refine op_call 47 _ _ rfl (enters_of Tryz.func47 (by kernel_rfl) rfl) [.slice qo qn qc] (by simp only [List.map, Act.eval, d24, d26]) (hR w' hS.touch) ?_
      rintro e w'' ⟨ro, rc, rfl, qq, nn, bb⟩
      refine ⟨_, rfl, _, rfl, ?_, ?_⟩
      · try dsimp only
        exact ⟨_, _, (slots_put (ns := 59) (hsa.size.trans rfl) (by decide))⟩
      · exact ⟨hS.touch.below bb, fun e => absurd e (by rw [updL_other l (by decide), hr 14 (by kernel_rfl)]; decide), fun _ e => absurd e (by rw [updL_other l (by decide), hr 21 (by kernel_rfl)]; decide), fun _ e => absurd e (by rw [updL_other l (by decide), hr 21 (by kernel_rfl)]; decide), fun _ _ _ _ => t2.below bb, fun _ _ _ _ => ⟨ro, rc, (slots_put (ns := 59) (hsa.size.trans rfl) (by decide)), qq, nn⟩, fun e => absurd e (by rw [updL_other l (by decide), hq 28 (by kernel_rfl)]; decide)⟩
    | 28, ho, hl, hr, hq =>
      obtain rfl := Option.some.inj ho
      try dsimp only at hd
      have d24 : a'.tmps.getD 51 undef = .bool false := hd 24 (by rfl)
      have d25 : a'.tmps.getD 52 undef = .pointer (some ⟨L.b, 0, none⟩) := hd 25 (by rfl)
      refine wpOp_on (j := 24) (dj := 51) rfl rfl rfl d24 ?_
      obtain ⟨ro, rc, d27, q27, n27⟩ := hS.p2 (hr 27 (by kernel_rfl)) hl rfl rfl
      have t2 := hS.s2 (hr 21 (by kernel_rfl)) hl rfl rfl
      refine op_call 46 _ _ rfl (enters_of Tryz.func46 (by kernel_rfl) rfl) [.pointer (some ⟨L.b, 0, none⟩), .slice ro nr rc] (by simp only [List.map, Act.eval, d24, d25, d27]) (hH w' ro rc hS.touch t2 q27 n27) ?_
      rintro e w'' ⟨rfl, tt, ta⟩
      refine ⟨_, rfl, _, rfl, ?_, ?_⟩
      · try dsimp only
        exact (slots_put (ns := 59) (hsa.size.trans rfl) (by decide))
      · exact ⟨hS.touch.andThen tt fun _ _ e => e, fun e => absurd e (by rw [updL_other l (by decide), hr 14 (by kernel_rfl)]; decide), fun _ e => absurd e (by rw [updL_other l (by decide), hr 21 (by kernel_rfl)]; decide), fun _ e => absurd e (by rw [updL_other l (by decide), hr 21 (by kernel_rfl)]; decide), fun _ e => absurd e (by rw [updL_same]; decide), fun _ e => absurd e (by rw [updL_same]; decide), fun _ _ _ e => ta e⟩
    | 29, ho, hl, hr, hq =>
      obtain rfl := Option.some.inj ho
      try dsimp only at hd
      have d24 : a'.tmps.getD 51 undef = .bool false := hd 24 (by rfl)
      have d28 : a'.tmps.getD 55 undef = .bool false := hd 28 (by rfl)
      refine wpOp_on (j := 24) (dj := 51) rfl rfl rfl d24 ?_
      refine op_run (v := .bool true) (w' := w') ?_ ⟨_, rfl, ?_, ?_⟩
      · simp only [execOp, Act.eval, d24, d28]; first | (go_simp; done) | rfl
      · try dsimp only
        exact (slots_put (ns := 59) (hsa.size.trans rfl) (by decide))
      · exact hS.put 29 56 _ (by decide) (by decide)
    | 30, ho, hl, hr, hq =>
      obtain rfl := Option.some.inj ho
      try dsimp only at hd
      have d24 : a'.tmps.getD 51 undef = .bool false := hd 24 (by rfl)
      have d29 : a'.tmps.getD 56 undef = .bool true := hd 29 (by rfl)
      refine wpOp_of rfl rfl ?_
      refine op_run (v := .bool true) (w' := w') ?_ ⟨_, rfl, ?_, ?_⟩
      · simp only [execOp, Act.eval, d24, d29]; first | (go_simp; done) | rfl
      · try dsimp only
        exact (slots_put (ns := 59) (hsa.size.trans rfl) (by decide))
      · exact hS.put 30 57 _ (by decide) (by decide)
    | (n + 31), ho, _, _, _ => exact absurd ho (by simp)
  case pdone =>
    intro a' w' l hl hsa hS hd
    have d30 : a'.tmps.getD 57 undef = .bool true := hd 30 (by decide)
    exact HQ.out a' w' ⟨hsa.size.trans rfl, hsa.defers.trans rfl, hsa.rest 0 (by rfl), hsa.rest 2 (by rfl), hsa.rest 3 (by rfl), hsa.rest 4 (by rfl), hsa.rest 5 (by rfl), hsa.rest 6 (by rfl), hsa.rest 7 (by rfl), hsa.rest 8 (by rfl), hsa.rest 9 (by rfl)⟩ d30 hS.touch
theorem ld_r5e {K : Act → World → Prop} {c : Code} (hc : regOf (Tryz.f20.body.getD .skip) 5 = some c) (a : Act) {v : Vld} {wq : World} {L : LOC} {G0 G1 G2 G3 : TG} {np nr : Nat} {P : List PU} {R : List Rec} {g cp : Nat} {y1 y2 : Int} {po : Option Addr} {pn pc : Nat} {qo : Option Addr} {qn qc : Nat} (hF : Fld a v) (h4v : v.v4 = .slice (some ⟨g, 0, none⟩) 4 cp) (h8v : v.v8 = .pointer (some ⟨L.b, 0, none⟩)) (h9v : v.v9 = .int .i64 0) (h5v : v.v5 = .slice po pn pc) (h6v : v.v6 = .slice qo qn qc) (hT : TAt wq L G0) (hg1 : ∀ W, Touch L.own wq W → W.cell? ⟨g, 4, none⟩ = some (.int .u64 y1)) (hg2 : ∀ W, Touch L.own wq W → W.cell? ⟨g, 7, none⟩ = some (.int .u64 y2)) (hM : ∀ W, Touch L.own wq W → TAt W L G0 → Calls Tryz.prog 43 #[.pointer (some ⟨L.b, 0, none⟩), .int .i64 (IntKind.i64.wrap y1), .int .i64 (IntKind.i64.wrap y2)] W fun e w' => e = .returned (.bool true) ∧ Touch L.own W w' ∧ (true = true → TAt w' L G1)) (hP : ∀ W, Touch L.own wq W → Calls Tryz.prog 45 #[.slice po pn pc] W fun e w' => ∃ ro rc, e = .returned (.slice ro np rc) ∧ OwnsQ w' 75 3 (.slice ro np rc) np (prodCells P) ∧ Below W.heap.size W w') (hK : ∀ W ro rc, Touch L.own wq W → TAt W L G1 → OwnsQ W 75 3 (.slice ro np rc) np (prodCells P) → Calls Tryz.prog 44 #[.pointer (some ⟨L.b, 0, none⟩), .slice ro np rc] W fun e w' => e = .returned (.bool true) ∧ Touch L.own W w' ∧ (true = true → TAt w' L G2)) (hR : ∀ W, Touch L.own wq W → Calls Tryz.prog 47 #[.slice qo qn qc] W fun e w' => ∃ ro rc, e = .returned (.slice ro nr rc) ∧ OwnsQ w' 39 5 (.slice ro nr rc) nr (recCells R) ∧ (∀ j, (Value.slice ro nr rc).ownBlock = some j → wq.heap.size ≤ j) ∧ Below W.heap.size W w') (hH : ∀ W ro rc, Touch L.own wq W → TAt W L G2 → OwnsQ W 39 5 (.slice ro nr rc) nr (recCells R) → (∀ j, (Value.slice ro nr rc).ownBlock = some j → wq.heap.size ≤ j) → Calls Tryz.prog 46 #[.pointer (some ⟨L.b, 0, none⟩), .slice ro nr rc] W fun e w' => e = .returned (.bool true) ∧ Touch L.own W w' ∧ (true = true → ∃ L' : LOC, L'.b = L.b ∧ TAt w' L' G3 ∧ ∀ j, L'.own j → L.own j ∨ wq.heap.size ≤ j)) 
    (hQ : ∀ a' w', Fld a' v → a'.tmps.getD 57 undef = .bool false → Touch L.own wq w' → (∃ L' : LOC, L'.b = L.b ∧ TAt w' L' G3 ∧ ∀ j, L'.own j → L.own j ∨ wq.heap.size ≤ j) → K a' w') :
    Code.wp Tryz.prog c (Exit.then K fun _ _ _ => False) a wq := by
  have HQ := hide hQ
  clear hQ
  obtain ⟨v0, v2, v3, v4, v5, v6, v7, v8, v9⟩ := v
  simp only at h4v h8v h9v h5v h6v HQ
  subst h4v h8v h9v h5v h6v
  obtain ⟨u, rfl⟩ := frx_ld hF
  clear hF
  simp only [Tryz.f20, Option.getD_some, regOf] at hc
  injection hc with hc
  subst hc
  refine wp_region_any rfl ?_
  have HT0 := hide hT
  clear hT
  refine wpAny_staged (ns := 59) (uses := (fun i => match i with | 0 => [27] | 1 => [28] | 2 => [29] | 3 => [30] | 4 => [31] | 5 => [32] | 6 => [33] | 7 => [34] | 8 => [35] | 9 => [36] | 10 => [37] | 11 => [38] | 12 => [39] | 13 => [40] | 14 => [41] | 15 => [42] | 16 => [43] | 17 => [44] | 18 => [45] | 19 => [46] | 20 => [47] | 21 => [48] | 22 => [49] | 23 => [50] | 24 => [51] | 25 => [52] | 26 => [53] | 27 => [54] | 28 => [55] | 29 => [56] | 30 => [57] | _ => [])) (by kernel_rfl) (by kernel_rfl) (LSt true true true wq L G0 G1 G2 G3 np nr P R) ?h0 (fun i => match i with | 0 => fun s => s 27 = .int .i64 0 | 1 => fun s => s 28 = .bool false | 2 => fun s => s 29 = .bool false | 3 => fun s => s 30 = .pointer (some ⟨L.b, 0, none⟩) | 4 => fun s => s 31 = .slice (some ⟨g, 0, none⟩) 4 cp | 5 => fun s => s 32 = .pointer (some ⟨g, 3, none⟩) | 6 => fun s => s 33 = .pointer (some ⟨g, 4, none⟩) | 7 => fun s => s 34 = .int .u64 y1 | 8 => fun s => s 35 = .int .i64 (IntKind.i64.wrap y1) | 9 => fun s => s 36 = .slice (some ⟨g, 0, none⟩) 4 cp | 10 => fun s => s 37 = .pointer (some ⟨g, 6, none⟩) | 11 => fun s => s 38 = .pointer (some ⟨g, 7, none⟩) | 12 => fun s => s 39 = .int .u64 y2 | 13 => fun s => s 40 = .int .i64 (IntKind.i64.wrap y2) | 14 => fun s => s 41 = .bool true | 15 => fun s => s 42 = .bool false | 16 => fun s => s 43 = .bool false | 17 => fun s => s 44 = .bool false | 18 => fun s => s 45 = .pointer (some ⟨L.b, 0, none⟩) | 19 => fun s => s 46 = .slice po pn pc | 20 => fun s => ∃ xo xc, s 47 = .slice xo np xc | 21 => fun s => s 48 = .bool true | 22 => fun s => s 49 = .bool false | 23 => fun s => s 50 = .bool false | 24 => fun s => s 51 = .bool false | 25 => fun s => s 52 = .pointer (some ⟨L.b, 0, none⟩) | 26 => fun s => s 53 = .slice qo qn qc | 27 => fun s => ∃ xo xc, s 54 = .slice xo nr xc | 28 => fun s => s 55 = .bool true | 29 => fun s => s 56 = .bool false | 30 => fun s => s 57 = .bool false | _ => fun _ => True) ?phc ?pstep ?pdone
  case h0 =>
    exact ⟨(Touch.refl _ _).drew, fun _ => HT0.out.below (Below.refl _ _).drew, fun e => (by cases e), fun e => (by cases e), fun e => (by cases e), fun e => (by cases e), fun e => (by cases e)⟩
  case phc =>
    intro i s s' hx h
    match i, hx, h with
    | 0, hx, h => exact (hx 27 (by simp)).symm.trans h
    | 1, hx, h => exact (hx 28 (by simp)).symm.trans h
    | 2, hx, h => exact (hx 29 (by simp)).symm.trans h
    | 3, hx, h => exact (hx 30 (by simp)).symm.trans h
    | 4, hx, h => exact (hx 31 (by simp)).symm.trans h
    | 5, hx, h => exact (hx 32 (by simp)).symm.trans h
    | 6, hx, h => exact (hx 33 (by simp)).symm.trans h
    | 7, hx, h => exact (hx 34 (by simp)).symm.trans h
    | 8, hx, h => exact (hx 35 (by simp)).symm.trans h
    | 9, hx, h => exact (hx 36 (by simp)).symm.trans h
    | 10, hx, h => exact (hx 37 (by simp)).symm.trans h
    | 11, hx, h => exact (hx 38 (by simp)).symm.trans h
    | 12, hx, h => exact (hx 39 (by simp)).symm.trans h
    | 13, hx, h => exact (hx 40 (by simp)).symm.trans h
    | 14, hx, h => exact (hx 41 (by simp)).symm.trans h
    | 15, hx, h => exact (hx 42 (by simp)).symm.trans h
    | 16, hx, h => exact (hx 43 (by simp)).symm.trans h
    | 17, hx, h => exact (hx 44 (by simp)).symm.trans h
    | 18, hx, h => exact (hx 45 (by simp)).symm.trans h
    | 19, hx, h => exact (hx 46 (by simp)).symm.trans h
    | 20, hx, h => obtain ⟨xo, xc, h⟩ := h; exact ⟨xo, xc, (hx 47 (by simp)).symm.trans h⟩
    | 21, hx, h => exact (hx 48 (by simp)).symm.trans h
    | 22, hx, h => exact (hx 49 (by simp)).symm.trans h
    | 23, hx, h => exact (hx 50 (by simp)).symm.trans h
    | 24, hx, h => exact (hx 51 (by simp)).symm.trans h
    | 25, hx, h => exact (hx 52 (by simp)).symm.trans h
    | 26, hx, h => exact (hx 53 (by simp)).symm.trans h
    | 27, hx, h => obtain ⟨xo, xc, h⟩ := h; exact ⟨xo, xc, (hx 54 (by simp)).symm.trans h⟩
    | 28, hx, h => exact (hx 55 (by simp)).symm.trans h
    | 29, hx, h => exact (hx 56 (by simp)).symm.trans h
    | 30, hx, h => exact (hx 57 (by simp)).symm.trans h
    | (n + 31), _, h => exact h
  case pstep =>
    intro i o ho a' w' l hl hr hq hsa hS hd
    match i, ho, hl, hr, hq with
    | 0, ho, hl, hr, hq =>
      obtain rfl := Option.some.inj ho
      try dsimp only at hd
      have g9 : a'.tmps.getD 9 undef = .int .i64 0 := hsa.rest 9 (by rfl)
      refine wpOp_of rfl rfl ?_
      refine op_run (v := .int .i64 0) (w' := w') ?_ ⟨_, rfl, ?_, ?_⟩
      · simp only [execOp, Act.eval, g9]; first | (go_simp; done) | rfl
      · try dsimp only
        exact (slots_put (ns := 59) (hsa.size.trans rfl) (by decide))
      · exact hS.put 0 27 _ (by decide) (by decide)
    | 1, ho, hl, hr, hq =>
      obtain rfl := Option.some.inj ho
      try dsimp only at hd
      have d0 : a'.tmps.getD 27 undef = .int .i64 0 := hd 0 (by rfl)
      refine wpOp_of rfl rfl ?_
      refine op_run (v := .bool false) (w' := w') ?_ ⟨_, rfl, ?_, ?_⟩
      · simp only [execOp, Act.eval, d0]; first | (go_simp; done) | rfl
      · try dsimp only
        exact (slots_put (ns := 59) (hsa.size.trans rfl) (by decide))
      · exact hS.put 1 28 _ (by decide) (by decide)
    | 2, ho, hl, hr, hq =>
      obtain rfl := Option.some.inj ho
      try dsimp only at hd
      have d1 : a'.tmps.getD 28 undef = .bool false := hd 1 (by rfl)
      refine wpOp_of rfl rfl ?_
      refine op_run (v := .bool false) (w' := w') ?_ ⟨_, rfl, ?_, ?_⟩
      · simp only [execOp, Act.eval, d1]; first | (go_simp; done) | rfl
      · try dsimp only
        exact (slots_put (ns := 59) (hsa.size.trans rfl) (by decide))
      · exact hS.put 2 29 _ (by decide) (by decide)
    | 3, ho, hl, hr, hq =>
      obtain rfl := Option.some.inj ho
      try dsimp only at hd
      have d2 : a'.tmps.getD 29 undef = .bool false := hd 2 (by rfl)
      have g8 : a'.tmps.getD 8 undef = .pointer (some ⟨L.b, 0, none⟩) := hsa.rest 8 (by rfl)
      refine wpOp_on (j := 2) (dj := 29) rfl rfl rfl d2 ?_
      refine op_run (v := .pointer (some ⟨L.b, 0, none⟩)) (w' := w') ?_ ⟨_, rfl, ?_, ?_⟩
      · simp only [execOp, Act.eval, d2, g8]; first | (go_simp; done) | rfl
      · try dsimp only
        exact (slots_put (ns := 59) (hsa.size.trans rfl) (by decide))
      · exact hS.put 3 30 _ (by decide) (by decide)
    | 4, ho, hl, hr, hq =>
      obtain rfl := Option.some.inj ho
      try dsimp only at hd
      have d2 : a'.tmps.getD 29 undef = .bool false := hd 2 (by rfl)
      have g4 : a'.tmps.getD 4 undef = .slice (some ⟨g, 0, none⟩) 4 cp := hsa.rest 4 (by rfl)
      refine wpOp_on (j := 2) (dj := 29) rfl rfl rfl d2 ?_
      refine op_run (v := .slice (some ⟨g, 0, none⟩) 4 cp) (w' := w') ?_ ⟨_, rfl, ?_, ?_⟩
      · simp only [execOp, Act.eval, d2, g4]; first | (go_simp; done) | rfl
      · try dsimp only
        exact (slots_put (ns := 59) (hsa.size.trans rfl) (by decide))
      · exact hS.put 4 31 _ (by decide) (by decide)
    | 5, ho, hl, hr, hq =>
      obtain rfl := Option.some.inj ho
      try dsimp only at hd
      have d2 : a'.tmps.getD 29 undef = .bool false := hd 2 (by rfl)
      have d4 : a'.tmps.getD 31 undef = .slice (some ⟨g, 0, none⟩) 4 cp := hd 4 (by rfl)
      refine wpOp_on (j := 2) (dj := 29) rfl rfl rfl d2 ?_
      refine op_run (v := .pointer (some ⟨g, 3, none⟩)) (w' := w') ?_ ⟨_, rfl, ?_, ?_⟩
      · simp only [execOp, Act.eval, d2, d4]; first | (go_simp; done) | rfl
      · try dsimp only
        exact (slots_put (ns := 59) (hsa.size.trans rfl) (by decide))
      · exact hS.put 5 32 _ (by decide) (by decide)
    | 6, ho, hl, hr, hq =>
      obtain rfl := Option.some.inj ho
      try dsimp only at hd
      have d2 : a'.tmps.getD 29 undef = .bool false := hd 2 (by rfl)
      have d5 : a'.tmps.getD 32 undef = .pointer (some ⟨g, 3, none⟩) := hd 5 (by rfl)
      refine wpOp_on (j := 2) (dj := 29) rfl rfl rfl d2 ?_
      refine op_run (v := .pointer (some ⟨g, 4, none⟩)) (w' := w') ?_ ⟨_, rfl, ?_, ?_⟩
      · simp only [execOp, Act.eval, d2, d5]; first | (go_simp; done) | rfl
      · try dsimp only
        exact (slots_put (ns := 59) (hsa.size.trans rfl) (by decide))
      · exact hS.put 6 33 _ (by decide) (by decide)
    | 7, ho, hl, hr, hq =>
      obtain rfl := Option.some.inj ho
      try dsimp only at hd
      have d2 : a'.tmps.getD 29 undef = .bool false := hd 2 (by rfl)
      have d6 : a'.tmps.getD 33 undef = .pointer (some ⟨g, 4, none⟩) := hd 6 (by rfl)
      refine wpOp_on (j := 2) (dj := 29) rfl rfl rfl d2 ?_
      have y := (hg1 w' hS.touch)
      refine op_run (v := .int .u64 y1) (w' := w') ?_ ⟨_, rfl, ?_, ?_⟩
      · simp only [execOp, Act.eval, d2, d6, y]; first | (go_simp; done) | rfl
      · try dsimp only
        exact (slots_put (ns := 59) (hsa.size.trans rfl) (by decide))
      · exact hS.put 7 34 _ (by decide) (by decide)
    | 8, ho, hl, hr, hq =>
      obtain rfl := Option.some.inj ho
      try dsimp only at hd
      have d2 : a'.tmps.getD 29 undef = .bool false := hd 2 (by rfl)
      have d7 : a'.tmps.getD 34 undef = .int .u64 y1 := hd 7 (by rfl)
      refine wpOp_on (j := 2) (dj := 29) rfl rfl rfl d2 ?_
      refine op_run (v := .int .i64 (IntKind.i64.wrap y1)) (w' := w') ?_ ⟨_, rfl, ?_, ?_⟩
      · simp only [execOp, Act.eval, d2, d7]; first | (go_simp; done) | rfl
      · try dsimp only
        exact (slots_put (ns := 59) (hsa.size.trans rfl) (by decide))
      · exact hS.put 8 35 _ (by decide) (by decide)
    | 9, ho, hl, hr, hq =>
      obtain rfl := Option.some.inj ho
      try dsimp only at hd
      have d2 : a'.tmps.getD 29 undef = .bool false := hd 2 (by rfl)
      have g4 : a'.tmps.getD 4 undef = .slice (some ⟨g, 0, none⟩) 4 cp := hsa.rest 4 (by rfl)
      refine wpOp_on (j := 2) (dj := 29) rfl rfl rfl d2 ?_
      refine op_run (v := .slice (some ⟨g, 0, none⟩) 4 cp) (w' := w') ?_ ⟨_, rfl, ?_, ?_⟩
      · simp only [execOp, Act.eval, d2, g4]; first | (go_simp; done) | rfl
      · try dsimp only
        exact (slots_put (ns := 59) (hsa.size.trans rfl) (by decide))
      · exact hS.put 9 36 _ (by decide) (by decide)
    | 10, ho, hl, hr, hq =>
      obtain rfl := Option.some.inj ho
      try dsimp only at hd
      have d2 : a'.tmps.getD 29 undef = .bool false := hd 2 (by rfl)
      have d9 : a'.tmps.getD 36 undef = .slice (some ⟨g, 0, none⟩) 4 cp := hd 9 (by rfl)
      refine wpOp_on (j := 2) (dj := 29) rfl rfl rfl d2 ?_
      refine op_run (v := .pointer (some ⟨g, 6, none⟩)) (w' := w') ?_ ⟨_, rfl, ?_, ?_⟩
      · simp only [execOp, Act.eval, d2, d9]; first | (go_simp; done) | rfl
      · try dsimp only
        exact (slots_put (ns := 59) (hsa.size.trans rfl) (by decide))
      · exact hS.put 10 37 _ (by decide) (by decide)
    | 11, ho, hl, hr, hq =>
      obtain rfl := Option.some.inj ho
      try dsimp only at hd
      have d2 : a'.tmps.getD 29 undef = .bool false := hd 2 (by rfl)
      have d10 : a'.tmps.getD 37 undef = .pointer (some ⟨g, 6, none⟩) := hd 10 (by rfl)
      refine wpOp_on (j := 2) (dj := 29) rfl rfl rfl d2 ?_
      refine op_run (v := .pointer (some ⟨g, 7, none⟩)) (w' := w') ?_ ⟨_, rfl, ?_, ?_⟩
      · simp only [execOp, Act.eval, d2, d10]; first | (go_simp; done) | rfl
      · try dsimp only
        exact (slots_put (ns := 59) (hsa.size.trans rfl) (by decide))
      · exact hS.put 11 38 _ (by decide) (by decide)
    | 12, ho, hl, hr, hq =>
      obtain rfl := Option.some.inj ho
      try dsimp only at hd
      have d2 : a'.tmps.getD 29 undef = .bool false := hd 2 (by rfl)
      have d11 : a'.tmps.getD 38 undef = .pointer (some ⟨g, 7, none⟩) := hd 11 (by rfl)
      refine wpOp_on (j := 2) (dj := 29) rfl rfl rfl d2 ?_
      have y := (hg2 w' hS.touch)
      refine op_run (v := .int .u64 y2) (w' := w') ?_ ⟨_, rfl, ?_, ?_⟩
      · simp only [execOp, Act.eval, d2, d11, y]; first | (go_simp; done) | rfl
      · try dsimp only
        exact (slots_put (ns := 59) (hsa.size.trans rfl) (by decide))
      · exact hS.put 12 39 _ (by decide) (by decide)
    | 13, ho, hl, hr, hq =>
      obtain rfl := Option.some.inj ho
      try dsimp only at hd
      have d2 : a'.tmps.getD 29 undef = .bool false := hd 2 (by rfl)
      have d12 : a'.tmps.getD 39 undef = .int .u64 y2 := hd 12 (by rfl)
      refine wpOp_on (j := 2) (dj := 29) rfl rfl rfl d2 ?_
      refine op_run (v := .int .i64 (IntKind.i64.wrap y2)) (w' := w') ?_ ⟨_, rfl, ?_, ?_⟩
      · simp only [execOp, Act.eval, d2, d12]; first | (go_simp; done) | rfl
      · try dsimp only
        exact (slots_put (ns := 59) (hsa.size.trans rfl) (by decide))
      · exact hS.put 13 40 _ (by decide) (by decide)
    | 14, ho, hl, hr, hq =>
      obtain rfl := Option.some.inj ho
      try dsimp only at hd
      have d2 : a'.tmps.getD 29 undef = .bool false := hd 2 (by rfl)
      have d3 : a'.tmps.getD 30 undef = .pointer (some ⟨L.b, 0, none⟩) := hd 3 (by rfl)
      have d8 : a'.tmps.getD 35 undef = .int .i64 (IntKind.i64.wrap y1) := hd 8 (by rfl)
      have d13 : a'.tmps.getD 40 undef = .int .i64 (IntKind.i64.wrap y2) := hd 13 (by rfl)
      refine wpOp_on (j := 2) (dj := 29) rfl rfl rfl d2 ?_
      have t0 := hS.s0 hl
      refine op_call 43 _ _ rfl (enters_of Tryz.func43 (by kernel_rfl) rfl) [.pointer (some ⟨L.b, 0, none⟩), .int .i64 (IntKind.i64.wrap y1), .int .i64 (IntKind.i64.wrap y2)] (by simp only [List.map, Act.eval, d2, d3, d8, d13]) (hM w' hS.touch t0) ?_
      rintro e w'' ⟨rfl, tt, ta⟩
      refine ⟨_, rfl, _, rfl, ?_, ?_⟩
      · try dsimp only
        exact (slots_put (ns := 59) (hsa.size.trans rfl) (by decide))
      · exact ⟨hS.touch.andThen tt fun _ _ e => e, fun e => absurd e (by rw [updL_same]; decide), fun _ _ e => ta e, fun e => absurd e (by rw [updL_other l (by decide), hq 20 (by kernel_rfl)]; decide), fun e => absurd e (by rw [updL_other l (by decide), hq 21 (by kernel_rfl)]; decide), fun e => absurd e (by rw [updL_other l (by decide), hq 27 (by kernel_rfl)]; decide), fun e => absurd e (by rw [updL_other l (by decide), hq 28 (by kernel_rfl)]; decide)⟩
    | 15, ho, hl, hr, hq =>
      obtain rfl := Option.some.inj ho
      try dsimp only at hd
      have d2 : a'.tmps.getD 29 undef = .bool false := hd 2 (by rfl)
      have d14 : a'.tmps.getD 41 undef = .bool true := hd 14 (by rfl)
      refine wpOp_on (j := 2) (dj := 29) rfl rfl rfl d2 ?_
      refine op_run (v := .bool false) (w' := w') ?_ ⟨_, rfl, ?_, ?_⟩
      · simp only [execOp, Act.eval, d2, d14]; first | (go_simp; done) | rfl
      · try dsimp only
        exact (slots_put (ns := 59) (hsa.size.trans rfl) (by decide))
      · exact hS.put 15 42 _ (by decide) (by decide)
    | 16, ho, hl, hr, hq =>
      obtain rfl := Option.some.inj ho
      try dsimp only at hd
      have d2 : a'.tmps.getD 29 undef = .bool false := hd 2 (by rfl)
      have d15 : a'.tmps.getD 42 undef = .bool false := hd 15 (by rfl)
      refine wpOp_of rfl rfl ?_
      refine op_run (v := .bool false) (w' := w') ?_ ⟨_, rfl, ?_, ?_⟩
      · simp only [execOp, Act.eval, d2, d15]; first | (go_simp; done) | rfl
      · try dsimp only
        exact (slots_put (ns := 59) (hsa.size.trans rfl) (by decide))
      · exact hS.put 16 43 _ (by decide) (by decide)
    | 17, ho, hl, hr, hq =>
      obtain rfl := Option.some.inj ho
      try dsimp only at hd
      have d16 : a'.tmps.getD 43 undef = .bool false := hd 16 (by rfl)
      refine wpOp_of rfl rfl ?_
      refine op_run (v := .bool false) (w' := w') ?_ ⟨_, rfl, ?_, ?_⟩
      · simp only [execOp, Act.eval, d16]; first | (go_simp; done) | rfl
      · try dsimp only
        exact (slots_put (ns := 59) (hsa.size.trans rfl) (by decide))
      · exact hS.put 17 44 _ (by decide) (by decide)
    | 18, ho, hl, hr, hq =>
      obtain rfl := Option.some.inj ho
      try dsimp only at hd
      have d17 : a'.tmps.getD 44 undef = .bool false := hd 17 (by rfl)
      have g8 : a'.tmps.getD 8 undef = .pointer (some ⟨L.b, 0, none⟩) := hsa.rest 8 (by rfl)
      refine wpOp_on (j := 17) (dj := 44) rfl rfl rfl d17 ?_
      refine op_run (v := .pointer (some ⟨L.b, 0, none⟩)) (w' := w') ?_ ⟨_, rfl, ?_, ?_⟩
      · simp only [execOp, Act.eval, d17, g8]; first | (go_simp; done) | rfl
      · try dsimp only
        exact (slots_put (ns := 59) (hsa.size.trans rfl) (by decide))
      · exact hS.put 18 45 _ (by decide) (by decide)
    | 19, ho, hl, hr, hq =>
      obtain rfl := Option.some.inj ho
      try dsimp only at hd
      have d17 : a'.tmps.getD 44 undef = .bool false := hd 17 (by rfl)
      have g5 : a'.tmps.getD 5 undef = .slice po pn pc := hsa.rest 5 (by rfl)
      refine wpOp_on (j := 17) (dj := 44) rfl rfl rfl d17 ?_
      refine op_run (v := .slice po pn pc) (w' := w') ?_ ⟨_, rfl, ?_, ?_⟩
      · simp only [execOp, Act.eval, d17, g5]; first | (go_simp; done) | rfl
      · try dsimp only
        exact (slots_put (ns := 59) (hsa.size.trans rfl) (by decide))
      · exact hS.put 19 46 _ (by decide) (by decide)
    | 20, ho, hl, hr, hq =>
      obtain rfl := Option.some.inj ho
      try dsimp only at hd
      have d17 : a'.tmps.getD 44 undef = .bool false := hd 17 (by rfl)
      have d19 : a'.tmps.getD 46 undef = .slice po pn pc := hd 19 (by rfl)
      refine wpOp_on (j := 17) (dj := 44) rfl rfl rfl d17 ?_
      have t1 := hS.s1 (hr 14 (by kernel_rfl)) (hq 21 (by kernel_rfl)) rfl
      refine op_call 45 _ _ rfl (enters_of Tryz.func45 (by kernel_rfl) rfl) [.slice po pn pc] (by simp only [List.map, Act.eval, d17, d19]) (hP w' hS.touch) ?_
      rintro e w'' ⟨ro, rc, rfl, qq, bb⟩
      refine ⟨_, rfl, _, rfl, ?_, ?_⟩
      · try dsimp only
        exact ⟨_, _, (slots_put (ns := 59) (hsa.size.trans rfl) (by decide))⟩
      · exact ⟨hS.touch.below bb, fun e => absurd e (by rw [updL_other l (by decide), hr 14 (by kernel_rfl)]; decide), fun _ _ _ => t1.below bb, fun _ _ _ => ⟨ro, rc, (slots_put (ns := 59) (hsa.size.trans rfl) (by decide)), qq⟩, fun e => absurd e (by rw [updL_other l (by decide), hq 21 (by kernel_rfl)]; decide), fun e => absurd e (by rw [updL_other l (by decide), hq 27 (by kernel_rfl)]; decide), fun e => absurd e (by rw [updL_other l (by decide), hq 28 (by kernel_rfl)]; decide)⟩
    | 21, ho, hl, hr, hq =>
      obtain rfl := Option.some.inj ho
      try dsimp only at hd
      have d17 : a'.tmps.getD 44 undef = .bool false := hd 17 (by rfl)
      have d18 : a'.tmps.getD 45 undef = .pointer (some ⟨L.b, 0, none⟩) := hd 18 (by rfl)
      refine wpOp_on (j := 17) (dj := 44) rfl rfl rfl d17 ?_
      obtain ⟨ro, rc, d20, q20⟩ := hS.p1 (hr 20 (by kernel_rfl)) hl rfl
      have t1 := hS.s1 (hr 14 (by kernel_rfl)) hl rfl
      refine op_call 44 _ _ rfl (enters_of Tryz.func44 (by kernel_rfl) rfl) [.pointer (some ⟨L.b, 0, none⟩), .slice ro np rc] (by simp only [List.map, Act.eval, d17, d18, d20]) (hK w' ro rc hS.touch t1 q20) ?_
      rintro e w'' ⟨rfl, tt, ta⟩
      refine ⟨_, rfl, _, rfl, ?_, ?_⟩
      · try dsimp only
        exact (slots_put (ns := 59) (hsa.size.trans rfl) (by decide))
      · exact ⟨hS.touch.andThen tt fun _ _ e => e, fun e => absurd e (by rw [updL_other l (by decide), hr 14 (by kernel_rfl)]; decide), fun _ e => absurd e (by rw [updL_same]; decide), fun _ e => absurd e (by rw [updL_same]; decide), fun _ _ _ e => ta e, fun e => absurd e (by rw [updL_other l (by decide), hq 27 (by kernel_rfl)]; decide), fun e => absurd e (by rw [updL_other l (by decide), hq 28 (by kernel_rfl)]; decide)⟩
    | 22, ho, hl, hr, hq =>
      obtain rfl := Option.some.inj ho
      try dsimp only at hd
      have d17 : a'.tmps.getD 44 undef = .bool false := hd 17 (by rfl)
      have d21 : a'.tmps.getD 48 undef = .bool true := hd 21 (by rfl)
      refine wpOp_on (j := 17) (dj := 44) rfl rfl rfl d17 ?_
      refine op_run (v := .bool false) (w' := w') ?_ ⟨_, rfl, ?_, ?_⟩
      · simp only [execOp, Act.eval, d17, d21]; first | (go_simp; done) | rfl
      · try dsimp only
        exact (slots_put (ns := 59) (hsa.size.trans rfl) (by decide))
      · exact hS.put 22 49 _ (by decide) (by decide)
    | 23, ho, hl, hr, hq =>
      obtain rfl := Option.some.inj ho
      try dsimp only at hd
      have d17 : a'.tmps.getD 44 undef = .bool false := hd 17 (by rfl)
      have d22 : a'.tmps.getD 49 undef = .bool false := hd 22 (by rfl)
      refine wpOp_of rfl rfl ?_
      refine op_run (v := .bool false) (w' := w') ?_ ⟨_, rfl, ?_, ?_⟩
      · simp only [execOp, Act.eval, d17, d22]; first | (go_simp; done) | rfl
      · try dsimp only
        exact (slots_put (ns := 59) (hsa.size.trans rfl) (by decide))
      · exact hS.put 23 50 _ (by decide) (by decide)
    | 24, ho, hl, hr, hq =>
      obtain rfl := Option.some.inj ho
      try dsimp only at hd
      have d23 : a'.tmps.getD 50 undef = .bool false := hd 23 (by rfl)
      refine wpOp_of rfl rfl ?_
      refine op_run (v := .bool false) (w' := w') ?_ ⟨_, rfl, ?_, ?_⟩
      · simp only [execOp, Act.eval, d23]; first | (go_simp; done) | rfl
      · try dsimp only
        exact (slots_put (ns := 59) (hsa.size.trans rfl) (by decide))
      · exact hS.put 24 51 _ (by decide) (by decide)
    | 25, ho, hl, hr, hq =>
      obtain rfl := Option.some.inj ho
      try dsimp only at hd
      have d24 : a'.tmps.getD 51 undef = .bool false := hd 24 (by rfl)
      have g8 : a'.tmps.getD 8 undef = .pointer (some ⟨L.b, 0, none⟩) := hsa.rest 8 (by rfl)
      refine wpOp_on (j := 24) (dj := 51) rfl rfl rfl d24 ?_
      refine op_run (v := .pointer (some ⟨L.b, 0, none⟩)) (w' := w') ?_ ⟨_, rfl, ?_, ?_⟩
      · simp only [execOp, Act.eval, d24, g8]; first | (go_simp; done) | rfl
      · try dsimp only
        exact (slots_put (ns := 59) (hsa.size.trans rfl) (by decide))
      · exact hS.put 25 52 _ (by decide) (by decide)
    | 26, ho, hl, hr, hq =>
      obtain rfl := Option.some.inj ho
      try dsimp only at hd
      have d24 : a'.tmps.getD 51 undef = .bool false := hd 24 (by rfl)
      have g6 : a'.tmps.getD 6 undef = .slice qo qn qc := hsa.rest 6 (by rfl)
      refine wpOp_on (j := 24) (dj := 51) rfl rfl rfl d24 ?_
      refine op_run (v := .slice qo qn qc) (w' := w') ?_ ⟨_, rfl, ?_, ?_⟩
      · simp only [execOp, Act.eval, d24, g6]; first | (go_simp; done) | rfl
      · try dsimp only
        exact (slots_put (ns := 59) (hsa.size.trans rfl) (by decide))
      · exact hS.put 26 53 _ (by decide) (by decide)
    | 27, ho, hl, hr, hq =>
      obtain rfl := Option.some.inj ho
      try dsimp only at hd
      have d24 : a'.tmps.getD 51 undef = .bool false := hd 24 (by rfl)
      have d26 : a'.tmps.getD 53 undef = .slice qo qn qc := hd 26 (by rfl)
      refine wpOp_on (j := 24) (dj := 51) rfl rfl rfl d24 ?_
      have t2 := hS.s2 (hr 21 (by kernel_rfl)) (hq 28 (by kernel_rfl)) rfl rfl
      refine op_call 47 _ _ rfl (enters_of Tryz.func47 (by kernel_rfl) rfl) [.slice qo qn qc] (by simp only [List.map, Act.eval, d24, d26]) (hR w' hS.touch) ?_
      rintro e w'' ⟨ro, rc, rfl, qq, nn, bb⟩
      refine ⟨_, rfl, _, rfl, ?_, ?_⟩
      · try dsimp only
        exact ⟨_, _, (slots_put (ns := 59) (hsa.size.trans rfl) (by decide))⟩
      · exact ⟨hS.touch.below bb, fun e => absurd e (by rw [updL_other l (by decide), hr 14 (by kernel_rfl)]; decide), fun _ e => absurd e (by rw [updL_other l (by decide), hr 21 (by kernel_rfl)]; decide), fun _ e => absurd e (by rw [updL_other l (by decide), hr 21 (by kernel_rfl)]; decide), fun _ _ _ _ => t2.below bb, fun _ _ _ _ => ⟨ro, rc, (slots_put (ns := 59) (hsa.size.trans rfl) (by decide)), qq, nn⟩, fun e => absurd e (by rw [updL_other l (by decide), hq 28 (by kernel_rfl)]; decide)⟩
    | 28, ho, hl, hr, hq =>
      obtain rfl := Option.some.inj ho
      try dsimp only at hd
      have d24 : a'.tmps.getD 51 undef = .bool false := hd 24 (by rfl)
      have d25 : a'.tmps.getD 52 undef = .pointer (some ⟨L.b, 0, none⟩) := hd 25 (by rfl)
      refine wpOp_on (j := 24) (dj := 51) rfl rfl rfl d24 ?_
      obtain ⟨ro, rc, d27, q27, n27⟩ := hS.p2 (hr 27 (by kernel_rfl)) hl rfl rfl
      have t2 := hS.s2 (hr 21 (by kernel_rfl)) hl rfl rfl
      refine op_call 46 _ _ rfl (enters_of Tryz.func46 (by kernel_rfl) rfl) [.pointer (some ⟨L.b, 0, none⟩), .slice ro nr rc] (by simp only [List.map, Act.eval, d24, d25, d27]) (hH w' ro rc hS.touch t2 q27 n27) ?_
      rintro e w'' ⟨rfl, tt, ta⟩
      refine ⟨_, rfl, _, rfl, ?_, ?_⟩
      · try dsimp only
        exact (slots_put (ns := 59) (hsa.size.trans rfl) (by decide))
      · exact ⟨hS.touch.andThen tt fun _ _ e => e, fun e => absurd e (by rw [updL_other l (by decide), hr 14 (by kernel_rfl)]; decide), fun _ e => absurd e (by rw [updL_other l (by decide), hr 21 (by kernel_rfl)]; decide), fun _ e => absurd e (by rw [updL_other l (by decide), hr 21 (by kernel_rfl)]; decide), fun _ e => absurd e (by rw [updL_same]; decide), fun _ e => absurd e (by rw [updL_same]; decide), fun _ _ _ e => ta e⟩
    | 29, ho, hl, hr, hq =>
      obtain rfl := Option.some.inj ho
      try dsimp only at hd
      have d24 : a'.tmps.getD 51 undef = .bool false := hd 24 (by rfl)
      have d28 : a'.tmps.getD 55 undef = .bool true := hd 28 (by rfl)
      refine wpOp_on (j := 24) (dj := 51) rfl rfl rfl d24 ?_
      refine op_run (v := .bool false) (w' := w') ?_ ⟨_, rfl, ?_, ?_⟩
      · simp only [execOp, Act.eval, d24, d28]; first | (go_simp; done) | rfl
      · try dsimp only
        exact (slots_put (ns := 59) (hsa.size.trans rfl) (by decide))
      · exact hS.put 29 56 _ (by decide) (by decide)
    | 30, ho, hl, hr, hq =>
      obtain rfl := Option.some.inj ho
      try dsimp only at hd
      have d24 : a'.tmps.getD 51 undef = .bool false := hd 24 (by rfl)
      have d29 : a'.tmps.getD 56 undef = .bool false := hd 29 (by rfl)
      refine wpOp_of rfl rfl ?_
      refine op_run (v := .bool false) (w' := w') ?_ ⟨_, rfl, ?_, ?_⟩
      · simp only [execOp, Act.eval, d24, d29]; first | (go_simp; done) | rfl
      · try dsimp only
        exact (slots_put (ns := 59) (hsa.size.trans rfl) (by decide))
      · exact hS.put 30 57 _ (by decide) (by decide)
    | (n + 31), ho, _, _, _ => exact absurd ho (by simp)
  case pdone =>
    intro a' w' l hl hsa hS hd
    have d30 : a'.tmps.getD 57 undef = .bool false := hd 30 (by decide)
    exact HQ.out a' w' ⟨hsa.size.trans rfl, hsa.defers.trans rfl, hsa.rest 0 (by rfl), hsa.rest 2 (by rfl), hsa.rest 3 (by rfl), hsa.rest 4 (by rfl), hsa.rest 5 (by rfl), hsa.rest 6 (by rfl), hsa.rest 7 (by rfl), hsa.rest 8 (by rfl), hsa.rest 9 (by rfl)⟩ d30 hS.touch (hS.s3 (hl 28 (by decide)) rfl rfl rfl)
theorem ld_r7 {K : Act → World → Prop} {c : Code} (hc : regOf (Tryz.f20.body.getD .skip) 7 = some c) (a : Act) {v : Vld} {wq : World} {po : Option Addr} (hF : Fld a v) (h8v : v.v8 = .pointer po) (hQ : ∀ a', Fld a' { v with v2 := .pointer po, v3 := .int .i64 0 } → K a' wq) :
    Code.wp Tryz.prog c (Exit.then K fun _ _ _ => False) a wq := by
  have HQ := hide hQ
  clear hQ
  obtain ⟨v0, v2, v3, v4, v5, v6, v7, v8, v9⟩ := v
  simp only at h8v HQ
  subst h8v
  obtain ⟨u, rfl⟩ := frx_ld hF
  clear hF
  simp only [Tryz.f20, Option.getD_some, regOf] at hc
  injection hc with hc
  subst hc
  go_wp2
  exact HQ.out _ ⟨rfl, rfl, rfl, rfl, rfl, rfl, rfl, rfl, rfl, rfl, rfl⟩
theorem ld_ret {W : World} {a : Act} {v : Vld} {x : Option Addr} {y : Int} {R : Ending → World → Prop} (hF : Fld a v) (h2 : v.v2 = .pointer x) (h3 : v.v3 = .int .i64 y) (h : R (.returned (.tuple #[.pointer x, .int .i64 y])) W) : bodyPost Tryz.prog Tryz.f20 R .ret a W := by
  have g0 := slot_get (hF.s2.trans h2)
  have g1 := slot_get (hF.s3.trans h3)
  refine bodyPost_ret (v := .tuple #[.pointer x, .int .i64 y]) ?_ hF.defers h
  simp [results, Tryz.results20, go_sem, g0, g1]
end Go.Proofs.YtfoomgdlbkjaeaaGreat.Y
