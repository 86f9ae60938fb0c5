/-
  TopicLoads' regions (mkload.py).
-/
import Derived.Test.YtfoomgdlbkjaeaaGreatZYCl
import Derived.Test.YtfoomgdlbkjaeaaGreatZUQ
import Derived.Test.YtfoomgdlbkjaeaaGreatZT8
import Derived.Test.YtfoomgdlbkjaeaaGreatZXC
import Derived.Laws.StructEq
import Derived.Deep.RegionWith
namespace Go.Proofs.YtfoomgdlbkjaeaaGreat.Y
open Go.RowKit
set_option maxHeartbeats 8000000
set_option maxRecDepth 100000
attribute [local go_sem ↓] Go.wp_at_zero Go.wp_at_succ
set_option linter.unusedSimpArgs false
set_option linter.unusedVariables false
open Go.Maps
theorem frame_zl (t : Array Value) (h : t.size = 68) : ∃ u : Nat → Value, t = List.toArray (u 0 :: u 1 :: u 2 :: u 3 :: u 4 :: u 5 :: u 6 :: u 7 :: u 8 :: u 9 :: u 10 :: u 11 :: u 12 :: u 13 :: u 14 :: u 15 :: u 16 :: u 17 :: u 18 :: u 19 :: u 20 :: u 21 :: u 22 :: u 23 :: u 24 :: u 25 :: u 26 :: u 27 :: u 28 :: u 29 :: u 30 :: u 31 :: u 32 :: u 33 :: u 34 :: u 35 :: u 36 :: u 37 :: u 38 :: u 39 :: u 40 :: u 41 :: u 42 :: u 43 :: u 44 :: u 45 :: u 46 :: u 47 :: u 48 :: u 49 :: u 50 :: u 51 :: u 52 :: u 53 :: u 54 :: u 55 :: u 56 :: u 57 :: u 58 :: u 59 :: u 60 :: u 61 :: u 62 :: u 63 :: u 64 :: u 65 :: u 66 :: u 67 :: []) := by
  refine ⟨fun i => t.getD i undef, ?_⟩
  refine Eq.trans (b := ((List.range 68).map fun i => t.getD i undef).toArray) ?_ rfl
  apply Array.ext
  · simp [h]
  · intro k h1 h2
    simp [Array.getD, h1]
structure Vzl where
  v0 : Value
  v2 : Value
  v3 : Value
  v4 : Value
  v5 : Value
  v6 : Value
  v7 : Value
structure Fzl (a : Act) (v : Vzl) : Prop where
  size : a.tmps.size = 68
  defers : a.defers = []
  s0 : a.tmps.getD 0 undef = v.v0
  s2 : a.tmps.getD 2 undef = v.v2
  s3 : a.tmps.getD 3 undef = v.v3
  s4 : a.tmps.getD 4 undef = v.v4
  s5 : a.tmps.getD 5 undef = v.v5
  s6 : a.tmps.getD 6 undef = v.v6
  s7 : a.tmps.getD 7 undef = v.v7
theorem frx_zl {a : Act} {v0 v2 v3 v4 v5 v6 v7 : Value} (h : Fzl a ⟨v0, v2, v3, v4, v5, v6, v7⟩) : ∃ u : Nat → Value, a = ⟨List.toArray (v0 :: u 1 :: v2 :: v3 :: v4 :: v5 :: v6 :: v7 :: u 8 :: u 9 :: u 10 :: u 11 :: u 12 :: u 13 :: u 14 :: u 15 :: u 16 :: u 17 :: u 18 :: u 19 :: u 20 :: u 21 :: u 22 :: u 23 :: u 24 :: u 25 :: u 26 :: u 27 :: u 28 :: u 29 :: u 30 :: u 31 :: u 32 :: u 33 :: u 34 :: u 35 :: u 36 :: u 37 :: u 38 :: u 39 :: u 40 :: u 41 :: u 42 :: u 43 :: u 44 :: u 45 :: u 46 :: u 47 :: u 48 :: u 49 :: u 50 :: u 51 :: u 52 :: u 53 :: u 54 :: u 55 :: u 56 :: u 57 :: u 58 :: u 59 :: u 60 :: u 61 :: u 62 :: u 63 :: u 64 :: u 65 :: u 66 :: u 67 :: []), []⟩ := by
  obtain ⟨t', d'⟩ := a
  obtain ⟨hs, hd, q0, q2, q3, q4, q5, q6, q7⟩ := h
  obtain ⟨u, hu⟩ := frame_zl t' hs
  simp only at hd q0 q2 q3 q4 q5 q6 q7
  subst hu hd
  have e0 : u 0 = v0 := q0
  have e2 : u 2 = v2 := q2
  have e3 : u 3 = v3 := q3
  have e4 : u 4 = v4 := q4
  have e5 : u 5 = v5 := q5
  have e6 : u 6 = v6 := q6
  have e7 : u 7 = v7 := q7
  refine ⟨u, ?_⟩
  rw [e0, e2, e3, e4, e5, e6, e7]
theorem zl_r0 {K : Act → World → Prop} {c : Code} (hc : regOf (Tryz.f4.body.getD .skip) 0 = some c) (a : Act) {v : Vzl} {wq : World}  (hF : Fzl a v) (hQ : ∀ a', Fzl a' { v with v2 := .bool false } → K a' wq) :
    Code.wp Tryz.prog c (Exit.then K fun _ _ _ => False) a wq := by
  have HQ := hide hQ
  clear hQ
  obtain ⟨v0, v2, v3, v4, v5, v6, v7⟩ := v
  obtain ⟨u, rfl⟩ := frx_zl hF
  clear hF
  simp only [Tryz.f4, Option.getD_some, regOf] at hc
  injection hc with hc
  subst hc
  go_wp2
  exact HQ.out _ ⟨rfl, rfl, rfl, rfl, rfl, rfl, rfl, rfl, rfl⟩
theorem zl_r1 {K : Act → World → Prop} {c : Code} (hc : regOf (Tryz.f4.body.getD .skip) 1 = some c) (a : Act) {v : Vzl} {wq : World} {R : World → Prop} (hF : Fzl a v) (hE : Calls Tryz.prog 6 #[] wq fun e w' => e = .returned (.bool true) ∧ R w')
    (hQ : ∀ a' w', Fzl a' { v with v3 := .bool true } → R w' → K a' w') :
    Code.wp Tryz.prog c (Exit.then K fun _ _ _ => False) a wq := by
  have HQ := hide hQ
  clear hQ
  obtain ⟨v0, v2, v3, v4, v5, v6, v7⟩ := v
  obtain ⟨u, rfl⟩ := frx_zl hF
  clear hF
  simp only [Tryz.f4, Option.getD_some, regOf] at hc
  injection hc with hc
  subst hc
  have HE := hide hE
  clear hE
  go_wp2_with (go_at_call 6; refine HE.out.mono ?_; rintro e w1 ⟨rfl, r1⟩; have R1 := hide r1; clear r1)
  exact HQ.out _ _ ⟨rfl, rfl, rfl, rfl, rfl, rfl, rfl, rfl, rfl⟩ R1.out
theorem zl_r2 {K : Act → World → Prop} {c : Code} (hc : regOf (Tryz.f4.body.getD .skip) 2 = some c) (a : Act) {v : Vzl} {wq : World} {s : ByteArray} {ec : Int} {R : Option Addr → World → Prop} (hF : Fzl a v) (h0v : v.v0 = .string s) (hE : Calls Tryz.prog 20 #[.string s] wq fun e w' => ∃ po, e = .returned (.tuple #[.pointer po, .int .i64 ec]) ∧ R po w')
    (hQ : ∀ a' w' po, Fzl a' { v with v4 := .pointer po, v5 := .int .i64 ec } → R po w' → K a' w') :
    Code.wp Tryz.prog c (Exit.then K fun _ _ _ => False) a wq := by
  have HQ := hide hQ
  clear hQ
  obtain ⟨v0, v2, v3, v4, v5, v6, v7⟩ := v
  simp only at h0v HQ
  subst h0v
  obtain ⟨u, rfl⟩ := frx_zl hF
  clear hF
  simp only [Tryz.f4, Option.getD_some, regOf] at hc
  injection hc with hc
  subst hc
  have HE := hide hE
  clear hE
  go_wp2_with (go_at_call 20; refine HE.out.mono ?_; rintro e w1 ⟨po, rfl, r1⟩; have R1 := hide r1; clear r1)
  exact HQ.out _ _ po ⟨rfl, rfl, rfl, rfl, rfl, rfl, rfl, rfl, rfl⟩ R1.out
theorem zl_r3 {K : Act → World → Prop} {c : Code} (hc : regOf (Tryz.f4.body.getD .skip) 3 = some c) (a : Act) {v : Vzl} {wq : World} {s : ByteArray} {R : Option Addr → World → Prop} (hF : Fzl a v) (h0v : v.v0 = .string s) (hE : Calls Tryz.prog 25 #[.string s] wq fun e w' => ∃ po, e = .returned (.pointer po) ∧ R po w')
    (hQ : ∀ a' w' po, Fzl a' { v with v6 := .pointer po } → R po w' → K a' w') :
    Code.wp Tryz.prog c (Exit.then K fun _ _ _ => False) a wq := by
  have HQ := hide hQ
  clear hQ
  obtain ⟨v0, v2, v3, v4, v5, v6, v7⟩ := v
  simp only at h0v HQ
  subst h0v
  obtain ⟨u, rfl⟩ := frx_zl hF
  clear hF
  simp only [Tryz.f4, Option.getD_some, regOf] at hc
  injection hc with hc
  subst hc
  have HE := hide hE
  clear hE
  go_wp2_with (go_at_call 25; refine HE.out.mono ?_; rintro e w1 ⟨po, rfl, r1⟩; have R1 := hide r1; clear r1)
  exact HQ.out _ _ po ⟨rfl, rfl, rfl, rfl, rfl, rfl, rfl, rfl, rfl⟩ R1.out
theorem zl_r4n {K : Act → World → Prop} {c : Code} (hc : regOf (Tryz.f4.body.getD .skip) 4 = some c) (a : Act) {v : Vzl} {wq : World}  (hF : Fzl a v) (h6v : v.v6 = .pointer none) (hQ : ∀ a', Fzl a' v → a'.tmps.getD 17 undef = .bool true → K a' wq) :
    Code.wp Tryz.prog c (Exit.then K fun _ _ _ => False) a wq := by
  have HQ := hide hQ
  clear hQ
  obtain ⟨v0, v2, v3, v4, v5, v6, v7⟩ := v
  simp only at h6v HQ
  subst h6v
  obtain ⟨u, rfl⟩ := frx_zl hF
  clear hF
  simp only [Tryz.f4, Option.getD_some, regOf] at hc
  injection hc with hc
  subst hc
  go_wp2
  exact HQ.out _ ⟨rfl, rfl, rfl, rfl, rfl, rfl, rfl, rfl, rfl⟩ (by first | rfl | (simp; done))
theorem zl_r4s {K : Act → World → Prop} {c : Code} (hc : regOf (Tryz.f4.body.getD .skip) 4 = some c) (a : Act) {v : Vzl} {wq : World} {xb : Nat} (hF : Fzl a v) (h6v : v.v6 = .pointer (some ⟨xb, 0, none⟩)) (hQ : ∀ a', Fzl a' v → a'.tmps.getD 17 undef = .bool false → K a' wq) :
    Code.wp Tryz.prog c (Exit.then K fun _ _ _ => False) a wq := by
  have HQ := hide hQ
  clear hQ
  obtain ⟨v0, v2, v3, v4, v5, v6, v7⟩ := v
  simp only at h6v HQ
  subst h6v
  obtain ⟨u, rfl⟩ := frx_zl hF
  clear hF
  simp only [Tryz.f4, Option.getD_some, regOf] at hc
  injection hc with hc
  subst hc
  go_wp2
  exact HQ.out _ ⟨rfl, rfl, rfl, rfl, rfl, rfl, rfl, rfl, rfl⟩ (by first | rfl | (simp; done))
theorem zl_r5 {K : Act → World → Prop} {c : Code} (hc : regOf (Tryz.f4.body.getD .skip) 5 = some c) (a : Act) {v : Vzl} {wq : World}  (hF : Fzl a v) (h3v : v.v3 = .bool true) (h4v : v.v4 = .pointer none) (h5v : v.v5 = .int .i64 10) (hQ : ∀ a', Fzl a' { v with v2 := .bool true } → K a' wq) :
    Code.wp Tryz.prog c (Exit.then K fun _ _ _ => False) a wq := by
  have HQ := hide hQ
  clear hQ
  obtain ⟨v0, v2, v3, v4, v5, v6, v7⟩ := v
  simp only at h3v h4v h5v HQ
  subst h3v h4v h5v
  obtain ⟨u, rfl⟩ := frx_zl hF
  clear hF
  simp only [Tryz.f4, Option.getD_some, regOf] at hc
  injection hc with hc
  subst hc
  go_wp2
  exact HQ.out _ ⟨rfl, rfl, rfl, rfl, rfl, rfl, rfl, rfl, rfl⟩
theorem zl_r6 {K : Act → World → Prop} {c : Code} (hc : regOf (Tryz.f4.body.getD .skip) 6 = some c) (a : Act) {v : Vzl} {wq : World} {tb : Nat} (hF : Fzl a v) (h4v : v.v4 = .pointer (some ⟨tb, 0, none⟩)) (h5v : v.v5 = .int .i64 0) (hQ : ∀ a', Fzl a' v → a'.tmps.getD 32 undef = .bool false → K a' wq) :
    Code.wp Tryz.prog c (Exit.then K fun _ _ _ => False) a wq := by
  have HQ := hide hQ
  clear hQ
  obtain ⟨v0, v2, v3, v4, v5, v6, v7⟩ := v
  simp only at h4v h5v HQ
  subst h4v h5v
  obtain ⟨u, rfl⟩ := frx_zl hF
  clear hF
  simp only [Tryz.f4, Option.getD_some, regOf] at hc
  injection hc with hc
  subst hc
  go_wp2
  exact HQ.out _ ⟨rfl, rfl, rfl, rfl, rfl, rfl, rfl, rfl, rfl⟩ (by first | rfl | (simp; done))
theorem zl_r8 {K : Act → World → Prop} {c : Code} (hc : regOf (Tryz.f4.body.getD .skip) 8 = some c) (a : Act) {v : Vzl} {wq : World} {tb xb n rc : Nat} {ro : Option Addr} {R : Option Addr → Nat → World → Prop} {R2 : World → Prop} (hF : Fzl a v) (h4v : v.v4 = .pointer (some ⟨tb, 0, none⟩)) (h6v : v.v6 = .pointer (some ⟨xb, 0, none⟩)) (c4 : wq.drew.cell? ⟨xb, 4, none⟩ = some (.slice ro n rc)) (hE : Calls Tryz.prog 12 #[.pointer (some ⟨tb, 0, none⟩), .int .i64 0, .int .i64 1000] wq.drew fun e w' => ∃ ao cp, e = .returned (.slice ao n cp) ∧ w'.cell? ⟨xb, 4, none⟩ = some (.slice ro n rc) ∧ R ao cp w') (hS : ∀ ao cp W, R ao cp W → Calls Tryz.prog 13 #[.slice ao n cp, .slice ro n rc] W fun e w' => e = .returned (.bool true) ∧ R2 w')
    (hQ : ∀ a' w', Fzl a' { v with v7 := .bool true } → R2 w' → K a' w') :
    Code.wp Tryz.prog c (Exit.then K fun _ _ _ => False) a wq := by
  have HQ := hide hQ
  clear hQ
  obtain ⟨v0, v2, v3, v4, v5, v6, v7⟩ := v
  simp only at h4v h6v HQ
  subst h4v h6v
  obtain ⟨u, rfl⟩ := frx_zl hF
  clear hF
  simp only [Tryz.f4, Option.getD_some, regOf] at hc
  injection hc with hc
  subst hc
  have HE := hide hE
  have HS := hide hS
  clear hE hS
  go_region_with (first | (go_at_call 12; refine HE.out.mono ?_; rintro e w1 ⟨ao, cp, rfl, y4, r1⟩; have R1 := hide r1; clear r1) | (go_at_call 13; refine (HS.out _ _ _ R1.out).mono ?_; rintro e w2 ⟨rfl, r2⟩; have R3 := hide r2; clear r2))
  all_goals exact HQ.out _ _ ⟨rfl, rfl, rfl, rfl, rfl, rfl, rfl, rfl, rfl⟩ R3.out
theorem zl_r9 {K : Act → World → Prop} {c : Code} (hc : regOf (Tryz.f4.body.getD .skip) 9 = some c) (a : Act) {v : Vzl} {wq : World} {tb xb : Nat} {sx nm : ByteArray} {lo fi : Int} {pv rv : Value} (hF : Fzl a v) (h0v : v.v0 = .string sx) (h3v : v.v3 = .bool true) (h7v : v.v7 = .bool true) (h4v : v.v4 = .pointer (some ⟨tb, 0, none⟩)) (h6v : v.v6 = .pointer (some ⟨xb, 0, none⟩)) (hX : wq.heap[xb]? = some (.cells #[.string nm, .int .i64 lo, .int .i64 fi, pv, rv] 44 (0, 0))) (hL : ∀ W, Below wq.heap.size wq W → Calls Tryz.prog 23 #[.pointer (some ⟨tb, 0, none⟩)] W fun e w' => e = .returned (.int .i64 lo) ∧ Below W.heap.size W w') (hE : ∀ W, Below wq.heap.size wq W → Calls Tryz.prog 24 #[.pointer (some ⟨tb, 0, none⟩)] W fun e w' => e = .returned (.int .i64 fi) ∧ Below W.heap.size W w') (hD : ∀ W, Below wq.heap.size wq W → Calls Tryz.prog 19 #[.pointer (some ⟨tb, 0, none⟩)] W fun e w' => e = .returned (.string sx) ∧ Below W.heap.size W w') 
    (hQ : ∀ a' w', Fzl a' { v with v2 := .bool true } → Below wq.heap.size wq w' → K a' w') :
    Code.wp Tryz.prog c (Exit.then K fun _ _ _ => False) a wq := by
  have HQ := hide hQ
  clear hQ
  obtain ⟨v0, v2, v3, v4, v5, v6, v7⟩ := v
  simp only at h0v h3v h7v h4v h6v HQ
  subst h0v h3v h7v h4v h6v
  obtain ⟨u, rfl⟩ := frx_zl hF
  clear hF
  simp only [Tryz.f4, Option.getD_some, regOf] at hc
  injection hc with hc
  subst hc
  refine wp_region_phi (by kernel_rfl) (ns := 68) (uses := (fun i => match i with | 0 => [40] | 1 => [41] | 2 => [42] | 3 => [43] | 4 => [44] | 5 => [45] | 6 => [46] | 7 => [47] | 8 => [48] | 9 => [49] | 10 => [50] | 11 => [51] | 12 => [52] | 13 => [53] | 14 => [54] | 15 => [55] | 16 => [56] | 17 => [57] | 18 => [58] | 19 => [59] | 20 => [60] | 21 => [61] | 22 => [62] | 23 => [63] | 24 => [64] | 25 => [65] | 26 => [66] | 27 => [67] | 28 => [2] | _ => [])) (by kernel_rfl) (by kernel_rfl) (fun _ w w' => Below w.heap.size w w') (fun w => Below wq.heap.size wq w) (fun _ _ _ h r => h.trans (r.mono h.size)) ((Below.refl _ _).drew) (fun i => match i with | 0 => fun s w => s 40 = .bool true | 1 => fun s w => s 41 = .bool true | 2 => fun s w => s 42 = .bool true | 3 => fun s w => s 43 = .bool true | 4 => fun s w => s 44 = .bool true | 5 => fun s w => s 45 = .pointer (some ⟨tb, 0, none⟩) | 6 => fun s w => s 46 = .int .i64 lo | 7 => fun s w => s 47 = .pointer (some ⟨xb, 0, none⟩) | 8 => fun s w => s 48 = .pointer (some ⟨xb, 0, none⟩) | 9 => fun s w => s 49 = .pointer (some ⟨xb, 1, none⟩) | 10 => fun s w => s 50 = .int .i64 lo | 11 => fun s w => s 51 = .bool true | 12 => fun s w => s 52 = .bool true | 13 => fun s w => s 53 = .bool true | 14 => fun s w => s 54 = .pointer (some ⟨tb, 0, none⟩) | 15 => fun s w => s 55 = .int .i64 fi | 16 => fun s w => s 56 = .pointer (some ⟨xb, 0, none⟩) | 17 => fun s w => s 57 = .pointer (some ⟨xb, 0, none⟩) | 18 => fun s w => s 58 = .pointer (some ⟨xb, 2, none⟩) | 19 => fun s w => s 59 = .int .i64 fi | 20 => fun s w => s 60 = .bool true | 21 => fun s w => s 61 = .bool true | 22 => fun s w => s 62 = .bool true | 23 => fun s w => s 63 = .pointer (some ⟨tb, 0, none⟩) | 24 => fun s w => s 64 = .string sx | 25 => fun s w => s 65 = .string sx | 26 => fun s w => s 66 = .bool true | 27 => fun s w => s 67 = .bool true | 28 => fun s w => s 2 = .bool true | _ => fun _ _ => True) ?phc ?phh ?pstep ?pdone
  case phc =>
    intro i s s' w hx h
    iterate 29 (rcases i with _ | i; · exact (hx _ (List.mem_singleton.2 rfl)).symm.trans h)
    exact h
  case phh =>
    intro i j s w w' hij h hb r
    iterate 29 (rcases i with _ | i; · exact h)
    exact h
  case pstep =>
    intro i o ho a' w' hsa hb hd
    match i, ho with
    | 0, ho =>
      obtain rfl := Option.some.inj ho
      try dsimp only at hd
      have g3 : a'.tmps.getD 3 undef = .bool true := hsa.rest 3 (by rfl)
      refine wpOp_of rfl rfl ?_
      refine op_run (v := .bool true) (w' := w') ?_ ⟨_, rfl, slots_put (ns := 68) (hsa.size.trans rfl) (by decide), Below.refl _ _⟩
      simp only [execOp, Act.eval, g3]; first | (go_simp; done) | rfl
    | 1, ho =>
      obtain rfl := Option.some.inj ho
      try dsimp only at hd
      have d0 : a'.tmps.getD 40 undef = .bool true := hd 0 (by rfl)
      refine wpOp_of rfl rfl ?_
      refine op_run (v := .bool true) (w' := w') ?_ ⟨_, rfl, slots_put (ns := 68) (hsa.size.trans rfl) (by decide), Below.refl _ _⟩
      simp only [execOp, Act.eval, d0]; first | (go_simp; done) | rfl
    | 2, ho =>
      obtain rfl := Option.some.inj ho
      try dsimp only at hd
      have d1 : a'.tmps.getD 41 undef = .bool true := hd 1 (by rfl)
      have g7 : a'.tmps.getD 7 undef = .bool true := hsa.rest 7 (by rfl)
      refine wpOp_on (j := 1) (dj := 41) rfl rfl rfl d1 ?_
      refine op_run (v := .bool true) (w' := w') ?_ ⟨_, rfl, slots_put (ns := 68) (hsa.size.trans rfl) (by decide), Below.refl _ _⟩
      simp only [execOp, Act.eval, d1, g7]; first | (go_simp; done) | rfl
    | 3, ho =>
      obtain rfl := Option.some.inj ho
      try dsimp only at hd
      have d1 : a'.tmps.getD 41 undef = .bool true := hd 1 (by rfl)
      have d2 : a'.tmps.getD 42 undef = .bool true := hd 2 (by rfl)
      refine wpOp_of rfl rfl ?_
      refine op_run (v := .bool true) (w' := w') ?_ ⟨_, rfl, slots_put (ns := 68) (hsa.size.trans rfl) (by decide), Below.refl _ _⟩
      simp only [execOp, Act.eval, d1, d2]; first | (go_simp; done) | rfl
    | 4, ho =>
      obtain rfl := Option.some.inj ho
      try dsimp only at hd
      have d3 : a'.tmps.getD 43 undef = .bool true := hd 3 (by rfl)
      refine wpOp_of rfl rfl ?_
      refine op_run (v := .bool true) (w' := w') ?_ ⟨_, rfl, slots_put (ns := 68) (hsa.size.trans rfl) (by decide), Below.refl _ _⟩
      simp only [execOp, Act.eval, d3]; first | (go_simp; done) | rfl
    | 5, ho =>
      obtain rfl := Option.some.inj ho
      try dsimp only at hd
      have d4 : a'.tmps.getD 44 undef = .bool true := hd 4 (by rfl)
      have g4 : a'.tmps.getD 4 undef = .pointer (some ⟨tb, 0, none⟩) := hsa.rest 4 (by rfl)
      refine wpOp_on (j := 4) (dj := 44) rfl rfl rfl d4 ?_
      refine op_run (v := .pointer (some ⟨tb, 0, none⟩)) (w' := w') ?_ ⟨_, rfl, slots_put (ns := 68) (hsa.size.trans rfl) (by decide), Below.refl _ _⟩
      simp only [execOp, Act.eval, d4, g4]; first | (go_simp; done) | rfl
    | 6, ho =>
      obtain rfl := Option.some.inj ho
      try dsimp only at hd
      have d4 : a'.tmps.getD 44 undef = .bool true := hd 4 (by rfl)
      have d5 : a'.tmps.getD 45 undef = .pointer (some ⟨tb, 0, none⟩) := hd 5 (by rfl)
      refine wpOp_on (j := 4) (dj := 44) rfl rfl rfl d4 ?_
      refine op_call 23 _ _ rfl (enters_of Tryz.func23 (by kernel_rfl) rfl) [.pointer (some ⟨tb, 0, none⟩)] (by simp only [List.map, Act.eval, d4, d5]) (hL w' hb) ?_
      rintro e w'' ⟨rfl, b2⟩
      refine ⟨_, rfl, _, rfl, ?_, ?_⟩
      · try dsimp only
        exact (slots_put (ns := 68) (hsa.size.trans rfl) (by decide))
      · exact b2
    | 7, ho =>
      obtain rfl := Option.some.inj ho
      try dsimp only at hd
      have d4 : a'.tmps.getD 44 undef = .bool true := hd 4 (by rfl)
      have g6 : a'.tmps.getD 6 undef = .pointer (some ⟨xb, 0, none⟩) := hsa.rest 6 (by rfl)
      refine wpOp_on (j := 4) (dj := 44) rfl rfl rfl d4 ?_
      refine op_run (v := .pointer (some ⟨xb, 0, none⟩)) (w' := w') ?_ ⟨_, rfl, slots_put (ns := 68) (hsa.size.trans rfl) (by decide), Below.refl _ _⟩
      simp only [execOp, Act.eval, d4, g6]; first | (go_simp; done) | rfl
    | 8, ho =>
      obtain rfl := Option.some.inj ho
      try dsimp only at hd
      have d4 : a'.tmps.getD 44 undef = .bool true := hd 4 (by rfl)
      have d7 : a'.tmps.getD 47 undef = .pointer (some ⟨xb, 0, none⟩) := hd 7 (by rfl)
      refine wpOp_on (j := 4) (dj := 44) rfl rfl rfl d4 ?_
      refine op_run (v := .pointer (some ⟨xb, 0, none⟩)) (w' := w') ?_ ⟨_, rfl, slots_put (ns := 68) (hsa.size.trans rfl) (by decide), Below.refl _ _⟩
      simp only [execOp, Act.eval, d4, d7]; first | (go_simp; done) | rfl
    | 9, ho =>
      obtain rfl := Option.some.inj ho
      try dsimp only at hd
      have d4 : a'.tmps.getD 44 undef = .bool true := hd 4 (by rfl)
      have d8 : a'.tmps.getD 48 undef = .pointer (some ⟨xb, 0, none⟩) := hd 8 (by rfl)
      refine wpOp_on (j := 4) (dj := 44) rfl rfl rfl d4 ?_
      refine op_run (v := .pointer (some ⟨xb, 1, none⟩)) (w' := w') ?_ ⟨_, rfl, slots_put (ns := 68) (hsa.size.trans rfl) (by decide), Below.refl _ _⟩
      simp only [execOp, Act.eval, d4, d8]; first | (go_simp; done) | rfl
    | 10, ho =>
      obtain rfl := Option.some.inj ho
      try dsimp only at hd
      have d4 : a'.tmps.getD 44 undef = .bool true := hd 4 (by rfl)
      have d9 : a'.tmps.getD 49 undef = .pointer (some ⟨xb, 1, none⟩) := hd 9 (by rfl)
      have y : w'.cell? ⟨xb, 1, none⟩ = some (.int .i64 lo) := (hb.cell (p := ⟨xb, 1, none⟩) (heap_lt hX)).trans (box_cell hX 1 rfl)
      refine wpOp_on (j := 4) (dj := 44) rfl rfl rfl d4 ?_
      refine op_run (v := .int .i64 lo) (w' := w') ?_ ⟨_, rfl, slots_put (ns := 68) (hsa.size.trans rfl) (by decide), Below.refl _ _⟩
      simp only [execOp, Act.eval, d4, d9, y]; first | (go_simp; done) | rfl
    | 11, ho =>
      obtain rfl := Option.some.inj ho
      try dsimp only at hd
      have d4 : a'.tmps.getD 44 undef = .bool true := hd 4 (by rfl)
      have d6 : a'.tmps.getD 46 undef = .int .i64 lo := hd 6 (by rfl)
      have d10 : a'.tmps.getD 50 undef = .int .i64 lo := hd 10 (by rfl)
      refine wpOp_on (j := 4) (dj := 44) rfl rfl rfl d4 ?_
      refine op_run (v := .bool true) (w' := w') ?_ ⟨_, rfl, slots_put (ns := 68) (hsa.size.trans rfl) (by decide), Below.refl _ _⟩
      simp only [execOp, Act.eval, d4, d6, d10]; first | (go_simp; done) | rfl
    | 12, ho =>
      obtain rfl := Option.some.inj ho
      try dsimp only at hd
      have d4 : a'.tmps.getD 44 undef = .bool true := hd 4 (by rfl)
      have d11 : a'.tmps.getD 51 undef = .bool true := hd 11 (by rfl)
      refine wpOp_of rfl rfl ?_
      refine op_run (v := .bool true) (w' := w') ?_ ⟨_, rfl, slots_put (ns := 68) (hsa.size.trans rfl) (by decide), Below.refl _ _⟩
      simp only [execOp, Act.eval, d4, d11]; first | (go_simp; done) | rfl
    | 13, ho =>
      obtain rfl := Option.some.inj ho
      try dsimp only at hd
      have d12 : a'.tmps.getD 52 undef = .bool true := hd 12 (by rfl)
      refine wpOp_of rfl rfl ?_
      refine op_run (v := .bool true) (w' := w') ?_ ⟨_, rfl, slots_put (ns := 68) (hsa.size.trans rfl) (by decide), Below.refl _ _⟩
      simp only [execOp, Act.eval, d12]; first | (go_simp; done) | rfl
    | 14, ho =>
      obtain rfl := Option.some.inj ho
      try dsimp only at hd
      have d13 : a'.tmps.getD 53 undef = .bool true := hd 13 (by rfl)
      have g4 : a'.tmps.getD 4 undef = .pointer (some ⟨tb, 0, none⟩) := hsa.rest 4 (by rfl)
      refine wpOp_on (j := 13) (dj := 53) rfl rfl rfl d13 ?_
      refine op_run (v := .pointer (some ⟨tb, 0, none⟩)) (w' := w') ?_ ⟨_, rfl, slots_put (ns := 68) (hsa.size.trans rfl) (by decide), Below.refl _ _⟩
      simp only [execOp, Act.eval, d13, g4]; first | (go_simp; done) | rfl
    | 15, ho =>
      obtain rfl := Option.some.inj ho
      try dsimp only at hd
      have d13 : a'.tmps.getD 53 undef = .bool true := hd 13 (by rfl)
      have d14 : a'.tmps.getD 54 undef = .pointer (some ⟨tb, 0, none⟩) := hd 14 (by rfl)
      refine wpOp_on (j := 13) (dj := 53) rfl rfl rfl d13 ?_
      refine op_call 24 _ _ rfl (enters_of Tryz.func24 (by kernel_rfl) rfl) [.pointer (some ⟨tb, 0, none⟩)] (by simp only [List.map, Act.eval, d13, d14]) (hE w' hb) ?_
      rintro e w'' ⟨rfl, b2⟩
      refine ⟨_, rfl, _, rfl, ?_, ?_⟩
      · try dsimp only
        exact (slots_put (ns := 68) (hsa.size.trans rfl) (by decide))
      · exact b2
    | 16, ho =>
      obtain rfl := Option.some.inj ho
      try dsimp only at hd
      have d13 : a'.tmps.getD 53 undef = .bool true := hd 13 (by rfl)
      have g6 : a'.tmps.getD 6 undef = .pointer (some ⟨xb, 0, none⟩) := hsa.rest 6 (by rfl)
      refine wpOp_on (j := 13) (dj := 53) rfl rfl rfl d13 ?_
      refine op_run (v := .pointer (some ⟨xb, 0, none⟩)) (w' := w') ?_ ⟨_, rfl, slots_put (ns := 68) (hsa.size.trans rfl) (by decide), Below.refl _ _⟩
      simp only [execOp, Act.eval, d13, g6]; first | (go_simp; done) | rfl
    | 17, ho =>
      obtain rfl := Option.some.inj ho
      try dsimp only at hd
      have d13 : a'.tmps.getD 53 undef = .bool true := hd 13 (by rfl)
      have d16 : a'.tmps.getD 56 undef = .pointer (some ⟨xb, 0, none⟩) := hd 16 (by rfl)
      refine wpOp_on (j := 13) (dj := 53) rfl rfl rfl d13 ?_
      refine op_run (v := .pointer (some ⟨xb, 0, none⟩)) (w' := w') ?_ ⟨_, rfl, slots_put (ns := 68) (hsa.size.trans rfl) (by decide), Below.refl _ _⟩
      simp only [execOp, Act.eval, d13, d16]; first | (go_simp; done) | rfl
    | 18, ho =>
      obtain rfl := Option.some.inj ho
      try dsimp only at hd
      have d13 : a'.tmps.getD 53 undef = .bool true := hd 13 (by rfl)
      have d17 : a'.tmps.getD 57 undef = .pointer (some ⟨xb, 0, none⟩) := hd 17 (by rfl)
      refine wpOp_on (j := 13) (dj := 53) rfl rfl rfl d13 ?_
      refine op_run (v := .pointer (some ⟨xb, 2, none⟩)) (w' := w') ?_ ⟨_, rfl, slots_put (ns := 68) (hsa.size.trans rfl) (by decide), Below.refl _ _⟩
      simp only [execOp, Act.eval, d13, d17]; first | (go_simp; done) | rfl
    | 19, ho =>
      obtain rfl := Option.some.inj ho
      try dsimp only at hd
      have d13 : a'.tmps.getD 53 undef = .bool true := hd 13 (by rfl)
      have d18 : a'.tmps.getD 58 undef = .pointer (some ⟨xb, 2, none⟩) := hd 18 (by rfl)
      have y : w'.cell? ⟨xb, 2, none⟩ = some (.int .i64 fi) := (hb.cell (p := ⟨xb, 2, none⟩) (heap_lt hX)).trans (box_cell hX 2 rfl)
      refine wpOp_on (j := 13) (dj := 53) rfl rfl rfl d13 ?_
      refine op_run (v := .int .i64 fi) (w' := w') ?_ ⟨_, rfl, slots_put (ns := 68) (hsa.size.trans rfl) (by decide), Below.refl _ _⟩
      simp only [execOp, Act.eval, d13, d18, y]; first | (go_simp; done) | rfl
    | 20, ho =>
      obtain rfl := Option.some.inj ho
      try dsimp only at hd
      have d13 : a'.tmps.getD 53 undef = .bool true := hd 13 (by rfl)
      have d15 : a'.tmps.getD 55 undef = .int .i64 fi := hd 15 (by rfl)
      have d19 : a'.tmps.getD 59 undef = .int .i64 fi := hd 19 (by rfl)
      refine wpOp_on (j := 13) (dj := 53) rfl rfl rfl d13 ?_
      refine op_run (v := .bool true) (w' := w') ?_ ⟨_, rfl, slots_put (ns := 68) (hsa.size.trans rfl) (by decide), Below.refl _ _⟩
      simp only [execOp, Act.eval, d13, d15, d19]; first | (go_simp; done) | rfl
    | 21, ho =>
      obtain rfl := Option.some.inj ho
      try dsimp only at hd
      have d13 : a'.tmps.getD 53 undef = .bool true := hd 13 (by rfl)
      have d20 : a'.tmps.getD 60 undef = .bool true := hd 20 (by rfl)
      refine wpOp_of rfl rfl ?_
      refine op_run (v := .bool true) (w' := w') ?_ ⟨_, rfl, slots_put (ns := 68) (hsa.size.trans rfl) (by decide), Below.refl _ _⟩
      simp only [execOp, Act.eval, d13, d20]; first | (go_simp; done) | rfl
    | 22, ho =>
      obtain rfl := Option.some.inj ho
      try dsimp only at hd
      have d21 : a'.tmps.getD 61 undef = .bool true := hd 21 (by rfl)
      refine wpOp_of rfl rfl ?_
      refine op_run (v := .bool true) (w' := w') ?_ ⟨_, rfl, slots_put (ns := 68) (hsa.size.trans rfl) (by decide), Below.refl _ _⟩
      simp only [execOp, Act.eval, d21]; first | (go_simp; done) | rfl
    | 23, ho =>
      obtain rfl := Option.some.inj ho
      try dsimp only at hd
      have d22 : a'.tmps.getD 62 undef = .bool true := hd 22 (by rfl)
      have g4 : a'.tmps.getD 4 undef = .pointer (some ⟨tb, 0, none⟩) := hsa.rest 4 (by rfl)
      refine wpOp_on (j := 22) (dj := 62) rfl rfl rfl d22 ?_
      refine op_run (v := .pointer (some ⟨tb, 0, none⟩)) (w' := w') ?_ ⟨_, rfl, slots_put (ns := 68) (hsa.size.trans rfl) (by decide), Below.refl _ _⟩
      simp only [execOp, Act.eval, d22, g4]; first | (go_simp; done) | rfl
    | 24, ho =>
      obtain rfl := Option.some.inj ho
      try dsimp only at hd
      have d22 : a'.tmps.getD 62 undef = .bool true := hd 22 (by rfl)
      have d23 : a'.tmps.getD 63 undef = .pointer (some ⟨tb, 0, none⟩) := hd 23 (by rfl)
      refine wpOp_on (j := 22) (dj := 62) rfl rfl rfl d22 ?_
      refine op_call 19 _ _ rfl (enters_of Tryz.func19 (by kernel_rfl) rfl) [.pointer (some ⟨tb, 0, none⟩)] (by simp only [List.map, Act.eval, d22, d23]) (hD w' hb) ?_
      rintro e w'' ⟨rfl, b2⟩
      refine ⟨_, rfl, _, rfl, ?_, ?_⟩
      · try dsimp only
        exact (slots_put (ns := 68) (hsa.size.trans rfl) (by decide))
      · exact b2
    | 25, ho =>
      obtain rfl := Option.some.inj ho
      try dsimp only at hd
      have d22 : a'.tmps.getD 62 undef = .bool true := hd 22 (by rfl)
      have g0 : a'.tmps.getD 0 undef = .string sx := hsa.rest 0 (by rfl)
      refine wpOp_on (j := 22) (dj := 62) rfl rfl rfl d22 ?_
      refine op_run (v := .string sx) (w' := w') ?_ ⟨_, rfl, slots_put (ns := 68) (hsa.size.trans rfl) (by decide), Below.refl _ _⟩
      simp only [execOp, Act.eval, d22, g0]; first | (go_simp; done) | rfl
    | 26, ho =>
      obtain rfl := Option.some.inj ho
      try dsimp only at hd
      have d22 : a'.tmps.getD 62 undef = .bool true := hd 22 (by rfl)
      have d24 : a'.tmps.getD 64 undef = .string sx := hd 24 (by rfl)
      have d25 : a'.tmps.getD 65 undef = .string sx := hd 25 (by rfl)
      refine wpOp_on (j := 22) (dj := 62) rfl rfl rfl d22 ?_
      refine op_run (v := .bool true) (w' := w') ?_ ⟨_, rfl, slots_put (ns := 68) (hsa.size.trans rfl) (by decide), Below.refl _ _⟩
      simp only [execOp, Act.eval, d22, d24, d25]; first | (go_simp; done) | rfl
    | 27, ho =>
      obtain rfl := Option.some.inj ho
      try dsimp only at hd
      have d22 : a'.tmps.getD 62 undef = .bool true := hd 22 (by rfl)
      have d26 : a'.tmps.getD 66 undef = .bool true := hd 26 (by rfl)
      refine wpOp_of rfl rfl ?_
      refine op_run (v := .bool true) (w' := w') ?_ ⟨_, rfl, slots_put (ns := 68) (hsa.size.trans rfl) (by decide), Below.refl _ _⟩
      simp only [execOp, Act.eval, d22, d26]; first | (go_simp; done) | rfl
    | 28, ho =>
      obtain rfl := Option.some.inj ho
      try dsimp only at hd
      have d27 : a'.tmps.getD 67 undef = .bool true := hd 27 (by rfl)
      refine wpOp_of rfl rfl ?_
      refine op_run (v := .bool true) (w' := w') ?_ ⟨_, rfl, slots_put (ns := 68) (hsa.size.trans rfl) (by decide), Below.refl _ _⟩
      simp only [execOp, Act.eval, d27]; first | (go_simp; done) | rfl
    | (n + 29), ho => exact absurd ho (by simp)
  case pdone =>
    intro a' w' hsa hb hd
    have d28 : a'.tmps.getD 2 undef = .bool true := hd 28 (by decide)
    exact HQ.out a' w' ⟨hsa.size.trans rfl, hsa.defers.trans rfl, hsa.rest 0 (by rfl), d28, hsa.rest 3 (by rfl), hsa.rest 4 (by rfl), hsa.rest 5 (by rfl), hsa.rest 6 (by rfl), hsa.rest 7 (by rfl)⟩ hb
theorem zl_ret {W : World} {a : Act} {v : Vzl} {x : Value} {R : Ending → World → Prop} (hF : Fzl a v) (h2 : v.v2 = x) (h : R (.returned x) W) : bodyPost Tryz.prog Tryz.f4 R .ret a W := by
  have g0 := slot_get (hF.s2.trans h2)
  refine bodyPost_ret (v := x) ?_ hF.defers h
  simp [results, Tryz.results4, go_sem, g0]
end Go.Proofs.YtfoomgdlbkjaeaaGreat.Y
