/-
  FlushHolds: the walk (mkfh.py).
-/
import Derived.Test.YtfcpclpaalekiaaZFH1
namespace Go.Proofs.Ytfcpclpaalekiaa
open Go.RowKit
set_option maxHeartbeats 8000000
set_option maxRecDepth 100000
attribute [local go_sem ↓] Go.wp_at_zero Go.wp_at_succ
set_option linter.unusedSimpArgs false
set_option linter.unusedVariables false
theorem hh_r15n {K : Act → World → Prop} {c : Code} (hc : regOf (Try.f6.body.getD .skip) 15 = some c) (a : Act) {v : Vhh} {wq : World} {oo : Option Addr} {n oc k : Nat} (hF : Fhh a v) (h6v : v.v6 = .slice oo n oc) (h12v : v.v12 = .int .i64 (k : Int)) (hk : ¬ (k : Int) < (n : Int)) (hQ : ∀ a', Fhh a' v → a'.tmps.getD 59 undef = .bool false → K a' wq) :
    Code.wp Try.prog c (Exit.then K fun _ _ _ => False) a wq := by
  have HQ := hide hQ
  clear hQ
  obtain ⟨v0, v1, v4, v5, v6, v7, v8, v9, v10, v11, v12⟩ := v
  simp only at h6v h12v HQ
  subst h6v h12v
  obtain ⟨u, rfl⟩ := frx_hh hF
  clear hF
  simp only [Try.f6, Option.getD_some, regOf] at hc
  injection hc with hc
  subst hc
  have hd : decide ((k : Int) < (n : Int)) = false := decide_eq_false hk
  go_wp2
  exact HQ.out _ ⟨rfl, rfl, rfl, rfl, rfl, rfl, rfl, rfl, rfl, rfl, rfl, rfl, rfl⟩ (by first | rfl | (simp; done))
theorem hh_r15y {K : Act → World → Prop} {c : Code} (hc : regOf (Try.f6.body.getD .skip) 15 = some c) (a : Act) {v : Vhh} {wq : World} {oo : Option Addr} {n oc k : Nat} (hF : Fhh a v) (h6v : v.v6 = .slice oo n oc) (h12v : v.v12 = .int .i64 (k : Int)) (hk : (k : Int) < (n : Int)) (hQ : ∀ a', Fhh a' v → a'.tmps.getD 59 undef = .bool true → K a' wq) :
    Code.wp Try.prog c (Exit.then K fun _ _ _ => False) a wq := by
  have HQ := hide hQ
  clear hQ
  obtain ⟨v0, v1, v4, v5, v6, v7, v8, v9, v10, v11, v12⟩ := v
  simp only at h6v h12v HQ
  subst h6v h12v
  obtain ⟨u, rfl⟩ := frx_hh hF
  clear hF
  simp only [Try.f6, Option.getD_some, regOf] at hc
  injection hc with hc
  subst hc
  have hd : decide ((k : Int) < (n : Int)) = true := decide_eq_true hk
  go_wp2
  exact HQ.out _ ⟨rfl, rfl, rfl, rfl, rfl, rfl, rfl, rfl, rfl, rfl, rfl, rfl, rfl⟩ (by first | rfl | (simp; done))
theorem hh_r17 {K : Act → World → Prop} {c : Code} (hc : regOf (Try.f6.body.getD .skip) 17 = some c) (a : Act) {v : Vhh} {wq : World} {g of n oc k m3 lc3 m lc : Nat} {lo3 lo : Option Addr} (hF : Fhh a v) (h6v : v.v6 = .slice (some ⟨g, of, none⟩) n oc) (h12v : v.v12 = .int .i64 (k : Int)) (h9v : v.v9 = .slice lo m lc) (hz : (0 : Int) ≤ (k : Int) ∧ (k : Int) < (n : Int)) (hg : g < wq.heap.size) (hcl : wq.cell? ⟨g, of + k, none⟩ = some (.slice lo3 m3 lc3)) (hP : ∀ W, Below wq.heap.size wq W → Calls Try.prog 15 #[.slice lo3 m3 lc3, .slice lo m lc] W fun e w' => e = .returned (.bool true) ∧ Below W.heap.size W w') (hCM : ∀ W, Below wq.heap.size wq W → Calls Try.prog 13 #[.slice lo3 m3 lc3, .slice lo m lc] W fun e w' => e = .returned (.int .i64 (m3 : Int)) ∧ Below W.heap.size W w')
    (hQ : ∀ a' w1, Fhh a' v → a'.tmps.getD 82 undef = .bool false → Below wq.heap.size wq w1 → K a' w1) :
    Code.wp Try.prog c (Exit.then K fun _ _ _ => False) a wq := by
  have HQ := hide hQ
  clear hQ
  obtain ⟨v0, v1, v4, v5, v6, v7, v8, v9, v10, v11, v12⟩ := v
  simp only at h6v h12v h9v HQ
  subst h6v h12v h9v
  obtain ⟨u, rfl⟩ := frx_hh hF
  clear hF
  simp only [Try.f6, Option.getD_some, regOf] at hc
  injection hc with hc
  subst hc
  have HP := hide hP
  have HCM := hide hCM
  have HZ := hide hz
  have HG := hide hg
  have HC := hide hcl
  clear hP hCM hz hg hcl
  refine wp_region_phi (by kernel_rfl) (ns := 102) (uses := (fun i => match i with | 0 => [62] | 1 => [63] | 2 => [64] | 3 => [65] | 4 => [66] | 5 => [67] | 6 => [68] | 7 => [69] | 8 => [70] | 9 => [71] | 10 => [72] | 11 => [73] | 12 => [74] | 13 => [75] | 14 => [76] | 15 => [77] | 16 => [78] | 17 => [79] | 18 => [80] | 19 => [81] | 20 => [82] | _ => [])) (by kernel_rfl) (by kernel_rfl) (fun _ w w' => Below w.heap.size w w') (fun w => Below wq.heap.size wq w) (fun _ _ _ h r => h.trans (r.mono h.size)) ((Below.refl _ _).drew) (fun i => match i with | 0 => fun s w => s 62 = .slice (some ⟨g, of, none⟩) n oc | 1 => fun s w => s 63 = .int .i64 (k : Int) | 2 => fun s w => s 64 = .pointer (some ⟨g, of + k, none⟩) | 3 => fun s w => s 65 = .slice lo3 m3 lc3 | 4 => fun s w => s 66 = .slice lo m lc | 5 => fun s w => s 67 = .bool true | 6 => fun s w => s 68 = .bool false | 7 => fun s w => s 69 = .bool false | 8 => fun s w => s 70 = .slice (some ⟨g, of, none⟩) n oc | 9 => fun s w => s 71 = .int .i64 (k : Int) | 10 => fun s w => s 72 = .pointer (some ⟨g, of + k, none⟩) | 11 => fun s w => s 73 = .slice lo3 m3 lc3 | 12 => fun s w => s 74 = .slice lo m lc | 13 => fun s w => s 75 = .int .i64 (m3 : Int) | 14 => fun s w => s 76 = .slice (some ⟨g, of, none⟩) n oc | 15 => fun s w => s 77 = .int .i64 (k : Int) | 16 => fun s w => s 78 = .pointer (some ⟨g, of + k, none⟩) | 17 => fun s w => s 79 = .slice lo3 m3 lc3 | 18 => fun s w => s 80 = .int .i64 (m3 : Int) | 19 => fun s w => s 81 = .bool false | 20 => fun s w => s 82 = .bool false | _ => fun _ _ => True) ?phc ?phh ?pstep ?pdone
  case phc =>
    intro i s s' w hx h
    iterate 21 (rcases i with _ | i; · exact (hx _ (List.mem_singleton.2 rfl)).symm.trans h)
    exact h
  case phh =>
    intro i j s w w' hij h hb r
    iterate 21 (rcases i with _ | i; · exact h)
    exact h
  case pstep =>
    intro i o ho a' w' hsa hb hd
    match i, ho with
    | 0, ho =>
      obtain rfl := Option.some.inj ho
      try dsimp only at hd
      have g6 : a'.tmps.getD 6 undef = .slice (some ⟨g, of, none⟩) n oc := hsa.rest 6 (by rfl)
      refine wpOp_of rfl rfl ?_
      refine op_run (v := .slice (some ⟨g, of, none⟩) n oc) (w' := w') ?_ ⟨_, rfl, slots_put (ns := 102) (hsa.size.trans rfl) (by decide), Below.refl _ _⟩
      simp only [execOp, Act.eval, g6]; first | (go_simp; done) | rfl
    | 1, ho =>
      obtain rfl := Option.some.inj ho
      try dsimp only at hd
      have g12 : a'.tmps.getD 12 undef = .int .i64 (k : Int) := hsa.rest 12 (by rfl)
      refine wpOp_of rfl rfl ?_
      refine op_run (v := .int .i64 (k : Int)) (w' := w') ?_ ⟨_, rfl, slots_put (ns := 102) (hsa.size.trans rfl) (by decide), Below.refl _ _⟩
      simp only [execOp, Act.eval, g12]; first | (go_simp; done) | rfl
    | 2, ho =>
      obtain rfl := Option.some.inj ho
      try dsimp only at hd
      have d0 : a'.tmps.getD 62 undef = .slice (some ⟨g, of, none⟩) n oc := hd 0 (by rfl)
      have d1 : a'.tmps.getD 63 undef = .int .i64 (k : Int) := hd 1 (by rfl)
      have y1 := HZ.out.1
      have y2 := HZ.out.2
      refine wpOp_of rfl rfl ?_
      refine op_run (v := .pointer (some ⟨g, of + k, none⟩)) (w' := w') ?_ ⟨_, rfl, slots_put (ns := 102) (hsa.size.trans rfl) (by decide), Below.refl _ _⟩
      simp only [execOp, Act.eval, d0, d1, y1, y2]; first | (go_simp; done) | rfl
    | 3, ho =>
      obtain rfl := Option.some.inj ho
      try dsimp only at hd
      have d2 : a'.tmps.getD 64 undef = .pointer (some ⟨g, of + k, none⟩) := hd 2 (by rfl)
      have z := (hb.cell (p := ⟨g, of + k, none⟩) HG.out).trans HC.out
      refine wpOp_of rfl rfl ?_
      refine op_run (v := .slice lo3 m3 lc3) (w' := w') ?_ ⟨_, rfl, slots_put (ns := 102) (hsa.size.trans rfl) (by decide), Below.refl _ _⟩
      simp only [execOp, Act.eval, d2, z]; first | (go_simp; done) | rfl
    | 4, ho =>
      obtain rfl := Option.some.inj ho
      try dsimp only at hd
      have g9 : a'.tmps.getD 9 undef = .slice lo m lc := hsa.rest 9 (by rfl)
      refine wpOp_of rfl rfl ?_
      refine op_run (v := .slice lo m lc) (w' := w') ?_ ⟨_, rfl, slots_put (ns := 102) (hsa.size.trans rfl) (by decide), Below.refl _ _⟩
      simp only [execOp, Act.eval, g9]; first | (go_simp; done) | rfl
    | 5, ho =>
      obtain rfl := Option.some.inj ho
      try dsimp only at hd
      have d3 : a'.tmps.getD 65 undef = .slice lo3 m3 lc3 := hd 3 (by rfl)
      have d4 : a'.tmps.getD 66 undef = .slice lo m lc := hd 4 (by rfl)
      refine wpOp_of rfl rfl ?_
      refine op_call 15 _ _ rfl (enters_of Try.func15 (by kernel_rfl) rfl) [.slice lo3 m3 lc3, .slice lo m lc] (by simp only [List.map, Act.eval, d3, d4]) (HP.out w' hb) ?_
      rintro e w'' ⟨rfl, b2⟩
      refine ⟨_, rfl, _, rfl, ?_, ?_⟩
      · try dsimp only
        exact (slots_put (ns := 102) (hsa.size.trans rfl) (by decide))
      · exact b2
    | 6, ho =>
      obtain rfl := Option.some.inj ho
      try dsimp only at hd
      have d5 : a'.tmps.getD 67 undef = .bool true := hd 5 (by rfl)
      refine wpOp_of rfl rfl ?_
      refine op_run (v := .bool false) (w' := w') ?_ ⟨_, rfl, slots_put (ns := 102) (hsa.size.trans rfl) (by decide), Below.refl _ _⟩
      simp only [execOp, Act.eval, d5]; first | (go_simp; done) | rfl
    | 7, ho =>
      obtain rfl := Option.some.inj ho
      try dsimp only at hd
      have d6 : a'.tmps.getD 68 undef = .bool false := hd 6 (by rfl)
      refine wpOp_of rfl rfl ?_
      refine op_run (v := .bool false) (w' := w') ?_ ⟨_, rfl, slots_put (ns := 102) (hsa.size.trans rfl) (by decide), Below.refl _ _⟩
      simp only [execOp, Act.eval, d6]; first | (go_simp; done) | rfl
    | 8, ho =>
      obtain rfl := Option.some.inj ho
      try dsimp only at hd
      have d7 : a'.tmps.getD 69 undef = .bool false := hd 7 (by rfl)
      have g6 : a'.tmps.getD 6 undef = .slice (some ⟨g, of, none⟩) n oc := hsa.rest 6 (by rfl)
      refine wpOp_on (j := 7) (dj := 69) rfl rfl rfl d7 ?_
      refine op_run (v := .slice (some ⟨g, of, none⟩) n oc) (w' := w') ?_ ⟨_, rfl, slots_put (ns := 102) (hsa.size.trans rfl) (by decide), Below.refl _ _⟩
      simp only [execOp, Act.eval, d7, g6]; first | (go_simp; done) | rfl
    | 9, ho =>
      obtain rfl := Option.some.inj ho
      try dsimp only at hd
      have d7 : a'.tmps.getD 69 undef = .bool false := hd 7 (by rfl)
      have g12 : a'.tmps.getD 12 undef = .int .i64 (k : Int) := hsa.rest 12 (by rfl)
      refine wpOp_on (j := 7) (dj := 69) rfl rfl rfl d7 ?_
      refine op_run (v := .int .i64 (k : Int)) (w' := w') ?_ ⟨_, rfl, slots_put (ns := 102) (hsa.size.trans rfl) (by decide), Below.refl _ _⟩
      simp only [execOp, Act.eval, d7, g12]; first | (go_simp; done) | rfl
    | 10, ho =>
      obtain rfl := Option.some.inj ho
      try dsimp only at hd
      have d7 : a'.tmps.getD 69 undef = .bool false := hd 7 (by rfl)
      have d8 : a'.tmps.getD 70 undef = .slice (some ⟨g, of, none⟩) n oc := hd 8 (by rfl)
      have d9 : a'.tmps.getD 71 undef = .int .i64 (k : Int) := hd 9 (by rfl)
      have y1 := HZ.out.1
      have y2 := HZ.out.2
      refine wpOp_on (j := 7) (dj := 69) rfl rfl rfl d7 ?_
      refine op_run (v := .pointer (some ⟨g, of + k, none⟩)) (w' := w') ?_ ⟨_, rfl, slots_put (ns := 102) (hsa.size.trans rfl) (by decide), Below.refl _ _⟩
      simp only [execOp, Act.eval, d7, d8, d9, y1, y2]; first | (go_simp; done) | rfl
    | 11, ho =>
      obtain rfl := Option.some.inj ho
      try dsimp only at hd
      have d7 : a'.tmps.getD 69 undef = .bool false := hd 7 (by rfl)
      have d10 : a'.tmps.getD 72 undef = .pointer (some ⟨g, of + k, none⟩) := hd 10 (by rfl)
      have z := (hb.cell (p := ⟨g, of + k, none⟩) HG.out).trans HC.out
      refine wpOp_on (j := 7) (dj := 69) rfl rfl rfl d7 ?_
      refine op_run (v := .slice lo3 m3 lc3) (w' := w') ?_ ⟨_, rfl, slots_put (ns := 102) (hsa.size.trans rfl) (by decide), Below.refl _ _⟩
      simp only [execOp, Act.eval, d7, d10, z]; first | (go_simp; done) | rfl
    | 12, ho =>
      obtain rfl := Option.some.inj ho
      try dsimp only at hd
      have d7 : a'.tmps.getD 69 undef = .bool false := hd 7 (by rfl)
      have g9 : a'.tmps.getD 9 undef = .slice lo m lc := hsa.rest 9 (by rfl)
      refine wpOp_on (j := 7) (dj := 69) rfl rfl rfl d7 ?_
      refine op_run (v := .slice lo m lc) (w' := w') ?_ ⟨_, rfl, slots_put (ns := 102) (hsa.size.trans rfl) (by decide), Below.refl _ _⟩
      simp only [execOp, Act.eval, d7, g9]; first | (go_simp; done) | rfl
    | 13, ho =>
      obtain rfl := Option.some.inj ho
      try dsimp only at hd
      have d7 : a'.tmps.getD 69 undef = .bool false := hd 7 (by rfl)
      have d11 : a'.tmps.getD 73 undef = .slice lo3 m3 lc3 := hd 11 (by rfl)
      have d12 : a'.tmps.getD 74 undef = .slice lo m lc := hd 12 (by rfl)
      refine wpOp_on (j := 7) (dj := 69) rfl rfl rfl d7 ?_
      refine op_call 13 _ _ rfl (enters_of Try.func13 (by kernel_rfl) rfl) [.slice lo3 m3 lc3, .slice lo m lc] (by simp only [List.map, Act.eval, d7, d11, d12]) (HCM.out w' hb) ?_
      rintro e w'' ⟨rfl, b2⟩
      refine ⟨_, rfl, _, rfl, ?_, ?_⟩
      · try dsimp only
        exact (slots_put (ns := 102) (hsa.size.trans rfl) (by decide))
      · exact b2
    | 14, ho =>
      obtain rfl := Option.some.inj ho
      try dsimp only at hd
      have d7 : a'.tmps.getD 69 undef = .bool false := hd 7 (by rfl)
      have g6 : a'.tmps.getD 6 undef = .slice (some ⟨g, of, none⟩) n oc := hsa.rest 6 (by rfl)
      refine wpOp_on (j := 7) (dj := 69) rfl rfl rfl d7 ?_
      refine op_run (v := .slice (some ⟨g, of, none⟩) n oc) (w' := w') ?_ ⟨_, rfl, slots_put (ns := 102) (hsa.size.trans rfl) (by decide), Below.refl _ _⟩
      simp only [execOp, Act.eval, d7, g6]; first | (go_simp; done) | rfl
    | 15, ho =>
      obtain rfl := Option.some.inj ho
      try dsimp only at hd
      have d7 : a'.tmps.getD 69 undef = .bool false := hd 7 (by rfl)
      have g12 : a'.tmps.getD 12 undef = .int .i64 (k : Int) := hsa.rest 12 (by rfl)
      refine wpOp_on (j := 7) (dj := 69) rfl rfl rfl d7 ?_
      refine op_run (v := .int .i64 (k : Int)) (w' := w') ?_ ⟨_, rfl, slots_put (ns := 102) (hsa.size.trans rfl) (by decide), Below.refl _ _⟩
      simp only [execOp, Act.eval, d7, g12]; first | (go_simp; done) | rfl
    | 16, ho =>
      obtain rfl := Option.some.inj ho
      try dsimp only at hd
      have d7 : a'.tmps.getD 69 undef = .bool false := hd 7 (by rfl)
      have d14 : a'.tmps.getD 76 undef = .slice (some ⟨g, of, none⟩) n oc := hd 14 (by rfl)
      have d15 : a'.tmps.getD 77 undef = .int .i64 (k : Int) := hd 15 (by rfl)
      have y1 := HZ.out.1
      have y2 := HZ.out.2
      refine wpOp_on (j := 7) (dj := 69) rfl rfl rfl d7 ?_
      refine op_run (v := .pointer (some ⟨g, of + k, none⟩)) (w' := w') ?_ ⟨_, rfl, slots_put (ns := 102) (hsa.size.trans rfl) (by decide), Below.refl _ _⟩
      simp only [execOp, Act.eval, d7, d14, d15, y1, y2]; first | (go_simp; done) | rfl
    | 17, ho =>
      obtain rfl := Option.some.inj ho
      try dsimp only at hd
      have d7 : a'.tmps.getD 69 undef = .bool false := hd 7 (by rfl)
      have d16 : a'.tmps.getD 78 undef = .pointer (some ⟨g, of + k, none⟩) := hd 16 (by rfl)
      have z := (hb.cell (p := ⟨g, of + k, none⟩) HG.out).trans HC.out
      refine wpOp_on (j := 7) (dj := 69) rfl rfl rfl d7 ?_
      refine op_run (v := .slice lo3 m3 lc3) (w' := w') ?_ ⟨_, rfl, slots_put (ns := 102) (hsa.size.trans rfl) (by decide), Below.refl _ _⟩
      simp only [execOp, Act.eval, d7, d16, z]; first | (go_simp; done) | rfl
    | 18, ho =>
      obtain rfl := Option.some.inj ho
      try dsimp only at hd
      have d7 : a'.tmps.getD 69 undef = .bool false := hd 7 (by rfl)
      have d17 : a'.tmps.getD 79 undef = .slice lo3 m3 lc3 := hd 17 (by rfl)
      refine wpOp_on (j := 7) (dj := 69) rfl rfl rfl d7 ?_
      refine op_run (v := .int .i64 (m3 : Int)) (w' := w') ?_ ⟨_, rfl, slots_put (ns := 102) (hsa.size.trans rfl) (by decide), Below.refl _ _⟩
      simp only [execOp, Act.eval, List.map_toArray, List.map_cons, List.map_nil, d7, d17]; first | (go_simp; done) | rfl
    | 19, ho =>
      obtain rfl := Option.some.inj ho
      try dsimp only at hd
      have d7 : a'.tmps.getD 69 undef = .bool false := hd 7 (by rfl)
      have d13 : a'.tmps.getD 75 undef = .int .i64 (m3 : Int) := hd 13 (by rfl)
      have d18 : a'.tmps.getD 80 undef = .int .i64 (m3 : Int) := hd 18 (by rfl)
      refine wpOp_on (j := 7) (dj := 69) rfl rfl rfl d7 ?_
      refine op_run (v := .bool false) (w' := w') ?_ ⟨_, rfl, slots_put (ns := 102) (hsa.size.trans rfl) (by decide), Below.refl _ _⟩
      simp only [execOp, Act.eval, d7, d13, d18]; first | (go_simp; done) | rfl
    | 20, ho =>
      obtain rfl := Option.some.inj ho
      try dsimp only at hd
      have d7 : a'.tmps.getD 69 undef = .bool false := hd 7 (by rfl)
      have d19 : a'.tmps.getD 81 undef = .bool false := hd 19 (by rfl)
      refine wpOp_of rfl rfl ?_
      refine op_run (v := .bool false) (w' := w') ?_ ⟨_, rfl, slots_put (ns := 102) (hsa.size.trans rfl) (by decide), Below.refl _ _⟩
      simp only [execOp, Act.eval, d7, d19]; first | (go_simp; done) | rfl
    | (n + 21), ho => exact absurd ho (by simp)
  case pdone =>
    intro a' w' hsa hb hd
    have d20 : a'.tmps.getD 82 undef = .bool false := hd 20 (by decide)
    exact HQ.out a' w' ⟨hsa.size.trans rfl, hsa.defers.trans rfl, hsa.rest 0 (by rfl), hsa.rest 1 (by rfl), hsa.rest 4 (by rfl), hsa.rest 5 (by rfl), hsa.rest 6 (by rfl), hsa.rest 7 (by rfl), hsa.rest 8 (by rfl), hsa.rest 9 (by rfl), hsa.rest 10 (by rfl), hsa.rest 11 (by rfl), hsa.rest 12 (by rfl)⟩ d20 hb
theorem hh_r19a {K : Act → World → Prop} {c : Code} (hc : regOf (Try.f6.body.getD .skip) 19 = some c) (a : Act) {v : Vhh} {wq : World}  (hF : Fhh a v) (h11v : v.v11 = .bool true) (hQ : ∀ a', Fhh a' { v with v11 := .bool true } → K a' wq) :
    Code.wp Try.prog c (Exit.then K fun _ _ _ => False) a wq := by
  have HQ := hide hQ
  clear hQ
  obtain ⟨v0, v1, v4, v5, v6, v7, v8, v9, v10, v11, v12⟩ := v
  simp only at h11v HQ
  subst h11v
  obtain ⟨u, rfl⟩ := frx_hh hF
  clear hF
  simp only [Try.f6, Option.getD_some, regOf] at hc
  injection hc with hc
  subst hc
  go_wp2
  exact HQ.out _ ⟨rfl, rfl, rfl, rfl, rfl, rfl, rfl, rfl, rfl, rfl, rfl, rfl, rfl⟩
theorem hh_r19b {K : Act → World → Prop} {c : Code} (hc : regOf (Try.f6.body.getD .skip) 19 = some c) (a : Act) {v : Vhh} {wq : World} {g of n oc k m3 lc3 m lc : Nat} {lo3 lo : Option Addr} {r : Bool} (hF : Fhh a v) (h6v : v.v6 = .slice (some ⟨g, of, none⟩) n oc) (h12v : v.v12 = .int .i64 (k : Int)) (h9v : v.v9 = .slice lo m lc) (h11v : v.v11 = .bool false) (hk : k < n) (hcl : wq.cell? ⟨g, of + k, none⟩ = some (.slice lo3 m3 lc3)) (hr : ((m3 : Int) == (m : Int)) = r)
    (hQ : ∀ a', Fhh a' { v with v11 := .bool r } → K a' wq) :
    Code.wp Try.prog c (Exit.then K fun _ _ _ => False) a wq := by
  have HQ := hide hQ
  clear hQ
  obtain ⟨v0, v1, v4, v5, v6, v7, v8, v9, v10, v11, v12⟩ := v
  simp only at h6v h12v h9v h11v HQ
  subst h6v h12v h9v h11v
  obtain ⟨u, rfl⟩ := frx_hh hF
  clear hF
  simp only [Try.f6, Option.getD_some, regOf] at hc
  injection hc with hc
  subst hc
  have i0 : (0 : Int) ≤ (k : Int) := by omega
  have i1 : (k : Int) < (n : Int) := by omega
  clear hk
  subst hr
  go_wp2
  exact HQ.out _ ⟨rfl, rfl, rfl, rfl, rfl, rfl, rfl, rfl, rfl, rfl, rfl, rfl, rfl⟩
theorem hh_r19 {K : Act → World → Prop} {c : Code} (hc : regOf (Try.f6.body.getD .skip) 19 = some c) (a : Act) {v : Vhh} {wq : World} {g of n oc k m3 lc3 m lc : Nat} {lo3 lo : Option Addr} {ob : Bool} (hF : Fhh a v) (h6v : v.v6 = .slice (some ⟨g, of, none⟩) n oc) (h12v : v.v12 = .int .i64 (k : Int)) (h9v : v.v9 = .slice lo m lc) (h11v : v.v11 = .bool ob) (hk : k < n) (hcl : wq.cell? ⟨g, of + k, none⟩ = some (.slice lo3 m3 lc3))
    (hQ : ∀ a', Fhh a' { v with v11 := .bool (ob || ((m3 : Int) == (m : Int))) } → K a' wq) :
    Code.wp Try.prog c (Exit.then K fun _ _ _ => False) a wq := by
  cases ob with
  | true => exact hh_r19a hc a hF h11v fun a' F => hQ a' (by simpa using F)
  | false => exact hh_r19b hc a hF h6v h12v h9v h11v hk hcl rfl fun a' F => hQ a' (by simpa using F)
theorem hh_r16 {K : Act → World → Prop} {c : Code} (hc : regOf (Try.f6.body.getD .skip) 16 = some c) (a : Act) {v : Vhh} {wq : World} {k : Nat} (hF : Fhh a v) (h12v : v.v12 = .int .i64 (k : Int)) (hk : k ≤ 1000000) (hQ : ∀ a', Fhh a' { v with v12 := .int .i64 ((k + 1 : Nat) : Int) } → K a' wq) :
    Code.wp Try.prog c (Exit.then K fun _ _ _ => False) a wq := by
  have HQ := hide hQ
  clear hQ
  obtain ⟨v0, v1, v4, v5, v6, v7, v8, v9, v10, v11, v12⟩ := v
  simp only at h12v HQ
  subst h12v
  obtain ⟨u, rfl⟩ := frx_hh hF
  clear hF
  simp only [Try.f6, Option.getD_some, regOf] at hc
  injection hc with hc
  subst hc
  have hc : ((k + 1 : Nat) : Int) = (k : Int) + 1 := by omega
  rw [hc] at HQ
  go_wp2
  exact HQ.out _ ⟨rfl, rfl, rfl, rfl, rfl, rfl, rfl, rfl, rfl, rfl, rfl, rfl, rfl⟩
theorem hh_r20 {K : Act → World → Prop} {c : Code} (hc : regOf (Try.f6.body.getD .skip) 20 = some c) (a : Act) {v : Vhh} {wq : World}  (hF : Fhh a v) (h5v : v.v5 = .bool true) (h10v : v.v10 = .int .i64 0) (h11v : v.v11 = .bool true) (hQ : ∀ a', Fhh a' { v with v4 := .bool true } → K a' wq) :
    Code.wp Try.prog c (Exit.then K fun _ _ _ => False) a wq := by
  have HQ := hide hQ
  clear hQ
  obtain ⟨v0, v1, v4, v5, v6, v7, v8, v9, v10, v11, v12⟩ := v
  simp only at h5v h10v h11v HQ
  subst h5v h10v h11v
  obtain ⟨u, rfl⟩ := frx_hh hF
  clear hF
  simp only [Try.f6, Option.getD_some, regOf] at hc
  injection hc with hc
  subst hc
  go_wp2
  exact HQ.out _ ⟨rfl, rfl, rfl, rfl, rfl, rfl, rfl, rfl, rfl, rfl, rfl, rfl, rfl⟩
theorem hh_ret {W : World} {a : Act} {v : Vhh} {x : Bool} {R : Ending → World → Prop} (hF : Fhh a v) (h2 : v.v4 = .bool x) (h : R (.returned (.bool x)) W) : bodyPost Try.prog Try.f6 R .ret a W := by
  have g0 := slot_get (hF.s4.trans h2)
  refine bodyPost_ret (v := .bool x) ?_ hF.defers h
  simp [results, Try.results6, go_sem, g0]
end Go.Proofs.Ytfcpclpaalekiaa
namespace Go.Proofs.Ytfcpclpaalekiaa
open Go.RowKit
set_option maxHeartbeats 8000000
set_option maxRecDepth 100000
attribute [local go_sem ↓] Go.wp_at_zero Go.wp_at_succ
set_option linter.unusedSimpArgs false
set_option linter.unusedVariables false
theorem holds_walk (ao bo : Option Addr) (ca cb : Nat) (log : List ByteArray) (cuts : List Int) (w : World) (ha : TextsAt w ao log) (hsz : ∀ s ∈ log, s.size ≤ 140737488351232) (hb : IntsRow w bo cuts) (hin : ∀ c ∈ cuts, -9223372036854775808 ≤ c ∧ c ≤ 9223372036854775807) (hl : log.length ≤ 8796093021952) (hl2 : cuts.length ≤ 17592186044416) (hcap : log.length ≤ ca) :
    Calls Try.prog 6 #[.slice ao log.length ca, .slice bo cuts.length cb] w fun e w' => e = .returned (.bool true) ∧ Below w.heap.size w w' := by
  go_enter Try.func6, Try.ntmps6
  refine wp_seq (reg_mono (hh_r0 (by kernel_rfl) _ (v := ⟨_, _, _, _, _, _, _, _, _, _, _⟩) ⟨rfl, rfl, rfl, rfl, rfl, rfl, rfl, rfl, rfl, rfl, rfl, rfl, rfl⟩ ?_))
  intro a0 F0
  try dsimp only at F0
  refine wp_seq (reg_mono (hh_r1 (by kernel_rfl) _ F0 (fexamples w) ?_))
  intro a1 w1 F1 b1
  try dsimp only at F1
  refine wp_seq (reg_mono (hh_r2 (by kernel_rfl) _ F1 ?_))
  intro a2 F2
  try dsimp only at F2
  refine wp_seq (wp_seq (reg_mono (hh_r3 (by kernel_rfl) _ F2 ?_)))
  intro a3 F3
  try dsimp only at F3
  have O0 : w1.ownsRow w.heap.size 23 1 (.slice none 0 0) 0 (slC ao ca (cutL log (cuts.take 0))) := World.ownsRow_nil _ _ _ _
  refine wp_block (wp_loop (fun a' W => ∃ (k : Nat) (oo : Option Addr) (oc : Nat) (x8 x9 x10 x11 x12 : Value), k ≤ 20 ∧ k ≤ cuts.length ∧ W.ownsRow w.heap.size 23 1 (.slice oo k oc) k (slC ao ca (cutL log (cuts.take k))) ∧ Below w.heap.size w W ∧ Fhh a' { v0 := .slice ao log.length ca, v1 := .slice bo cuts.length cb, v4 := .bool false, v5 := .bool true, v6 := .slice oo k oc, v7 := .int .i64 (k : Int), v8 := x8, v9 := x9, v10 := x10, v11 := x11, v12 := x12 }) (fun a' _ => 20 - (intOf (a'.tmps.getD 7 undef)).toNat) ⟨0, none, 0, _, _, _, _, _, Nat.zero_le _, Nat.zero_le _, O0, b1, F3⟩ ?_)
  clear F0 F1 F2 F3 O0
  rintro a' W ⟨k, oo, oc, x8, x9, x10, x11, x12, hk20, hk, O, B, F⟩
  have hmk : (intOf (a'.tmps.getD 7 undef)).toNat = k := by rw [F.s7]; simp [intOf]
  have HL : (cutL log (cuts.take k)).length = k := by rw [cutL_length, List.length_take]; omega
  refine wp_seq (wp_seq (reg_mono (hh_r4 (by kernel_rfl) _ F rfl rfl ?_)))
  intro a4 F4 g4
  try dsimp only at F4
  by_cases hgo : (k : Int) < (cuts.length : Int) ∧ (k : Int) < 20
  · rw [decide_eq_true hgo.1, decide_eq_true hgo.2] at g4
    refine wp_cond_true g4 (wp_skip ?_)
    show Code.wp _ _ _ _ _
    have hlt : k < cuts.length := by omega
    obtain ⟨g, of, hbo, _, hc1⟩ := (hb.below B) k hlt
    have hic := hin _ (List.getElem_mem hlt)
    have HT : cutL log (cuts.take (k + 1)) = cutL log (cuts.take k) ++ [log.take (cutN log.length cuts[k])] := by rw [List.take_succ_eq_append_getElem hlt, cutL_snoc]
    refine wp_seq (wp_block ?_)
    refine wp_seq (reg_mono (hh_r6 (by kernel_rfl) _ F4 (by rw [hbo]) rfl hlt hc1 ?_))
    intro a6 F6
    try dsimp only at F6
    generalize cuts[k] = c at *
    obtain ⟨z, hz⟩ : ∃ z : Nat, (if c < 0 then -(c + 1) else c) = (z : Int) := ⟨(if c < 0 then -(c + 1) else c).toNat, by split <;> omega⟩
    have hmod := cut_mod log.length c z hz
    have hcle := cutN_le log.length c
    obtain ⟨ta, tc, w5, hrun, hrow, hbel⟩ := app_sl O ao (cutN log.length c) ca (by omega) B.size
    have hup := texts_upto (ao := ao) (m := log.length) (n := cutN log.length c) (cap := ca) (by omega)
    have hrow2 : w5.ownsRow w.heap.size 23 1 (.slice ta (k + 1) tc) (k + 1) (slC ao ca (cutL log (cuts.take (k + 1)))) := by
      rw [HT]
      have e : (log.take (cutN log.length c)).length = cutN log.length c := by rw [List.length_take]; omega
      have e2 : slC ao ca (cutL log (cuts.take k) ++ [log.take (cutN log.length c)]) = slC ao ca (cutL log (cuts.take k)) ++ [.slice ao (cutN log.length c) ca] := by simp [slC]; omega
      rw [e2]
      exact hrow
    refine wp_mid (fun a W' => W' = W ∧ Fhh a { v0 := .slice ao log.length ca, v1 := .slice bo cuts.length cb, v4 := .bool false, v5 := .bool true, v6 := .slice oo k oc, v7 := .int .i64 (k : Int), v8 := .int .i64 (z : Int), v9 := x9, v10 := x10, v11 := x11, v12 := x12 }) ?_ ?_
    · by_cases hneg : c < 0
      · rw [if_pos hneg] at hz
        refine wp_seq (reg_mono (hh_r7y (by kernel_rfl) _ F6 rfl hneg ?_))
        intro a7 F7 g7
        refine wp_cond_true g7 ?_
        refine reg_all (hh_r8 (by kernel_rfl) _ F7 rfl hneg hic.1 hz ?_)
        intro a8 F8
        exact ⟨rfl, F8⟩
      · rw [if_neg hneg] at hz
        refine wp_seq (reg_mono (hh_r7n (by kernel_rfl) _ F6 rfl hneg ?_))
        intro a7 F7 g7
        refine wp_cond_false g7 (wp_skip ?_)
        subst hz
        exact ⟨rfl, F7⟩
    rintro a8 W8 ⟨rfl, F8⟩
    refine reg_all (hh_r9 (by kernel_rfl) _ F8 rfl rfl rfl (by omega) hmod hup hrun ?_)
    intro a9 F9
    try dsimp only at F9
    show Code.wp _ _ _ _ _
    refine reg_all (hh_r5 (by kernel_rfl) _ F9 rfl (by omega) ?_)
    intro a5 F5
    try dsimp only at F5
    refine ⟨⟨k + 1, ta, tc, _, _, _, _, _, by omega, by omega, hrow2, B.trans hbel, F5⟩, ?_⟩
    rw [hmk, F5.s7]
    simp [intOf]
    omega
  have g4f : a4.tmps.getD 21 undef = .bool false := by
    rw [g4]
    congr 1
    by_cases h1 : (k : Int) < (cuts.length : Int)
    · rw [decide_eq_false (fun h2 => hgo ⟨h1, h2⟩), Bool.and_false]
    · rw [decide_eq_false h1, Bool.false_and]
  refine wp_cond_false g4f (wp_exit ?_)
  show Code.wp _ _ _ _ _
  have LG := logs_row (oo := oo) (oc := oc) (ao := ao) (cap := ca) (log := log) (cuts := cuts.take k) (by rw [HL]; exact O) (ha.below B)
  have HOK : LogsOk (cutL log (cuts.take k)) := fun x hx => by
    obtain ⟨n, h1, rfl⟩ := cutL_mem hx
    exact ⟨by rw [List.length_take]; omega, fun s hs => hsz s (List.mem_of_mem_take hs)⟩
  have HMT := cutL_meet log (cuts.take k)
  have HLO := flongest oo oc (cutL log (cuts.take k)) W LG (by rw [HL]; omega) HOK
  generalize cutL log (cuts.take k) = L at *
  rw [HL] at HLO
  have HLO2 : Calls Try.prog 11 #[.slice oo k oc] W fun e w' => ∃ (lo : Option Addr) (lc : Nat), e = .returned (.tuple #[.slice lo (longF L).1.length lc, .int .i64 (longF L).2]) ∧ (TextsAt w' lo (longF L).1 ∧ Below W.heap.size W w') := HLO.mono fun e w' ⟨lo, lc, h1, h2, h3⟩ => ⟨lo, lc, h1, texts_own h2, h3⟩
  refine wp_seq (reg_mono (hh_r10 (R := fun lo lc W' => TextsAt W' lo (longF L).1 ∧ Below W.heap.size W W') (by kernel_rfl) _ F4 rfl HLO2 ?_))
  rintro a10 w10 lo lc F10 ⟨T10, b10⟩
  try dsimp only at F10
  have B10 := B.trans (b10.mono B.size)
  rcases Nat.eq_zero_or_pos k with hk0 | hk0
  · have hL0 : L = [] := List.eq_nil_of_length_eq_zero (by omega)
    have hL1 : (longF L).2 = 1 := by rw [hL0]; rfl
    rw [hL1] at F10
    subst hk0
    refine wp_seq (wp_seq (reg_mono (hh_r11y (by kernel_rfl) _ F10 rfl ?_)))
    intro a11 F11 g11
    refine wp_cond_true g11 ?_
    refine wp_seq (reg_mono (hh_r12 (by kernel_rfl) _ F11 rfl rfl ?_))
    intro a12 F12
    refine wp_ret ?_
    try dsimp only [Exit.then, Exit.inBlock]
    exact hh_ret (x := true) F12 rfl ⟨rfl, B10⟩
  have hne : L ≠ [] := fun e => by rw [e] at HL; simp at HL; omega
  obtain ⟨bi, hbi, hl1, hl20⟩ := longF_one hne HMT
  rw [hl20] at F10
  refine wp_seq (wp_seq (reg_mono (hh_r11n (by kernel_rfl) _ F10 rfl hk0 ?_)))
  intro a11 F11 g11
  refine wp_cond_false g11 (wp_skip ?_)
  show Code.wp _ _ _ _ _
  refine wp_seq (reg_mono (hh_r13 (by kernel_rfl) _ F11 ?_))
  intro a13 F13
  try dsimp only at F13
  refine wp_seq (wp_seq (reg_mono (hh_r14 (by kernel_rfl) _ F13 ?_)))
  intro a14 F14
  try dsimp only at F14
  have LG7 := LG.below b10
  have hhas : ∀ i (hi : i < L.length), preF L[i] (longF L).1 = true := fun i hi => longF_has hne HMT (List.getElem_mem hi)
  have hxok : (longF L).1.length ≤ 8796093021952 := by rw [hl1]; exact (HOK _ (List.getElem_mem hbi)).1
  generalize hx : (longF L).1 = x at *
  refine wp_block (wp_loop (fun a' W' => ∃ (i : Nat) (ob : Bool), i ≤ k ∧ (bi < i → ob = true) ∧ Below w10.heap.size w10 W' ∧ Fhh a' { v0 := .slice ao log.length ca, v1 := .slice bo cuts.length cb, v4 := .bool false, v5 := .bool true, v6 := .slice oo k oc, v7 := .int .i64 (k : Int), v8 := x8, v9 := .slice lo x.length lc, v10 := .int .i64 0, v11 := .bool ob, v12 := .int .i64 (i : Int) }) (fun a' _ => k - (intOf (a'.tmps.getD 12 undef)).toNat) ⟨0, false, Nat.zero_le _, fun h => absurd h (Nat.not_lt_zero _), Below.refl _ _, F14⟩ ?_)
  clear F10 F11 F13 F14 g11
  rintro a'' W' ⟨i, ob, hi, hob, B', F'⟩
  have hmi : (intOf (a''.tmps.getD 12 undef)).toNat = i := by rw [F'.s12]; simp [intOf]
  by_cases hik : (i : Int) < (k : Int)
  case neg =>
    refine wp_seq (wp_seq (reg_mono (hh_r15n (by kernel_rfl) _ F' rfl rfl hik ?_)))
    intro a15 F15 g15
    refine wp_cond_false g15 (wp_exit ?_)
    show Code.wp _ _ _ _ _
    have hob2 : ob = true := hob (by omega)
    refine wp_seq (reg_mono (hh_r20 (by kernel_rfl) _ F15 rfl rfl (by rw [hob2]) ?_))
    intro a20 F20
    refine wp_ret ?_
    try dsimp only [Exit.then, Exit.inBlock]
    exact hh_ret (x := true) F20 rfl ⟨rfl, B10.trans (B'.mono B10.size)⟩
  refine wp_seq (wp_seq (reg_mono (hh_r15y (by kernel_rfl) _ F' rfl rfl hik ?_)))
  intro a15 F15 g15
  refine wp_cond_true g15 (wp_skip ?_)
  show Code.wp _ _ _ _ _
  have hiL : i < L.length := by omega
  obtain ⟨g, of, hoo, hg, lo3, lc3, hc3, ht3⟩ := (LG7.below B') i hiL
  have hpre := hhas i hiL
  have hcom : comF L[i] x = L[i].length := by unfold preF at hpre; exact of_decide_eq_true hpre
  have hil := (HOK _ (List.getElem_mem hiL)).1
  have P1 : ∀ W2, Below W'.heap.size W' W2 → Calls Try.prog 15 #[.slice lo3 L[i].length lc3, .slice lo x.length lc] W2 fun e w' => e = .returned (.bool true) ∧ Below W2.heap.size W2 w' := fun W2 b2 => by
    rw [← hpre]
    exact fprefix lo3 lo lc3 lc L[i] x W2 (ht3.below b2) ((T10.below B').below b2) (by omega) (by omega)
  have P2 : ∀ W2, Below W'.heap.size W' W2 → Calls Try.prog 13 #[.slice lo3 L[i].length lc3, .slice lo x.length lc] W2 fun e w' => e = .returned (.int .i64 (L[i].length : Int)) ∧ Below W2.heap.size W2 w' := fun W2 b2 => by
    have := fcommon lo3 lo lc3 lc L[i] x W2 (ht3.below b2) ((T10.below B').below b2) (by omega) (by omega)
    rw [hcom] at this
    exact this
  refine wp_seq (wp_block ?_)
  refine wp_seq (wp_seq (reg_mono (hh_r17 (by kernel_rfl) _ F15 (by rw [hoo]) rfl rfl ⟨by omega, hik⟩ hg hc3 P1 P2 ?_)))
  intro a17 w17 F17 g17 b17
  refine wp_cond_false g17 (wp_skip ?_)
  show Code.wp _ _ _ _ _
  have hc17 := (b17.cell (p := ⟨g, of + i, none⟩) hg).trans hc3
  refine reg_all (hh_r19 (by kernel_rfl) _ F17 (by rw [hoo]) rfl rfl rfl (by omega) hc17 ?_)
  intro a19 F19
  try dsimp only at F19
  show Code.wp _ _ _ _ _
  refine reg_all (hh_r16 (by kernel_rfl) _ F19 rfl (by omega) ?_)
  intro a16 F16
  try dsimp only at F16
  refine ⟨⟨i + 1, _, by omega, fun h => ?_, B'.trans (b17.mono B'.size), by rw [hoo] at *; exact F16⟩, ?_⟩
  · rcases Nat.lt_or_ge bi i with e | e
    · rw [hob e]; rfl
    · obtain rfl : bi = i := by omega
      rw [hl1] at *
      simp
  · rw [hmi, F16.s12]
    simp [intOf]
    omega
end Go.Proofs.Ytfcpclpaalekiaa
