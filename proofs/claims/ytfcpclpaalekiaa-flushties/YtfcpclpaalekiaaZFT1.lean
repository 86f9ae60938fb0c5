/-
  FlushTies' regions (mkft.py).
-/
import Derived.Test.YtfcpclpaalekiaaZPhiG
import Derived.Laws.StructEq
namespace Go.Proofs.Ytfcpclpaalekiaa
open Go.RowKit
set_option maxHeartbeats 8000000
set_option maxRecDepth 100000
attribute [local go_sem ↓] Go.wp_at_zero Go.wp_at_succ
set_option linter.unusedSimpArgs false
set_option linter.unusedVariables false
theorem frame_ft (t : Array Value) (h : t.size = 81) : ∃ u : Nat → Value, t = List.toArray (u 0 :: u 1 :: u 2 :: u 3 :: u 4 :: u 5 :: u 6 :: u 7 :: u 8 :: u 9 :: u 10 :: u 11 :: u 12 :: u 13 :: u 14 :: u 15 :: u 16 :: u 17 :: u 18 :: u 19 :: u 20 :: u 21 :: u 22 :: u 23 :: u 24 :: u 25 :: u 26 :: u 27 :: u 28 :: u 29 :: u 30 :: u 31 :: u 32 :: u 33 :: u 34 :: u 35 :: u 36 :: u 37 :: u 38 :: u 39 :: u 40 :: u 41 :: u 42 :: u 43 :: u 44 :: u 45 :: u 46 :: u 47 :: u 48 :: u 49 :: u 50 :: u 51 :: u 52 :: u 53 :: u 54 :: u 55 :: u 56 :: u 57 :: u 58 :: u 59 :: u 60 :: u 61 :: u 62 :: u 63 :: u 64 :: u 65 :: u 66 :: u 67 :: u 68 :: u 69 :: u 70 :: u 71 :: u 72 :: u 73 :: u 74 :: u 75 :: u 76 :: u 77 :: u 78 :: u 79 :: u 80 :: []) := by
  refine ⟨fun i => t.getD i undef, ?_⟩
  refine Eq.trans (b := ((List.range 81).map fun i => t.getD i undef).toArray) ?_ rfl
  apply Array.ext
  · simp [h]
  · intro k h1 h2
    simp [Array.getD, h1]
structure Vft where
  v0 : Value
  v1 : Value
  v4 : Value
  v5 : Value
  v6 : Value
  v7 : Value
structure Fft (a : Act) (v : Vft) : Prop where
  size : a.tmps.size = 81
  defers : a.defers = []
  s0 : a.tmps.getD 0 undef = v.v0
  s1 : a.tmps.getD 1 undef = v.v1
  s4 : a.tmps.getD 4 undef = v.v4
  s5 : a.tmps.getD 5 undef = v.v5
  s6 : a.tmps.getD 6 undef = v.v6
  s7 : a.tmps.getD 7 undef = v.v7
theorem frx_ft {a : Act} {v0 v1 v4 v5 v6 v7 : Value} (h : Fft a ⟨v0, v1, v4, v5, v6, v7⟩) : ∃ u : Nat → Value, a = ⟨List.toArray (v0 :: v1 :: u 2 :: u 3 :: v4 :: v5 :: v6 :: v7 :: u 8 :: u 9 :: u 10 :: u 11 :: u 12 :: u 13 :: u 14 :: u 15 :: u 16 :: u 17 :: u 18 :: u 19 :: u 20 :: u 21 :: u 22 :: u 23 :: u 24 :: u 25 :: u 26 :: u 27 :: u 28 :: u 29 :: u 30 :: u 31 :: u 32 :: u 33 :: u 34 :: u 35 :: u 36 :: u 37 :: u 38 :: u 39 :: u 40 :: u 41 :: u 42 :: u 43 :: u 44 :: u 45 :: u 46 :: u 47 :: u 48 :: u 49 :: u 50 :: u 51 :: u 52 :: u 53 :: u 54 :: u 55 :: u 56 :: u 57 :: u 58 :: u 59 :: u 60 :: u 61 :: u 62 :: u 63 :: u 64 :: u 65 :: u 66 :: u 67 :: u 68 :: u 69 :: u 70 :: u 71 :: u 72 :: u 73 :: u 74 :: u 75 :: u 76 :: u 77 :: u 78 :: u 79 :: u 80 :: []), []⟩ := by
  obtain ⟨t', d'⟩ := a
  obtain ⟨hs, hd, q0, q1, q4, q5, q6, q7⟩ := h
  obtain ⟨u, hu⟩ := frame_ft t' hs
  simp only at hd q0 q1 q4 q5 q6 q7
  subst hu hd
  have e0 : u 0 = v0 := q0
  have e1 : u 1 = v1 := q1
  have e4 : u 4 = v4 := q4
  have e5 : u 5 = v5 := q5
  have e6 : u 6 = v6 := q6
  have e7 : u 7 = v7 := q7
  refine ⟨u, ?_⟩
  rw [e0, e1, e4, e5, e6, e7]
theorem ft_r0 {K : Act → World → Prop} {c : Code} (hc : regOf (Try.f8.body.getD .skip) 0 = some c) (a : Act) {v : Vft} {wq : World}  (hF : Fft a v) (hQ : ∀ a', Fft a' { v with v4 := .bool false } → K a' wq) :
    Code.wp Try.prog c (Exit.then K fun _ _ _ => False) a wq := by
  have HQ := hide hQ
  clear hQ
  obtain ⟨v0, v1, v4, v5, v6, v7⟩ := v
  obtain ⟨u, rfl⟩ := frx_ft hF
  clear hF
  simp only [Try.f8, Option.getD_some, regOf] at hc
  injection hc with hc
  subst hc
  go_wp2
  exact HQ.out _ ⟨rfl, rfl, rfl, rfl, rfl, rfl, rfl, rfl⟩
theorem ft_r1 {K : Act → World → Prop} {c : Code} (hc : regOf (Try.f8.body.getD .skip) 1 = some c) (a : Act) {v : Vft} {wq : World} {R : World → Prop}  (hF : Fft a v) (hE : Calls Try.prog 9 #[] wq fun e w' => e = .returned (.bool true) ∧ R w')
    (hQ : ∀ a' w1, Fft a' { v with v5 := .bool true } → R w1 → K a' w1) :
    Code.wp Try.prog c (Exit.then K fun _ _ _ => False) a wq := by
  have HQ := hide hQ
  clear hQ
  obtain ⟨v0, v1, v4, v5, v6, v7⟩ := v
  obtain ⟨u, rfl⟩ := frx_ft hF
  clear hF
  simp only [Try.f8, Option.getD_some, regOf] at hc
  injection hc with hc
  subst hc
  have HE := hide hE
  clear hE
  go_wp2_with (go_at_call 9; refine HE.out.mono ?_; rintro e w1 ⟨rfl, r1⟩; have R1 := hide r1; clear r1)
  exact HQ.out _ _ ⟨rfl, rfl, rfl, rfl, rfl, rfl, rfl, rfl⟩ R1.out
theorem ft_r2 {K : Act → World → Prop} {c : Code} (hc : regOf (Try.f8.body.getD .skip) 2 = some c) (a : Act) {v : Vft} {wq : World} {R : World → Prop} {ao bo : Option Addr} {na nb ca cb : Nat} {cf : Nat} (hF : Fft a v) (h0v : v.v0 = .slice ao na ca) (h1v : v.v1 = .slice bo nb cb) (hE : Calls Try.prog 13 #[.slice ao na ca, .slice bo nb cb] wq fun e w' => e = .returned (.int .i64 (cf : Int)) ∧ R w')
    (hQ : ∀ a' w1, Fft a' { v with v6 := .int .i64 (cf : Int) } → R w1 → K a' w1) :
    Code.wp Try.prog c (Exit.then K fun _ _ _ => False) a wq := by
  have HQ := hide hQ
  clear hQ
  obtain ⟨v0, v1, v4, v5, v6, v7⟩ := v
  simp only at h0v h1v HQ
  subst h0v h1v
  obtain ⟨u, rfl⟩ := frx_ft hF
  clear hF
  simp only [Try.f8, Option.getD_some, regOf] at hc
  injection hc with hc
  subst hc
  have HE := hide hE
  clear hE
  go_wp2_with (go_at_call 13; refine HE.out.mono ?_; rintro e w1 ⟨rfl, r1⟩; have R1 := hide r1; clear r1)
  exact HQ.out _ _ ⟨rfl, rfl, rfl, rfl, rfl, rfl, rfl, rfl⟩ R1.out
theorem ft_r3 {K : Act → World → Prop} {c : Code} (hc : regOf (Try.f8.body.getD .skip) 3 = some c) (a : Act) {v : Vft} {wq : World} {ao bo : Option Addr} {na nb ca cb : Nat} {cf : Nat} {pf : Bool} (hF : Fft a v) (h0v : v.v0 = .slice ao na ca) (h1v : v.v1 = .slice bo nb cb) (h6v : v.v6 = .int .i64 (cf : Int)) (hC : Calls Try.prog 13 #[.slice bo nb cb, .slice ao na ca] wq fun e w' => e = .returned (.int .i64 (cf : Int)) ∧ Below wq.heap.size wq w') (hP : ∀ W, Below wq.heap.size wq W → Calls Try.prog 15 #[.slice ao na ca, .slice bo nb cb] W fun e w' => e = .returned (.bool pf) ∧ Below W.heap.size W w') (hle1 : cf ≤ na) (hle2 : cf ≤ nb) (hpf : (pf == ((cf : Int) == (na : Int))) = true)
    (hQ : ∀ a' w1, Fft a' v → a'.tmps.getD 35 undef = .bool false → Below wq.heap.size wq w1 → K a' w1) :
    Code.wp Try.prog c (Exit.then K fun _ _ _ => False) a wq := by
  have HQ := hide hQ
  clear hQ
  obtain ⟨v0, v1, v4, v5, v6, v7⟩ := v
  simp only at h0v h1v h6v HQ
  subst h0v h1v h6v
  obtain ⟨u, rfl⟩ := frx_ft hF
  clear hF
  simp only [Try.f8, Option.getD_some, regOf] at hc
  injection hc with hc
  subst hc
  have HC := hide hC
  have HP := hide hP
  clear hC hP
  have hm : ¬ (min (na : Int) (nb : Int) < (cf : Int)) := by omega
  have d1 : decide (na < cf) = false := decide_eq_false (by omega)
  have d2 : decide (nb < cf) = false := decide_eq_false (by omega)
  go_wp2_with (first | (go_at_call 15; refine (HP.out _ B3.out).mono ?_; rintro e w4 ⟨rfl, b4⟩; have B4 := hide (B3.out.trans (b4.mono B3.out.size)); clear b4) | (go_at_call 13; refine HC.out.mono ?_; rintro e w3 ⟨rfl, b3⟩; have B3 := hide b3; clear b3))
  all_goals exact HQ.out _ _ ⟨rfl, rfl, rfl, rfl, rfl, rfl, rfl, rfl⟩ (by first | rfl | (simp; done) | (simp [hpf]; done) | (simp; assumption) | (simp [hpf]; assumption)) B4.out
theorem ft_r5 {K : Act → World → Prop} {c : Code} (hc : regOf (Try.f8.body.getD .skip) 5 = some c) (a : Act) {v : Vft} {wq : World}  (hF : Fft a v) (hQ : ∀ a', Fft a' { v with v7 := .int .i64 ((0 : Nat) : Int) } → K a' wq) :
    Code.wp Try.prog c (Exit.then K fun _ _ _ => False) a wq := by
  have HQ := hide hQ
  clear hQ
  obtain ⟨v0, v1, v4, v5, v6, v7⟩ := v
  obtain ⟨u, rfl⟩ := frx_ft hF
  clear hF
  simp only [Try.f8, Option.getD_some, regOf] at hc
  injection hc with hc
  subst hc
  go_wp2
  exact HQ.out _ ⟨rfl, rfl, rfl, rfl, rfl, rfl, rfl, rfl⟩
theorem ft_r6n {K : Act → World → Prop} {c : Code} (hc : regOf (Try.f8.body.getD .skip) 6 = some c) (a : Act) {v : Vft} {wq : World} {cf k : Nat} (hF : Fft a v) (h6v : v.v6 = .int .i64 (cf : Int)) (h7v : v.v7 = .int .i64 (k : Int)) (hk : ¬ (k : Int) < (cf : Int)) (hQ : ∀ a', Fft a' v → a'.tmps.getD 38 undef = .bool false → K a' wq) :
    Code.wp Try.prog c (Exit.then K fun _ _ _ => False) a wq := by
  have HQ := hide hQ
  clear hQ
  obtain ⟨v0, v1, v4, v5, v6, v7⟩ := v
  simp only at h6v h7v HQ
  subst h6v h7v
  obtain ⟨u, rfl⟩ := frx_ft hF
  clear hF
  simp only [Try.f8, Option.getD_some, regOf] at hc
  injection hc with hc
  subst hc
  have hd : decide ((k : Int) < (cf : Int)) = false := decide_eq_false hk
  go_wp2
  exact HQ.out _ ⟨rfl, rfl, rfl, rfl, rfl, rfl, rfl, rfl⟩ (by first | rfl | (simp; done))
theorem ft_r6y {K : Act → World → Prop} {c : Code} (hc : regOf (Try.f8.body.getD .skip) 6 = some c) (a : Act) {v : Vft} {wq : World} {cf k : Nat} (hF : Fft a v) (h6v : v.v6 = .int .i64 (cf : Int)) (h7v : v.v7 = .int .i64 (k : Int)) (hk : (k : Int) < (cf : Int)) (hQ : ∀ a', Fft a' v → a'.tmps.getD 38 undef = .bool true → K a' wq) :
    Code.wp Try.prog c (Exit.then K fun _ _ _ => False) a wq := by
  have HQ := hide hQ
  clear hQ
  obtain ⟨v0, v1, v4, v5, v6, v7⟩ := v
  simp only at h6v h7v HQ
  subst h6v h7v
  obtain ⟨u, rfl⟩ := frx_ft hF
  clear hF
  simp only [Try.f8, Option.getD_some, regOf] at hc
  injection hc with hc
  subst hc
  have hd : decide ((k : Int) < (cf : Int)) = true := decide_eq_true hk
  go_wp2
  exact HQ.out _ ⟨rfl, rfl, rfl, rfl, rfl, rfl, rfl, rfl⟩ (by first | rfl | (simp; done))
theorem ft_r8 {K : Act → World → Prop} {c : Code} (hc : regOf (Try.f8.body.getD .skip) 8 = some c) (a : Act) {v : Vft} {wq : World} {g of g2 of2 na nb ca cb k : Nat} {x : ByteArray} (hF : Fft a v) (h0v : v.v0 = .slice (some ⟨g, of, none⟩) na ca) (h1v : v.v1 = .slice (some ⟨g2, of2, none⟩) nb cb) (h7v : v.v7 = .int .i64 (k : Int)) (hk1 : k < na) (hk2 : k < nb) (hc1 : wq.cell? ⟨g, of + k, none⟩ = some (.string x)) (hc2 : wq.cell? ⟨g2, of2 + k, none⟩ = some (.string x)) 
    (hQ : ∀ a' m, Fft a' v → a'.tmps.getD 49 undef = .bool false → K a' (wq.drewN m)) :
    Code.wp Try.prog c (Exit.then K fun _ _ _ => False) a wq := by
  have HQ := hide hQ
  clear hQ
  obtain ⟨v0, v1, v4, v5, v6, v7⟩ := v
  simp only at h0v h1v h7v HQ
  subst h0v h1v h7v
  obtain ⟨u, rfl⟩ := frx_ft hF
  clear hF
  simp only [Try.f8, Option.getD_some, regOf] at hc
  injection hc with hc
  subst hc
  have z0 : (0 : Int) ≤ (k : Int) := by omega
  have z1 : (k : Int) < (na : Int) := by omega
  have z2 : (k : Int) < (nb : Int) := by omega
  clear hk1 hk2
  go_quiet (fail)
  go_wp2
  exact HQ.out _ _ ⟨rfl, rfl, rfl, rfl, rfl, rfl, rfl, rfl⟩ (by first | rfl | (simp; done))
theorem ft_r7 {K : Act → World → Prop} {c : Code} (hc : regOf (Try.f8.body.getD .skip) 7 = some c) (a : Act) {v : Vft} {wq : World} {k : Nat} (hF : Fft a v) (h7v : v.v7 = .int .i64 (k : Int)) (hk : k ≤ 17592186044416) (hQ : ∀ a', Fft a' { v with v7 := .int .i64 ((k + 1 : Nat) : Int) } → K a' wq) :
    Code.wp Try.prog c (Exit.then K fun _ _ _ => False) a wq := by
  have HQ := hide hQ
  clear hQ
  obtain ⟨v0, v1, v4, v5, v6, v7⟩ := v
  simp only at h7v HQ
  subst h7v
  obtain ⟨u, rfl⟩ := frx_ft hF
  clear hF
  simp only [Try.f8, Option.getD_some, regOf] at hc
  injection hc with hc
  subst hc
  have hc : ((k + 1 : Nat) : Int) = (k : Int) + 1 := by omega
  rw [hc] at HQ
  go_wp2
  exact HQ.out _ ⟨rfl, rfl, rfl, rfl, rfl, rfl, rfl, rfl⟩
theorem ft_r10a {K : Act → World → Prop} {c : Code} (hc : regOf (Try.f8.body.getD .skip) 10 = some c) (a : Act) {v : Vft} {wq : World} {ao bo : Option Addr} {cf nb ca cb : Nat} (hF : Fft a v) (h0v : v.v0 = .slice ao cf ca) (h1v : v.v1 = .slice bo nb cb) (h5v : v.v5 = .bool true) (h6v : v.v6 = .int .i64 (cf : Int)) (hs1 : ∀ W, (Instr.slice 23 (.slice ao cf ca) .none (some (.int .i64 (cf : Nat))) .none).run Try.prog W = .ok (.slice ao cf ca) W) (hP : ∀ W, Below wq.heap.size wq W → Calls Try.prog 15 #[.slice ao cf ca, .slice bo nb cb] W fun e w' => e = .returned (.bool true) ∧ Below W.heap.size W w')
    (hQ : ∀ a' w1, Fft a' { v with v4 := .bool true } → Below wq.heap.size wq w1 → K a' w1) :
    Code.wp Try.prog c (Exit.then K fun _ _ _ => False) a wq := by
  have HQ := hide hQ
  clear hQ
  obtain ⟨v0, v1, v4, v5, v6, v7⟩ := v
  simp only at h0v h1v h5v h6v HQ
  subst h0v h1v h5v h6v
  obtain ⟨u, rfl⟩ := frx_ft hF
  clear hF
  simp only [Try.f8, Option.getD_some, regOf] at hc
  injection hc with hc
  subst hc
  have HP := hide hP
  have HS1 := hide hs1
  clear hP hs1
  refine wp_region_phi (by kernel_rfl) (ns := 81) (uses := (fun i => match i with | 0 => [50] | 1 => [51] | 2 => [52] | 3 => [53] | 4 => [54] | 5 => [55] | 6 => [56] | 7 => [57] | 8 => [58] | 9 => [59] | 10 => [60] | 11 => [61] | 12 => [62] | 13 => [63] | 14 => [64] | 15 => [65] | 16 => [66] | 17 => [67] | 18 => [68] | 19 => [69] | 20 => [70] | 21 => [71] | 22 => [72] | 23 => [73] | 24 => [74] | 25 => [75] | 26 => [76] | 27 => [77] | 28 => [78] | 29 => [79] | 30 => [80] | 31 => [4] | _ => [])) (by kernel_rfl) (by kernel_rfl) (fun _ w w' => Below w.heap.size w w') (fun w => Below wq.heap.size wq w) (fun _ _ _ h r => h.trans (r.mono h.size)) ((Below.refl _ _).drew) (fun i => match i with | 0 => fun s w => s 50 = .bool true | 1 => fun s w => s 51 = .bool true | 2 => fun s w => s 52 = .int .i64 (cf : Int) | 3 => fun s w => s 53 = .slice ao cf ca | 4 => fun s w => s 54 = .int .i64 (cf : Int) | 5 => fun s w => s 55 = .bool true | 6 => fun s w => s 56 = .bool true | 7 => fun s w => s 57 = undef | 8 => fun s w => s 58 = undef | 9 => fun s w => s 59 = undef | 10 => fun s w => s 60 = undef | 11 => fun s w => s 61 = .bool true | 12 => fun s w => s 62 = .bool true | 13 => fun s w => s 63 = undef | 14 => fun s w => s 64 = undef | 15 => fun s w => s 65 = undef | 16 => fun s w => s 66 = undef | 17 => fun s w => s 67 = undef | 18 => fun s w => s 68 = undef | 19 => fun s w => s 69 = undef | 20 => fun s w => s 70 = undef | 21 => fun s w => s 71 = undef | 22 => fun s w => s 72 = .bool true | 23 => fun s w => s 73 = .bool true | 24 => fun s w => s 74 = .bool true | 25 => fun s w => s 75 = .slice ao cf ca | 26 => fun s w => s 76 = .int .i64 (cf : Int) | 27 => fun s w => s 77 = .slice ao cf ca | 28 => fun s w => s 78 = .slice bo nb cb | 29 => fun s w => s 79 = .bool true | 30 => fun s w => s 80 = .bool true | 31 => fun s w => s 4 = .bool true | _ => fun _ _ => True) ?phc ?phh ?pstep ?pdone
  case phc =>
    intro i s s' w hx h
    iterate 32 (rcases i with _ | i; · exact (hx _ (List.mem_singleton.2 rfl)).symm.trans h)
    exact h
  case phh =>
    intro i j s w w' hij h hb r
    iterate 32 (rcases i with _ | i; · exact h)
    exact h
  case pstep =>
    intro i o ho a' w' hsa hb hd
    match i, ho with
    | 0, ho =>
      obtain rfl := Option.some.inj ho
      try dsimp only at hd
      have g5 : a'.tmps.getD 5 undef = .bool true := hsa.rest 5 (by rfl)
      refine wpOp_of rfl rfl ?_
      refine op_run (v := .bool true) (w' := w') ?_ ⟨_, rfl, slots_put (ns := 81) (hsa.size.trans rfl) (by decide), Below.refl _ _⟩
      simp only [execOp, Act.eval, g5]; first | (go_simp; done) | rfl
    | 1, ho =>
      obtain rfl := Option.some.inj ho
      try dsimp only at hd
      have d0 : a'.tmps.getD 50 undef = .bool true := hd 0 (by rfl)
      refine wpOp_of rfl rfl ?_
      refine op_run (v := .bool true) (w' := w') ?_ ⟨_, rfl, slots_put (ns := 81) (hsa.size.trans rfl) (by decide), Below.refl _ _⟩
      simp only [execOp, Act.eval, d0]; first | (go_simp; done) | rfl
    | 2, ho =>
      obtain rfl := Option.some.inj ho
      try dsimp only at hd
      have d1 : a'.tmps.getD 51 undef = .bool true := hd 1 (by rfl)
      have g6 : a'.tmps.getD 6 undef = .int .i64 (cf : Int) := hsa.rest 6 (by rfl)
      refine wpOp_on (j := 1) (dj := 51) rfl rfl rfl d1 ?_
      refine op_run (v := .int .i64 (cf : Int)) (w' := w') ?_ ⟨_, rfl, slots_put (ns := 81) (hsa.size.trans rfl) (by decide), Below.refl _ _⟩
      simp only [execOp, Act.eval, d1, g6]; first | (go_simp; done) | rfl
    | 3, ho =>
      obtain rfl := Option.some.inj ho
      try dsimp only at hd
      have d1 : a'.tmps.getD 51 undef = .bool true := hd 1 (by rfl)
      have g0 : a'.tmps.getD 0 undef = .slice ao cf ca := hsa.rest 0 (by rfl)
      refine wpOp_on (j := 1) (dj := 51) rfl rfl rfl d1 ?_
      refine op_run (v := .slice ao cf ca) (w' := w') ?_ ⟨_, rfl, slots_put (ns := 81) (hsa.size.trans rfl) (by decide), Below.refl _ _⟩
      simp only [execOp, Act.eval, d1, g0]; first | (go_simp; done) | rfl
    | 4, ho =>
      obtain rfl := Option.some.inj ho
      try dsimp only at hd
      have d1 : a'.tmps.getD 51 undef = .bool true := hd 1 (by rfl)
      have d3 : a'.tmps.getD 53 undef = .slice ao cf ca := hd 3 (by rfl)
      refine wpOp_on (j := 1) (dj := 51) rfl rfl rfl d1 ?_
      refine op_run (v := .int .i64 (cf : Int)) (w' := w') ?_ ⟨_, rfl, slots_put (ns := 81) (hsa.size.trans rfl) (by decide), Below.refl _ _⟩
      simp only [execOp, Act.eval, List.map_toArray, List.map_cons, List.map_nil, d1, d3]; first | (go_simp; done) | rfl
    | 5, ho =>
      obtain rfl := Option.some.inj ho
      try dsimp only at hd
      have d1 : a'.tmps.getD 51 undef = .bool true := hd 1 (by rfl)
      have d2 : a'.tmps.getD 52 undef = .int .i64 (cf : Int) := hd 2 (by rfl)
      have d4 : a'.tmps.getD 54 undef = .int .i64 (cf : Int) := hd 4 (by rfl)
      refine wpOp_on (j := 1) (dj := 51) rfl rfl rfl d1 ?_
      refine op_run (v := .bool true) (w' := w') ?_ ⟨_, rfl, slots_put (ns := 81) (hsa.size.trans rfl) (by decide), Below.refl _ _⟩
      simp only [execOp, Act.eval, d1, d2, d4]; first | (go_simp; done) | rfl
    | 6, ho =>
      obtain rfl := Option.some.inj ho
      try dsimp only at hd
      have d1 : a'.tmps.getD 51 undef = .bool true := hd 1 (by rfl)
      have d5 : a'.tmps.getD 55 undef = .bool true := hd 5 (by rfl)
      refine wpOp_on (j := 1) (dj := 51) rfl rfl rfl d1 ?_
      refine op_run (v := .bool true) (w' := w') ?_ ⟨_, rfl, slots_put (ns := 81) (hsa.size.trans rfl) (by decide), Below.refl _ _⟩
      simp only [execOp, Act.eval, d1, d5]; first | (go_simp; done) | rfl
    | 7, ho | 8, ho | 9, ho | 10, ho =>
      obtain rfl := Option.some.inj ho
      try dsimp only at hd
      have d6 : a'.tmps.getD 56 undef = .bool true := hd 6 (by rfl)
      exact wpOp_off (j := 6) (dj := 56) rfl rfl rfl d6 (by simp [undef]) ⟨undef, rfl, slots_put (ns := 81) (hsa.size.trans rfl) (by decide), Below.refl _ _⟩
    | 11, ho =>
      obtain rfl := Option.some.inj ho
      try dsimp only at hd
      have d1 : a'.tmps.getD 51 undef = .bool true := hd 1 (by rfl)
      have d6 : a'.tmps.getD 56 undef = .bool true := hd 6 (by rfl)
      have d10 : a'.tmps.getD 60 undef = undef := hd 10 (by rfl)
      refine wpOp_on (j := 1) (dj := 51) rfl rfl rfl d1 ?_
      refine op_run (v := .bool true) (w' := w') ?_ ⟨_, rfl, slots_put (ns := 81) (hsa.size.trans rfl) (by decide), Below.refl _ _⟩
      simp only [execOp, Act.eval, d1, d6, d10]; first | (go_simp; done) | rfl
    | 12, ho =>
      obtain rfl := Option.some.inj ho
      try dsimp only at hd
      have d1 : a'.tmps.getD 51 undef = .bool true := hd 1 (by rfl)
      have d11 : a'.tmps.getD 61 undef = .bool true := hd 11 (by rfl)
      refine wpOp_on (j := 1) (dj := 51) rfl rfl rfl d1 ?_
      refine op_run (v := .bool true) (w' := w') ?_ ⟨_, rfl, slots_put (ns := 81) (hsa.size.trans rfl) (by decide), Below.refl _ _⟩
      simp only [execOp, Act.eval, d1, d11]; first | (go_simp; done) | rfl
    | 13, ho | 14, ho | 15, ho | 16, ho | 17, ho | 18, ho | 19, ho | 20, ho | 21, ho =>
      obtain rfl := Option.some.inj ho
      try dsimp only at hd
      have d12 : a'.tmps.getD 62 undef = .bool true := hd 12 (by rfl)
      exact wpOp_off (j := 12) (dj := 62) rfl rfl rfl d12 (by simp [undef]) ⟨undef, rfl, slots_put (ns := 81) (hsa.size.trans rfl) (by decide), Below.refl _ _⟩
    | 22, ho =>
      obtain rfl := Option.some.inj ho
      try dsimp only at hd
      have d1 : a'.tmps.getD 51 undef = .bool true := hd 1 (by rfl)
      have d12 : a'.tmps.getD 62 undef = .bool true := hd 12 (by rfl)
      have d21 : a'.tmps.getD 71 undef = undef := hd 21 (by rfl)
      refine wpOp_on (j := 1) (dj := 51) rfl rfl rfl d1 ?_
      refine op_run (v := .bool true) (w' := w') ?_ ⟨_, rfl, slots_put (ns := 81) (hsa.size.trans rfl) (by decide), Below.refl _ _⟩
      simp only [execOp, Act.eval, d1, d12, d21]; first | (go_simp; done) | rfl
    | 23, ho =>
      obtain rfl := Option.some.inj ho
      try dsimp only at hd
      have d1 : a'.tmps.getD 51 undef = .bool true := hd 1 (by rfl)
      have d22 : a'.tmps.getD 72 undef = .bool true := hd 22 (by rfl)
      refine wpOp_of rfl rfl ?_
      refine op_run (v := .bool true) (w' := w') ?_ ⟨_, rfl, slots_put (ns := 81) (hsa.size.trans rfl) (by decide), Below.refl _ _⟩
      simp only [execOp, Act.eval, d1, d22]; first | (go_simp; done) | rfl
    | 24, ho =>
      obtain rfl := Option.some.inj ho
      try dsimp only at hd
      have d23 : a'.tmps.getD 73 undef = .bool true := hd 23 (by rfl)
      refine wpOp_of rfl rfl ?_
      refine op_run (v := .bool true) (w' := w') ?_ ⟨_, rfl, slots_put (ns := 81) (hsa.size.trans rfl) (by decide), Below.refl _ _⟩
      simp only [execOp, Act.eval, d23]; first | (go_simp; done) | rfl
    | 25, ho =>
      obtain rfl := Option.some.inj ho
      try dsimp only at hd
      have d24 : a'.tmps.getD 74 undef = .bool true := hd 24 (by rfl)
      have g0 : a'.tmps.getD 0 undef = .slice ao cf ca := hsa.rest 0 (by rfl)
      refine wpOp_on (j := 24) (dj := 74) rfl rfl rfl d24 ?_
      refine op_run (v := .slice ao cf ca) (w' := w') ?_ ⟨_, rfl, slots_put (ns := 81) (hsa.size.trans rfl) (by decide), Below.refl _ _⟩
      simp only [execOp, Act.eval, d24, g0]; first | (go_simp; done) | rfl
    | 26, ho =>
      obtain rfl := Option.some.inj ho
      try dsimp only at hd
      have d24 : a'.tmps.getD 74 undef = .bool true := hd 24 (by rfl)
      have g6 : a'.tmps.getD 6 undef = .int .i64 (cf : Int) := hsa.rest 6 (by rfl)
      refine wpOp_on (j := 24) (dj := 74) rfl rfl rfl d24 ?_
      refine op_run (v := .int .i64 (cf : Int)) (w' := w') ?_ ⟨_, rfl, slots_put (ns := 81) (hsa.size.trans rfl) (by decide), Below.refl _ _⟩
      simp only [execOp, Act.eval, d24, g6]; first | (go_simp; done) | rfl
    | 27, ho =>
      obtain rfl := Option.some.inj ho
      try dsimp only at hd
      have d24 : a'.tmps.getD 74 undef = .bool true := hd 24 (by rfl)
      have d25 : a'.tmps.getD 75 undef = .slice ao cf ca := hd 25 (by rfl)
      have d26 : a'.tmps.getD 76 undef = .int .i64 (cf : Int) := hd 26 (by rfl)
      have y := HS1.out
      refine wpOp_on (j := 24) (dj := 74) rfl rfl rfl d24 ?_
      refine op_run (v := .slice ao cf ca) (w' := w') ?_ ⟨_, rfl, slots_put (ns := 81) (hsa.size.trans rfl) (by decide), Below.refl _ _⟩
      simp only [execOp, Act.eval, d24, d25, d26, y]; first | (go_simp; done) | rfl
    | 28, ho =>
      obtain rfl := Option.some.inj ho
      try dsimp only at hd
      have d24 : a'.tmps.getD 74 undef = .bool true := hd 24 (by rfl)
      have g1 : a'.tmps.getD 1 undef = .slice bo nb cb := hsa.rest 1 (by rfl)
      refine wpOp_on (j := 24) (dj := 74) rfl rfl rfl d24 ?_
      refine op_run (v := .slice bo nb cb) (w' := w') ?_ ⟨_, rfl, slots_put (ns := 81) (hsa.size.trans rfl) (by decide), Below.refl _ _⟩
      simp only [execOp, Act.eval, d24, g1]; first | (go_simp; done) | rfl
    | 29, ho =>
      obtain rfl := Option.some.inj ho
      try dsimp only at hd
      have d24 : a'.tmps.getD 74 undef = .bool true := hd 24 (by rfl)
      have d27 : a'.tmps.getD 77 undef = .slice ao cf ca := hd 27 (by rfl)
      have d28 : a'.tmps.getD 78 undef = .slice bo nb cb := hd 28 (by rfl)
      refine wpOp_on (j := 24) (dj := 74) rfl rfl rfl d24 ?_
      refine op_call 15 _ _ rfl (enters_of Try.func15 (by kernel_rfl) rfl) [.slice ao cf ca, .slice bo nb cb] (by simp only [List.map, Act.eval, d24, d27, d28]) (HP.out w' hb) ?_
      rintro e w'' ⟨rfl, b2⟩
      refine ⟨_, rfl, _, rfl, ?_, ?_⟩
      · try dsimp only
        exact (slots_put (ns := 81) (hsa.size.trans rfl) (by decide))
      · exact b2
    | 30, ho =>
      obtain rfl := Option.some.inj ho
      try dsimp only at hd
      have d24 : a'.tmps.getD 74 undef = .bool true := hd 24 (by rfl)
      have d29 : a'.tmps.getD 79 undef = .bool true := hd 29 (by rfl)
      refine wpOp_of rfl rfl ?_
      refine op_run (v := .bool true) (w' := w') ?_ ⟨_, rfl, slots_put (ns := 81) (hsa.size.trans rfl) (by decide), Below.refl _ _⟩
      simp only [execOp, Act.eval, d24, d29]; first | (go_simp; done) | rfl
    | 31, ho =>
      obtain rfl := Option.some.inj ho
      try dsimp only at hd
      have d30 : a'.tmps.getD 80 undef = .bool true := hd 30 (by rfl)
      refine wpOp_of rfl rfl ?_
      refine op_run (v := .bool true) (w' := w') ?_ ⟨_, rfl, slots_put (ns := 81) (hsa.size.trans rfl) (by decide), Below.refl _ _⟩
      simp only [execOp, Act.eval, d30]; first | (go_simp; done) | rfl
    | (n + 32), ho => exact absurd ho (by simp)
  case pdone =>
    intro a' w' hsa hb hd
    have d31 : a'.tmps.getD 4 undef = .bool true := hd 31 (by decide)
    exact HQ.out a' w' ⟨hsa.size.trans rfl, hsa.defers.trans rfl, hsa.rest 0 (by rfl), hsa.rest 1 (by rfl), d31, hsa.rest 5 (by rfl), hsa.rest 6 (by rfl), hsa.rest 7 (by rfl)⟩ hb
theorem ft_r10b {K : Act → World → Prop} {c : Code} (hc : regOf (Try.f8.body.getD .skip) 10 = some c) (a : Act) {v : Vft} {wq : World} {ao bo : Option Addr} {cf na ca cb : Nat} (hF : Fft a v) (h0v : v.v0 = .slice ao na ca) (h1v : v.v1 = .slice bo cf cb) (h5v : v.v5 = .bool true) (h6v : v.v6 = .int .i64 (cf : Int)) (he1 : ((cf : Int) == (na : Int)) = false) (hs1 : ∀ W, (Instr.slice 23 (.slice ao na ca) .none (some (.int .i64 (cf : Nat))) .none).run Try.prog W = .ok (.slice ao cf ca) W) (hP : ∀ W, Below wq.heap.size wq W → Calls Try.prog 15 #[.slice ao cf ca, .slice bo cf cb] W fun e w' => e = .returned (.bool true) ∧ Below W.heap.size W w')
    (hQ : ∀ a' w1, Fft a' { v with v4 := .bool true } → Below wq.heap.size wq w1 → K a' w1) :
    Code.wp Try.prog c (Exit.then K fun _ _ _ => False) a wq := by
  have HQ := hide hQ
  clear hQ
  obtain ⟨v0, v1, v4, v5, v6, v7⟩ := v
  simp only at h0v h1v h5v h6v HQ
  subst h0v h1v h5v h6v
  obtain ⟨u, rfl⟩ := frx_ft hF
  clear hF
  simp only [Try.f8, Option.getD_some, regOf] at hc
  injection hc with hc
  subst hc
  have HP := hide hP
  have HS1 := hide hs1
  clear hP hs1
  have HE1 := hide he1
  clear he1
  refine wp_region_phi (by kernel_rfl) (ns := 81) (uses := (fun i => match i with | 0 => [50] | 1 => [51] | 2 => [52] | 3 => [53] | 4 => [54] | 5 => [55] | 6 => [56] | 7 => [57] | 8 => [58] | 9 => [59] | 10 => [60] | 11 => [61] | 12 => [62] | 13 => [63] | 14 => [64] | 15 => [65] | 16 => [66] | 17 => [67] | 18 => [68] | 19 => [69] | 20 => [70] | 21 => [71] | 22 => [72] | 23 => [73] | 24 => [74] | 25 => [75] | 26 => [76] | 27 => [77] | 28 => [78] | 29 => [79] | 30 => [80] | 31 => [4] | _ => [])) (by kernel_rfl) (by kernel_rfl) (fun _ w w' => Below w.heap.size w w') (fun w => Below wq.heap.size wq w) (fun _ _ _ h r => h.trans (r.mono h.size)) ((Below.refl _ _).drew) (fun i => match i with | 0 => fun s w => s 50 = .bool true | 1 => fun s w => s 51 = .bool true | 2 => fun s w => s 52 = .int .i64 (cf : Int) | 3 => fun s w => s 53 = .slice ao na ca | 4 => fun s w => s 54 = .int .i64 (na : Int) | 5 => fun s w => s 55 = .bool false | 6 => fun s w => s 56 = .bool false | 7 => fun s w => s 57 = .int .i64 (cf : Int) | 8 => fun s w => s 58 = .slice bo cf cb | 9 => fun s w => s 59 = .int .i64 (cf : Int) | 10 => fun s w => s 60 = .bool true | 11 => fun s w => s 61 = .bool true | 12 => fun s w => s 62 = .bool true | 13 => fun s w => s 63 = undef | 14 => fun s w => s 64 = undef | 15 => fun s w => s 65 = undef | 16 => fun s w => s 66 = undef | 17 => fun s w => s 67 = undef | 18 => fun s w => s 68 = undef | 19 => fun s w => s 69 = undef | 20 => fun s w => s 70 = undef | 21 => fun s w => s 71 = undef | 22 => fun s w => s 72 = .bool true | 23 => fun s w => s 73 = .bool true | 24 => fun s w => s 74 = .bool true | 25 => fun s w => s 75 = .slice ao na ca | 26 => fun s w => s 76 = .int .i64 (cf : Int) | 27 => fun s w => s 77 = .slice ao cf ca | 28 => fun s w => s 78 = .slice bo cf cb | 29 => fun s w => s 79 = .bool true | 30 => fun s w => s 80 = .bool true | 31 => fun s w => s 4 = .bool true | _ => fun _ _ => True) ?phc ?phh ?pstep ?pdone
  case phc =>
    intro i s s' w hx h
    iterate 32 (rcases i with _ | i; · exact (hx _ (List.mem_singleton.2 rfl)).symm.trans h)
    exact h
  case phh =>
    intro i j s w w' hij h hb r
    iterate 32 (rcases i with _ | i; · exact h)
    exact h
  case pstep =>
    intro i o ho a' w' hsa hb hd
    match i, ho with
    | 0, ho =>
      obtain rfl := Option.some.inj ho
      try dsimp only at hd
      have g5 : a'.tmps.getD 5 undef = .bool true := hsa.rest 5 (by rfl)
      refine wpOp_of rfl rfl ?_
      refine op_run (v := .bool true) (w' := w') ?_ ⟨_, rfl, slots_put (ns := 81) (hsa.size.trans rfl) (by decide), Below.refl _ _⟩
      simp only [execOp, Act.eval, g5]; first | (go_simp; done) | rfl
    | 1, ho =>
      obtain rfl := Option.some.inj ho
      try dsimp only at hd
      have d0 : a'.tmps.getD 50 undef = .bool true := hd 0 (by rfl)
      refine wpOp_of rfl rfl ?_
      refine op_run (v := .bool true) (w' := w') ?_ ⟨_, rfl, slots_put (ns := 81) (hsa.size.trans rfl) (by decide), Below.refl _ _⟩
      simp only [execOp, Act.eval, d0]; first | (go_simp; done) | rfl
    | 2, ho =>
      obtain rfl := Option.some.inj ho
      try dsimp only at hd
      have d1 : a'.tmps.getD 51 undef = .bool true := hd 1 (by rfl)
      have g6 : a'.tmps.getD 6 undef = .int .i64 (cf : Int) := hsa.rest 6 (by rfl)
      refine wpOp_on (j := 1) (dj := 51) rfl rfl rfl d1 ?_
      refine op_run (v := .int .i64 (cf : Int)) (w' := w') ?_ ⟨_, rfl, slots_put (ns := 81) (hsa.size.trans rfl) (by decide), Below.refl _ _⟩
      simp only [execOp, Act.eval, d1, g6]; first | (go_simp; done) | rfl
    | 3, ho =>
      obtain rfl := Option.some.inj ho
      try dsimp only at hd
      have d1 : a'.tmps.getD 51 undef = .bool true := hd 1 (by rfl)
      have g0 : a'.tmps.getD 0 undef = .slice ao na ca := hsa.rest 0 (by rfl)
      refine wpOp_on (j := 1) (dj := 51) rfl rfl rfl d1 ?_
      refine op_run (v := .slice ao na ca) (w' := w') ?_ ⟨_, rfl, slots_put (ns := 81) (hsa.size.trans rfl) (by decide), Below.refl _ _⟩
      simp only [execOp, Act.eval, d1, g0]; first | (go_simp; done) | rfl
    | 4, ho =>
      obtain rfl := Option.some.inj ho
      try dsimp only at hd
      have d1 : a'.tmps.getD 51 undef = .bool true := hd 1 (by rfl)
      have d3 : a'.tmps.getD 53 undef = .slice ao na ca := hd 3 (by rfl)
      refine wpOp_on (j := 1) (dj := 51) rfl rfl rfl d1 ?_
      refine op_run (v := .int .i64 (na : Int)) (w' := w') ?_ ⟨_, rfl, slots_put (ns := 81) (hsa.size.trans rfl) (by decide), Below.refl _ _⟩
      simp only [execOp, Act.eval, List.map_toArray, List.map_cons, List.map_nil, d1, d3]; first | (go_simp; done) | rfl
    | 5, ho =>
      obtain rfl := Option.some.inj ho
      try dsimp only at hd
      have d1 : a'.tmps.getD 51 undef = .bool true := hd 1 (by rfl)
      have d2 : a'.tmps.getD 52 undef = .int .i64 (cf : Int) := hd 2 (by rfl)
      have d4 : a'.tmps.getD 54 undef = .int .i64 (na : Int) := hd 4 (by rfl)
      have y := HE1.out
      refine wpOp_on (j := 1) (dj := 51) rfl rfl rfl d1 ?_
      refine op_run (v := .bool false) (w' := w') ?_ ⟨_, rfl, slots_put (ns := 81) (hsa.size.trans rfl) (by decide), Below.refl _ _⟩
      simp only [execOp, Act.eval, d1, d2, d4, y]; first | (go_simp; done) | rfl
    | 6, ho =>
      obtain rfl := Option.some.inj ho
      try dsimp only at hd
      have d1 : a'.tmps.getD 51 undef = .bool true := hd 1 (by rfl)
      have d5 : a'.tmps.getD 55 undef = .bool false := hd 5 (by rfl)
      refine wpOp_on (j := 1) (dj := 51) rfl rfl rfl d1 ?_
      refine op_run (v := .bool false) (w' := w') ?_ ⟨_, rfl, slots_put (ns := 81) (hsa.size.trans rfl) (by decide), Below.refl _ _⟩
      simp only [execOp, Act.eval, d1, d5]; first | (go_simp; done) | rfl
    | 7, ho =>
      obtain rfl := Option.some.inj ho
      try dsimp only at hd
      have d6 : a'.tmps.getD 56 undef = .bool false := hd 6 (by rfl)
      have g6 : a'.tmps.getD 6 undef = .int .i64 (cf : Int) := hsa.rest 6 (by rfl)
      refine wpOp_on (j := 6) (dj := 56) rfl rfl rfl d6 ?_
      refine op_run (v := .int .i64 (cf : Int)) (w' := w') ?_ ⟨_, rfl, slots_put (ns := 81) (hsa.size.trans rfl) (by decide), Below.refl _ _⟩
      simp only [execOp, Act.eval, d6, g6]; first | (go_simp; done) | rfl
    | 8, ho =>
      obtain rfl := Option.some.inj ho
      try dsimp only at hd
      have d6 : a'.tmps.getD 56 undef = .bool false := hd 6 (by rfl)
      have g1 : a'.tmps.getD 1 undef = .slice bo cf cb := hsa.rest 1 (by rfl)
      refine wpOp_on (j := 6) (dj := 56) rfl rfl rfl d6 ?_
      refine op_run (v := .slice bo cf cb) (w' := w') ?_ ⟨_, rfl, slots_put (ns := 81) (hsa.size.trans rfl) (by decide), Below.refl _ _⟩
      simp only [execOp, Act.eval, d6, g1]; first | (go_simp; done) | rfl
    | 9, ho =>
      obtain rfl := Option.some.inj ho
      try dsimp only at hd
      have d6 : a'.tmps.getD 56 undef = .bool false := hd 6 (by rfl)
      have d8 : a'.tmps.getD 58 undef = .slice bo cf cb := hd 8 (by rfl)
      refine wpOp_on (j := 6) (dj := 56) rfl rfl rfl d6 ?_
      refine op_run (v := .int .i64 (cf : Int)) (w' := w') ?_ ⟨_, rfl, slots_put (ns := 81) (hsa.size.trans rfl) (by decide), Below.refl _ _⟩
      simp only [execOp, Act.eval, List.map_toArray, List.map_cons, List.map_nil, d6, d8]; first | (go_simp; done) | rfl
    | 10, ho =>
      obtain rfl := Option.some.inj ho
      try dsimp only at hd
      have d6 : a'.tmps.getD 56 undef = .bool false := hd 6 (by rfl)
      have d7 : a'.tmps.getD 57 undef = .int .i64 (cf : Int) := hd 7 (by rfl)
      have d9 : a'.tmps.getD 59 undef = .int .i64 (cf : Int) := hd 9 (by rfl)
      refine wpOp_on (j := 6) (dj := 56) rfl rfl rfl d6 ?_
      refine op_run (v := .bool true) (w' := w') ?_ ⟨_, rfl, slots_put (ns := 81) (hsa.size.trans rfl) (by decide), Below.refl _ _⟩
      simp only [execOp, Act.eval, d6, d7, d9]; first | (go_simp; done) | rfl
    | 11, ho =>
      obtain rfl := Option.some.inj ho
      try dsimp only at hd
      have d1 : a'.tmps.getD 51 undef = .bool true := hd 1 (by rfl)
      have d6 : a'.tmps.getD 56 undef = .bool false := hd 6 (by rfl)
      have d10 : a'.tmps.getD 60 undef = .bool true := hd 10 (by rfl)
      refine wpOp_on (j := 1) (dj := 51) rfl rfl rfl d1 ?_
      refine op_run (v := .bool true) (w' := w') ?_ ⟨_, rfl, slots_put (ns := 81) (hsa.size.trans rfl) (by decide), Below.refl _ _⟩
      simp only [execOp, Act.eval, d1, d6, d10]; first | (go_simp; done) | rfl
    | 12, ho =>
      obtain rfl := Option.some.inj ho
      try dsimp only at hd
      have d1 : a'.tmps.getD 51 undef = .bool true := hd 1 (by rfl)
      have d11 : a'.tmps.getD 61 undef = .bool true := hd 11 (by rfl)
      refine wpOp_on (j := 1) (dj := 51) rfl rfl rfl d1 ?_
      refine op_run (v := .bool true) (w' := w') ?_ ⟨_, rfl, slots_put (ns := 81) (hsa.size.trans rfl) (by decide), Below.refl _ _⟩
      simp only [execOp, Act.eval, d1, d11]; first | (go_simp; done) | rfl
    | 13, ho | 14, ho | 15, ho | 16, ho | 17, ho | 18, ho | 19, ho | 20, ho | 21, ho =>
      obtain rfl := Option.some.inj ho
      try dsimp only at hd
      have d12 : a'.tmps.getD 62 undef = .bool true := hd 12 (by rfl)
      exact wpOp_off (j := 12) (dj := 62) rfl rfl rfl d12 (by simp [undef]) ⟨undef, rfl, slots_put (ns := 81) (hsa.size.trans rfl) (by decide), Below.refl _ _⟩
    | 22, ho =>
      obtain rfl := Option.some.inj ho
      try dsimp only at hd
      have d1 : a'.tmps.getD 51 undef = .bool true := hd 1 (by rfl)
      have d12 : a'.tmps.getD 62 undef = .bool true := hd 12 (by rfl)
      have d21 : a'.tmps.getD 71 undef = undef := hd 21 (by rfl)
      refine wpOp_on (j := 1) (dj := 51) rfl rfl rfl d1 ?_
      refine op_run (v := .bool true) (w' := w') ?_ ⟨_, rfl, slots_put (ns := 81) (hsa.size.trans rfl) (by decide), Below.refl _ _⟩
      simp only [execOp, Act.eval, d1, d12, d21]; first | (go_simp; done) | rfl
    | 23, ho =>
      obtain rfl := Option.some.inj ho
      try dsimp only at hd
      have d1 : a'.tmps.getD 51 undef = .bool true := hd 1 (by rfl)
      have d22 : a'.tmps.getD 72 undef = .bool true := hd 22 (by rfl)
      refine wpOp_of rfl rfl ?_
      refine op_run (v := .bool true) (w' := w') ?_ ⟨_, rfl, slots_put (ns := 81) (hsa.size.trans rfl) (by decide), Below.refl _ _⟩
      simp only [execOp, Act.eval, d1, d22]; first | (go_simp; done) | rfl
    | 24, ho =>
      obtain rfl := Option.some.inj ho
      try dsimp only at hd
      have d23 : a'.tmps.getD 73 undef = .bool true := hd 23 (by rfl)
      refine wpOp_of rfl rfl ?_
      refine op_run (v := .bool true) (w' := w') ?_ ⟨_, rfl, slots_put (ns := 81) (hsa.size.trans rfl) (by decide), Below.refl _ _⟩
      simp only [execOp, Act.eval, d23]; first | (go_simp; done) | rfl
    | 25, ho =>
      obtain rfl := Option.some.inj ho
      try dsimp only at hd
      have d24 : a'.tmps.getD 74 undef = .bool true := hd 24 (by rfl)
      have g0 : a'.tmps.getD 0 undef = .slice ao na ca := hsa.rest 0 (by rfl)
      refine wpOp_on (j := 24) (dj := 74) rfl rfl rfl d24 ?_
      refine op_run (v := .slice ao na ca) (w' := w') ?_ ⟨_, rfl, slots_put (ns := 81) (hsa.size.trans rfl) (by decide), Below.refl _ _⟩
      simp only [execOp, Act.eval, d24, g0]; first | (go_simp; done) | rfl
    | 26, ho =>
      obtain rfl := Option.some.inj ho
      try dsimp only at hd
      have d24 : a'.tmps.getD 74 undef = .bool true := hd 24 (by rfl)
      have g6 : a'.tmps.getD 6 undef = .int .i64 (cf : Int) := hsa.rest 6 (by rfl)
      refine wpOp_on (j := 24) (dj := 74) rfl rfl rfl d24 ?_
      refine op_run (v := .int .i64 (cf : Int)) (w' := w') ?_ ⟨_, rfl, slots_put (ns := 81) (hsa.size.trans rfl) (by decide), Below.refl _ _⟩
      simp only [execOp, Act.eval, d24, g6]; first | (go_simp; done) | rfl
    | 27, ho =>
      obtain rfl := Option.some.inj ho
      try dsimp only at hd
      have d24 : a'.tmps.getD 74 undef = .bool true := hd 24 (by rfl)
      have d25 : a'.tmps.getD 75 undef = .slice ao na ca := hd 25 (by rfl)
      have d26 : a'.tmps.getD 76 undef = .int .i64 (cf : Int) := hd 26 (by rfl)
      have y := HS1.out
      refine wpOp_on (j := 24) (dj := 74) rfl rfl rfl d24 ?_
      refine op_run (v := .slice ao cf ca) (w' := w') ?_ ⟨_, rfl, slots_put (ns := 81) (hsa.size.trans rfl) (by decide), Below.refl _ _⟩
      simp only [execOp, Act.eval, d24, d25, d26, y]; first | (go_simp; done) | rfl
    | 28, ho =>
      obtain rfl := Option.some.inj ho
      try dsimp only at hd
      have d24 : a'.tmps.getD 74 undef = .bool true := hd 24 (by rfl)
      have g1 : a'.tmps.getD 1 undef = .slice bo cf cb := hsa.rest 1 (by rfl)
      refine wpOp_on (j := 24) (dj := 74) rfl rfl rfl d24 ?_
      refine op_run (v := .slice bo cf cb) (w' := w') ?_ ⟨_, rfl, slots_put (ns := 81) (hsa.size.trans rfl) (by decide), Below.refl _ _⟩
      simp only [execOp, Act.eval, d24, g1]; first | (go_simp; done) | rfl
    | 29, ho =>
      obtain rfl := Option.some.inj ho
      try dsimp only at hd
      have d24 : a'.tmps.getD 74 undef = .bool true := hd 24 (by rfl)
      have d27 : a'.tmps.getD 77 undef = .slice ao cf ca := hd 27 (by rfl)
      have d28 : a'.tmps.getD 78 undef = .slice bo cf cb := hd 28 (by rfl)
      refine wpOp_on (j := 24) (dj := 74) rfl rfl rfl d24 ?_
      refine op_call 15 _ _ rfl (enters_of Try.func15 (by kernel_rfl) rfl) [.slice ao cf ca, .slice bo cf cb] (by simp only [List.map, Act.eval, d24, d27, d28]) (HP.out w' hb) ?_
      rintro e w'' ⟨rfl, b2⟩
      refine ⟨_, rfl, _, rfl, ?_, ?_⟩
      · try dsimp only
        exact (slots_put (ns := 81) (hsa.size.trans rfl) (by decide))
      · exact b2
    | 30, ho =>
      obtain rfl := Option.some.inj ho
      try dsimp only at hd
      have d24 : a'.tmps.getD 74 undef = .bool true := hd 24 (by rfl)
      have d29 : a'.tmps.getD 79 undef = .bool true := hd 29 (by rfl)
      refine wpOp_of rfl rfl ?_
      refine op_run (v := .bool true) (w' := w') ?_ ⟨_, rfl, slots_put (ns := 81) (hsa.size.trans rfl) (by decide), Below.refl _ _⟩
      simp only [execOp, Act.eval, d24, d29]; first | (go_simp; done) | rfl
    | 31, ho =>
      obtain rfl := Option.some.inj ho
      try dsimp only at hd
      have d30 : a'.tmps.getD 80 undef = .bool true := hd 30 (by rfl)
      refine wpOp_of rfl rfl ?_
      refine op_run (v := .bool true) (w' := w') ?_ ⟨_, rfl, slots_put (ns := 81) (hsa.size.trans rfl) (by decide), Below.refl _ _⟩
      simp only [execOp, Act.eval, d30]; first | (go_simp; done) | rfl
    | (n + 32), ho => exact absurd ho (by simp)
  case pdone =>
    intro a' w' hsa hb hd
    have d31 : a'.tmps.getD 4 undef = .bool true := hd 31 (by decide)
    exact HQ.out a' w' ⟨hsa.size.trans rfl, hsa.defers.trans rfl, hsa.rest 0 (by rfl), hsa.rest 1 (by rfl), d31, hsa.rest 5 (by rfl), hsa.rest 6 (by rfl), hsa.rest 7 (by rfl)⟩ hb
theorem ft_r10c {K : Act → World → Prop} {c : Code} (hc : regOf (Try.f8.body.getD .skip) 10 = some c) (a : Act) {v : Vft} {wq : World} {g of g2 of2 cf na nb ca cb : Nat} {x y : ByteArray} (hF : Fft a v) (h0v : v.v0 = .slice (some ⟨g, of, none⟩) na ca) (h1v : v.v1 = .slice (some ⟨g2, of2, none⟩) nb cb) (h5v : v.v5 = .bool true) (h6v : v.v6 = .int .i64 (cf : Int)) (he1 : ((cf : Int) == (na : Int)) = false) (he2 : ((cf : Int) == (nb : Int)) = false) (hz : (0 : Int) ≤ (cf : Int) ∧ (cf : Int) < (na : Int) ∧ (cf : Int) < (nb : Int)) (hg : g < wq.heap.size) (hg2 : g2 < wq.heap.size) (hc1 : wq.cell? ⟨g, of + cf, none⟩ = some (.string x)) (hc2 : wq.cell? ⟨g2, of2 + cf, none⟩ = some (.string y)) (hxy : (x.toList == y.toList) = false) (hs1 : ∀ W, (Instr.slice 23 (.slice (some ⟨g, of, none⟩) na ca) .none (some (.int .i64 (cf : Nat))) .none).run Try.prog W = .ok (.slice (some ⟨g, of, none⟩) cf ca) W) (hP : ∀ W, Below wq.heap.size wq W → Calls Try.prog 15 #[.slice (some ⟨g, of, none⟩) cf ca, .slice (some ⟨g2, of2, none⟩) nb cb] W fun e w' => e = .returned (.bool true) ∧ Below W.heap.size W w')
    (hQ : ∀ a' w1, Fft a' { v with v4 := .bool true } → Below wq.heap.size wq w1 → K a' w1) :
    Code.wp Try.prog c (Exit.then K fun _ _ _ => False) a wq := by
  have HQ := hide hQ
  clear hQ
  obtain ⟨v0, v1, v4, v5, v6, v7⟩ := v
  simp only at h0v h1v h5v h6v HQ
  subst h0v h1v h5v h6v
  obtain ⟨u, rfl⟩ := frx_ft hF
  clear hF
  simp only [Try.f8, Option.getD_some, regOf] at hc
  injection hc with hc
  subst hc
  have HP := hide hP
  have HS1 := hide hs1
  clear hP hs1
  have HE1 := hide he1
  have HE2 := hide he2
  have HZ := hide hz
  have HG := hide hg
  have HG2 := hide hg2
  have HC1 := hide hc1
  have HC2 := hide hc2
  have HXY := hide hxy
  clear he1 he2 hz hg hg2 hc1 hc2 hxy
  refine wp_region_phi (by kernel_rfl) (ns := 81) (uses := (fun i => match i with | 0 => [50] | 1 => [51] | 2 => [52] | 3 => [53] | 4 => [54] | 5 => [55] | 6 => [56] | 7 => [57] | 8 => [58] | 9 => [59] | 10 => [60] | 11 => [61] | 12 => [62] | 13 => [63] | 14 => [64] | 15 => [65] | 16 => [66] | 17 => [67] | 18 => [68] | 19 => [69] | 20 => [70] | 21 => [71] | 22 => [72] | 23 => [73] | 24 => [74] | 25 => [75] | 26 => [76] | 27 => [77] | 28 => [78] | 29 => [79] | 30 => [80] | 31 => [4] | _ => [])) (by kernel_rfl) (by kernel_rfl) (fun _ w w' => Below w.heap.size w w') (fun w => Below wq.heap.size wq w) (fun _ _ _ h r => h.trans (r.mono h.size)) ((Below.refl _ _).drew) (fun i => match i with | 0 => fun s w => s 50 = .bool true | 1 => fun s w => s 51 = .bool true | 2 => fun s w => s 52 = .int .i64 (cf : Int) | 3 => fun s w => s 53 = .slice (some ⟨g, of, none⟩) na ca | 4 => fun s w => s 54 = .int .i64 (na : Int) | 5 => fun s w => s 55 = .bool false | 6 => fun s w => s 56 = .bool false | 7 => fun s w => s 57 = .int .i64 (cf : Int) | 8 => fun s w => s 58 = .slice (some ⟨g2, of2, none⟩) nb cb | 9 => fun s w => s 59 = .int .i64 (nb : Int) | 10 => fun s w => s 60 = .bool false | 11 => fun s w => s 61 = .bool false | 12 => fun s w => s 62 = .bool false | 13 => fun s w => s 63 = .slice (some ⟨g, of, none⟩) na ca | 14 => fun s w => s 64 = .int .i64 (cf : Int) | 15 => fun s w => s 65 = .pointer (some ⟨g, of + cf, none⟩) | 16 => fun s w => s 66 = .string x | 17 => fun s w => s 67 = .slice (some ⟨g2, of2, none⟩) nb cb | 18 => fun s w => s 68 = .int .i64 (cf : Int) | 19 => fun s w => s 69 = .pointer (some ⟨g2, of2 + cf, none⟩) | 20 => fun s w => s 70 = .string y | 21 => fun s w => s 71 = .bool true | 22 => fun s w => s 72 = .bool true | 23 => fun s w => s 73 = .bool true | 24 => fun s w => s 74 = .bool true | 25 => fun s w => s 75 = .slice (some ⟨g, of, none⟩) na ca | 26 => fun s w => s 76 = .int .i64 (cf : Int) | 27 => fun s w => s 77 = .slice (some ⟨g, of, none⟩) cf ca | 28 => fun s w => s 78 = .slice (some ⟨g2, of2, none⟩) nb cb | 29 => fun s w => s 79 = .bool true | 30 => fun s w => s 80 = .bool true | 31 => fun s w => s 4 = .bool true | _ => fun _ _ => True) ?phc ?phh ?pstep ?pdone
  case phc =>
    intro i s s' w hx h
    iterate 32 (rcases i with _ | i; · exact (hx _ (List.mem_singleton.2 rfl)).symm.trans h)
    exact h
  case phh =>
    intro i j s w w' hij h hb r
    iterate 32 (rcases i with _ | i; · exact h)
    exact h
  case pstep =>
    intro i o ho a' w' hsa hb hd
    match i, ho with
    | 0, ho =>
      obtain rfl := Option.some.inj ho
      try dsimp only at hd
      have g5 : a'.tmps.getD 5 undef = .bool true := hsa.rest 5 (by rfl)
      refine wpOp_of rfl rfl ?_
      refine op_run (v := .bool true) (w' := w') ?_ ⟨_, rfl, slots_put (ns := 81) (hsa.size.trans rfl) (by decide), Below.refl _ _⟩
      simp only [execOp, Act.eval, g5]; first | (go_simp; done) | rfl
    | 1, ho =>
      obtain rfl := Option.some.inj ho
      try dsimp only at hd
      have d0 : a'.tmps.getD 50 undef = .bool true := hd 0 (by rfl)
      refine wpOp_of rfl rfl ?_
      refine op_run (v := .bool true) (w' := w') ?_ ⟨_, rfl, slots_put (ns := 81) (hsa.size.trans rfl) (by decide), Below.refl _ _⟩
      simp only [execOp, Act.eval, d0]; first | (go_simp; done) | rfl
    | 2, ho =>
      obtain rfl := Option.some.inj ho
      try dsimp only at hd
      have d1 : a'.tmps.getD 51 undef = .bool true := hd 1 (by rfl)
      have g6 : a'.tmps.getD 6 undef = .int .i64 (cf : Int) := hsa.rest 6 (by rfl)
      refine wpOp_on (j := 1) (dj := 51) rfl rfl rfl d1 ?_
      refine op_run (v := .int .i64 (cf : Int)) (w' := w') ?_ ⟨_, rfl, slots_put (ns := 81) (hsa.size.trans rfl) (by decide), Below.refl _ _⟩
      simp only [execOp, Act.eval, d1, g6]; first | (go_simp; done) | rfl
    | 3, ho =>
      obtain rfl := Option.some.inj ho
      try dsimp only at hd
      have d1 : a'.tmps.getD 51 undef = .bool true := hd 1 (by rfl)
      have g0 : a'.tmps.getD 0 undef = .slice (some ⟨g, of, none⟩) na ca := hsa.rest 0 (by rfl)
      refine wpOp_on (j := 1) (dj := 51) rfl rfl rfl d1 ?_
      refine op_run (v := .slice (some ⟨g, of, none⟩) na ca) (w' := w') ?_ ⟨_, rfl, slots_put (ns := 81) (hsa.size.trans rfl) (by decide), Below.refl _ _⟩
      simp only [execOp, Act.eval, d1, g0]; first | (go_simp; done) | rfl
    | 4, ho =>
      obtain rfl := Option.some.inj ho
      try dsimp only at hd
      have d1 : a'.tmps.getD 51 undef = .bool true := hd 1 (by rfl)
      have d3 : a'.tmps.getD 53 undef = .slice (some ⟨g, of, none⟩) na ca := hd 3 (by rfl)
      refine wpOp_on (j := 1) (dj := 51) rfl rfl rfl d1 ?_
      refine op_run (v := .int .i64 (na : Int)) (w' := w') ?_ ⟨_, rfl, slots_put (ns := 81) (hsa.size.trans rfl) (by decide), Below.refl _ _⟩
      simp only [execOp, Act.eval, List.map_toArray, List.map_cons, List.map_nil, d1, d3]; first | (go_simp; done) | rfl
    | 5, ho =>
      obtain rfl := Option.some.inj ho
      try dsimp only at hd
      have d1 : a'.tmps.getD 51 undef = .bool true := hd 1 (by rfl)
      have d2 : a'.tmps.getD 52 undef = .int .i64 (cf : Int) := hd 2 (by rfl)
      have d4 : a'.tmps.getD 54 undef = .int .i64 (na : Int) := hd 4 (by rfl)
      have y9 := HE1.out
      refine wpOp_on (j := 1) (dj := 51) rfl rfl rfl d1 ?_
      refine op_run (v := .bool false) (w' := w') ?_ ⟨_, rfl, slots_put (ns := 81) (hsa.size.trans rfl) (by decide), Below.refl _ _⟩
      simp only [execOp, Act.eval, d1, d2, d4, y9]; first | (go_simp; done) | rfl
    | 6, ho =>
      obtain rfl := Option.some.inj ho
      try dsimp only at hd
      have d1 : a'.tmps.getD 51 undef = .bool true := hd 1 (by rfl)
      have d5 : a'.tmps.getD 55 undef = .bool false := hd 5 (by rfl)
      refine wpOp_on (j := 1) (dj := 51) rfl rfl rfl d1 ?_
      refine op_run (v := .bool false) (w' := w') ?_ ⟨_, rfl, slots_put (ns := 81) (hsa.size.trans rfl) (by decide), Below.refl _ _⟩
      simp only [execOp, Act.eval, d1, d5]; first | (go_simp; done) | rfl
    | 7, ho =>
      obtain rfl := Option.some.inj ho
      try dsimp only at hd
      have d6 : a'.tmps.getD 56 undef = .bool false := hd 6 (by rfl)
      have g6 : a'.tmps.getD 6 undef = .int .i64 (cf : Int) := hsa.rest 6 (by rfl)
      refine wpOp_on (j := 6) (dj := 56) rfl rfl rfl d6 ?_
      refine op_run (v := .int .i64 (cf : Int)) (w' := w') ?_ ⟨_, rfl, slots_put (ns := 81) (hsa.size.trans rfl) (by decide), Below.refl _ _⟩
      simp only [execOp, Act.eval, d6, g6]; first | (go_simp; done) | rfl
    | 8, ho =>
      obtain rfl := Option.some.inj ho
      try dsimp only at hd
      have d6 : a'.tmps.getD 56 undef = .bool false := hd 6 (by rfl)
      have g1 : a'.tmps.getD 1 undef = .slice (some ⟨g2, of2, none⟩) nb cb := hsa.rest 1 (by rfl)
      refine wpOp_on (j := 6) (dj := 56) rfl rfl rfl d6 ?_
      refine op_run (v := .slice (some ⟨g2, of2, none⟩) nb cb) (w' := w') ?_ ⟨_, rfl, slots_put (ns := 81) (hsa.size.trans rfl) (by decide), Below.refl _ _⟩
      simp only [execOp, Act.eval, d6, g1]; first | (go_simp; done) | rfl
    | 9, ho =>
      obtain rfl := Option.some.inj ho
      try dsimp only at hd
      have d6 : a'.tmps.getD 56 undef = .bool false := hd 6 (by rfl)
      have d8 : a'.tmps.getD 58 undef = .slice (some ⟨g2, of2, none⟩) nb cb := hd 8 (by rfl)
      refine wpOp_on (j := 6) (dj := 56) rfl rfl rfl d6 ?_
      refine op_run (v := .int .i64 (nb : Int)) (w' := w') ?_ ⟨_, rfl, slots_put (ns := 81) (hsa.size.trans rfl) (by decide), Below.refl _ _⟩
      simp only [execOp, Act.eval, List.map_toArray, List.map_cons, List.map_nil, d6, d8]; first | (go_simp; done) | rfl
    | 10, ho =>
      obtain rfl := Option.some.inj ho
      try dsimp only at hd
      have d6 : a'.tmps.getD 56 undef = .bool false := hd 6 (by rfl)
      have d7 : a'.tmps.getD 57 undef = .int .i64 (cf : Int) := hd 7 (by rfl)
      have d9 : a'.tmps.getD 59 undef = .int .i64 (nb : Int) := hd 9 (by rfl)
      have y9 := HE2.out
      refine wpOp_on (j := 6) (dj := 56) rfl rfl rfl d6 ?_
      refine op_run (v := .bool false) (w' := w') ?_ ⟨_, rfl, slots_put (ns := 81) (hsa.size.trans rfl) (by decide), Below.refl _ _⟩
      simp only [execOp, Act.eval, d6, d7, d9, y9]; first | (go_simp; done) | rfl
    | 11, ho =>
      obtain rfl := Option.some.inj ho
      try dsimp only at hd
      have d1 : a'.tmps.getD 51 undef = .bool true := hd 1 (by rfl)
      have d6 : a'.tmps.getD 56 undef = .bool false := hd 6 (by rfl)
      have d10 : a'.tmps.getD 60 undef = .bool false := hd 10 (by rfl)
      refine wpOp_on (j := 1) (dj := 51) rfl rfl rfl d1 ?_
      refine op_run (v := .bool false) (w' := w') ?_ ⟨_, rfl, slots_put (ns := 81) (hsa.size.trans rfl) (by decide), Below.refl _ _⟩
      simp only [execOp, Act.eval, d1, d6, d10]; first | (go_simp; done) | rfl
    | 12, ho =>
      obtain rfl := Option.some.inj ho
      try dsimp only at hd
      have d1 : a'.tmps.getD 51 undef = .bool true := hd 1 (by rfl)
      have d11 : a'.tmps.getD 61 undef = .bool false := hd 11 (by rfl)
      refine wpOp_on (j := 1) (dj := 51) rfl rfl rfl d1 ?_
      refine op_run (v := .bool false) (w' := w') ?_ ⟨_, rfl, slots_put (ns := 81) (hsa.size.trans rfl) (by decide), Below.refl _ _⟩
      simp only [execOp, Act.eval, d1, d11]; first | (go_simp; done) | rfl
    | 13, ho =>
      obtain rfl := Option.some.inj ho
      try dsimp only at hd
      have d12 : a'.tmps.getD 62 undef = .bool false := hd 12 (by rfl)
      have g0 : a'.tmps.getD 0 undef = .slice (some ⟨g, of, none⟩) na ca := hsa.rest 0 (by rfl)
      refine wpOp_on (j := 12) (dj := 62) rfl rfl rfl d12 ?_
      refine op_run (v := .slice (some ⟨g, of, none⟩) na ca) (w' := w') ?_ ⟨_, rfl, slots_put (ns := 81) (hsa.size.trans rfl) (by decide), Below.refl _ _⟩
      simp only [execOp, Act.eval, d12, g0]; first | (go_simp; done) | rfl
    | 14, ho =>
      obtain rfl := Option.some.inj ho
      try dsimp only at hd
      have d12 : a'.tmps.getD 62 undef = .bool false := hd 12 (by rfl)
      have g6 : a'.tmps.getD 6 undef = .int .i64 (cf : Int) := hsa.rest 6 (by rfl)
      refine wpOp_on (j := 12) (dj := 62) rfl rfl rfl d12 ?_
      refine op_run (v := .int .i64 (cf : Int)) (w' := w') ?_ ⟨_, rfl, slots_put (ns := 81) (hsa.size.trans rfl) (by decide), Below.refl _ _⟩
      simp only [execOp, Act.eval, d12, g6]; first | (go_simp; done) | rfl
    | 15, ho =>
      obtain rfl := Option.some.inj ho
      try dsimp only at hd
      have d12 : a'.tmps.getD 62 undef = .bool false := hd 12 (by rfl)
      have d13 : a'.tmps.getD 63 undef = .slice (some ⟨g, of, none⟩) na ca := hd 13 (by rfl)
      have d14 : a'.tmps.getD 64 undef = .int .i64 (cf : Int) := hd 14 (by rfl)
      have y1 := HZ.out.1
      have y2 := HZ.out.2.1
      refine wpOp_on (j := 12) (dj := 62) rfl rfl rfl d12 ?_
      refine op_run (v := .pointer (some ⟨g, of + cf, none⟩)) (w' := w') ?_ ⟨_, rfl, slots_put (ns := 81) (hsa.size.trans rfl) (by decide), Below.refl _ _⟩
      simp only [execOp, Act.eval, d12, d13, d14, y1, y2]; first | (go_simp; done) | rfl
    | 16, ho =>
      obtain rfl := Option.some.inj ho
      try dsimp only at hd
      have d12 : a'.tmps.getD 62 undef = .bool false := hd 12 (by rfl)
      have d15 : a'.tmps.getD 65 undef = .pointer (some ⟨g, of + cf, none⟩) := hd 15 (by rfl)
      have z := (hb.cell (p := ⟨g, of + cf, none⟩) HG.out).trans HC1.out
      refine wpOp_on (j := 12) (dj := 62) rfl rfl rfl d12 ?_
      refine op_run (v := .string x) (w' := w') ?_ ⟨_, rfl, slots_put (ns := 81) (hsa.size.trans rfl) (by decide), Below.refl _ _⟩
      simp only [execOp, Act.eval, d12, d15, z]; first | (go_simp; done) | rfl
    | 17, ho =>
      obtain rfl := Option.some.inj ho
      try dsimp only at hd
      have d12 : a'.tmps.getD 62 undef = .bool false := hd 12 (by rfl)
      have g1 : a'.tmps.getD 1 undef = .slice (some ⟨g2, of2, none⟩) nb cb := hsa.rest 1 (by rfl)
      refine wpOp_on (j := 12) (dj := 62) rfl rfl rfl d12 ?_
      refine op_run (v := .slice (some ⟨g2, of2, none⟩) nb cb) (w' := w') ?_ ⟨_, rfl, slots_put (ns := 81) (hsa.size.trans rfl) (by decide), Below.refl _ _⟩
      simp only [execOp, Act.eval, d12, g1]; first | (go_simp; done) | rfl
    | 18, ho =>
      obtain rfl := Option.some.inj ho
      try dsimp only at hd
      have d12 : a'.tmps.getD 62 undef = .bool false := hd 12 (by rfl)
      have g6 : a'.tmps.getD 6 undef = .int .i64 (cf : Int) := hsa.rest 6 (by rfl)
      refine wpOp_on (j := 12) (dj := 62) rfl rfl rfl d12 ?_
      refine op_run (v := .int .i64 (cf : Int)) (w' := w') ?_ ⟨_, rfl, slots_put (ns := 81) (hsa.size.trans rfl) (by decide), Below.refl _ _⟩
      simp only [execOp, Act.eval, d12, g6]; first | (go_simp; done) | rfl
    | 19, ho =>
      obtain rfl := Option.some.inj ho
      try dsimp only at hd
      have d12 : a'.tmps.getD 62 undef = .bool false := hd 12 (by rfl)
      have d17 : a'.tmps.getD 67 undef = .slice (some ⟨g2, of2, none⟩) nb cb := hd 17 (by rfl)
      have d18 : a'.tmps.getD 68 undef = .int .i64 (cf : Int) := hd 18 (by rfl)
      have y1 := HZ.out.1
      have y2 := HZ.out.2.2
      refine wpOp_on (j := 12) (dj := 62) rfl rfl rfl d12 ?_
      refine op_run (v := .pointer (some ⟨g2, of2 + cf, none⟩)) (w' := w') ?_ ⟨_, rfl, slots_put (ns := 81) (hsa.size.trans rfl) (by decide), Below.refl _ _⟩
      simp only [execOp, Act.eval, d12, d17, d18, y1, y2]; first | (go_simp; done) | rfl
    | 20, ho =>
      obtain rfl := Option.some.inj ho
      try dsimp only at hd
      have d12 : a'.tmps.getD 62 undef = .bool false := hd 12 (by rfl)
      have d19 : a'.tmps.getD 69 undef = .pointer (some ⟨g2, of2 + cf, none⟩) := hd 19 (by rfl)
      have z := (hb.cell (p := ⟨g2, of2 + cf, none⟩) HG2.out).trans HC2.out
      refine wpOp_on (j := 12) (dj := 62) rfl rfl rfl d12 ?_
      refine op_run (v := .string y) (w' := w') ?_ ⟨_, rfl, slots_put (ns := 81) (hsa.size.trans rfl) (by decide), Below.refl _ _⟩
      simp only [execOp, Act.eval, d12, d19, z]; first | (go_simp; done) | rfl
    | 21, ho =>
      obtain rfl := Option.some.inj ho
      try dsimp only at hd
      have d12 : a'.tmps.getD 62 undef = .bool false := hd 12 (by rfl)
      have d16 : a'.tmps.getD 66 undef = .string x := hd 16 (by rfl)
      have d20 : a'.tmps.getD 70 undef = .string y := hd 20 (by rfl)
      have z := HXY.out
      refine wpOp_on (j := 12) (dj := 62) rfl rfl rfl d12 ?_
      refine op_run (v := .bool true) (w' := w') ?_ ⟨_, rfl, slots_put (ns := 81) (hsa.size.trans rfl) (by decide), Below.refl _ _⟩
      simp only [execOp, Act.eval, d12, d16, d20, z]; first | (go_simp; done) | rfl
    | 22, ho =>
      obtain rfl := Option.some.inj ho
      try dsimp only at hd
      have d1 : a'.tmps.getD 51 undef = .bool true := hd 1 (by rfl)
      have d12 : a'.tmps.getD 62 undef = .bool false := hd 12 (by rfl)
      have d21 : a'.tmps.getD 71 undef = .bool true := hd 21 (by rfl)
      refine wpOp_on (j := 1) (dj := 51) rfl rfl rfl d1 ?_
      refine op_run (v := .bool true) (w' := w') ?_ ⟨_, rfl, slots_put (ns := 81) (hsa.size.trans rfl) (by decide), Below.refl _ _⟩
      simp only [execOp, Act.eval, d1, d12, d21]; first | (go_simp; done) | rfl
    | 23, ho =>
      obtain rfl := Option.some.inj ho
      try dsimp only at hd
      have d1 : a'.tmps.getD 51 undef = .bool true := hd 1 (by rfl)
      have d22 : a'.tmps.getD 72 undef = .bool true := hd 22 (by rfl)
      refine wpOp_of rfl rfl ?_
      refine op_run (v := .bool true) (w' := w') ?_ ⟨_, rfl, slots_put (ns := 81) (hsa.size.trans rfl) (by decide), Below.refl _ _⟩
      simp only [execOp, Act.eval, d1, d22]; first | (go_simp; done) | rfl
    | 24, ho =>
      obtain rfl := Option.some.inj ho
      try dsimp only at hd
      have d23 : a'.tmps.getD 73 undef = .bool true := hd 23 (by rfl)
      refine wpOp_of rfl rfl ?_
      refine op_run (v := .bool true) (w' := w') ?_ ⟨_, rfl, slots_put (ns := 81) (hsa.size.trans rfl) (by decide), Below.refl _ _⟩
      simp only [execOp, Act.eval, d23]; first | (go_simp; done) | rfl
    | 25, ho =>
      obtain rfl := Option.some.inj ho
      try dsimp only at hd
      have d24 : a'.tmps.getD 74 undef = .bool true := hd 24 (by rfl)
      have g0 : a'.tmps.getD 0 undef = .slice (some ⟨g, of, none⟩) na ca := hsa.rest 0 (by rfl)
      refine wpOp_on (j := 24) (dj := 74) rfl rfl rfl d24 ?_
      refine op_run (v := .slice (some ⟨g, of, none⟩) na ca) (w' := w') ?_ ⟨_, rfl, slots_put (ns := 81) (hsa.size.trans rfl) (by decide), Below.refl _ _⟩
      simp only [execOp, Act.eval, d24, g0]; first | (go_simp; done) | rfl
    | 26, ho =>
      obtain rfl := Option.some.inj ho
      try dsimp only at hd
      have d24 : a'.tmps.getD 74 undef = .bool true := hd 24 (by rfl)
      have g6 : a'.tmps.getD 6 undef = .int .i64 (cf : Int) := hsa.rest 6 (by rfl)
      refine wpOp_on (j := 24) (dj := 74) rfl rfl rfl d24 ?_
      refine op_run (v := .int .i64 (cf : Int)) (w' := w') ?_ ⟨_, rfl, slots_put (ns := 81) (hsa.size.trans rfl) (by decide), Below.refl _ _⟩
      simp only [execOp, Act.eval, d24, g6]; first | (go_simp; done) | rfl
    | 27, ho =>
      obtain rfl := Option.some.inj ho
      try dsimp only at hd
      have d24 : a'.tmps.getD 74 undef = .bool true := hd 24 (by rfl)
      have d25 : a'.tmps.getD 75 undef = .slice (some ⟨g, of, none⟩) na ca := hd 25 (by rfl)
      have d26 : a'.tmps.getD 76 undef = .int .i64 (cf : Int) := hd 26 (by rfl)
      have y := HS1.out
      refine wpOp_on (j := 24) (dj := 74) rfl rfl rfl d24 ?_
      refine op_run (v := .slice (some ⟨g, of, none⟩) cf ca) (w' := w') ?_ ⟨_, rfl, slots_put (ns := 81) (hsa.size.trans rfl) (by decide), Below.refl _ _⟩
      simp only [execOp, Act.eval, d24, d25, d26, y]; first | (go_simp; done) | rfl
    | 28, ho =>
      obtain rfl := Option.some.inj ho
      try dsimp only at hd
      have d24 : a'.tmps.getD 74 undef = .bool true := hd 24 (by rfl)
      have g1 : a'.tmps.getD 1 undef = .slice (some ⟨g2, of2, none⟩) nb cb := hsa.rest 1 (by rfl)
      refine wpOp_on (j := 24) (dj := 74) rfl rfl rfl d24 ?_
      refine op_run (v := .slice (some ⟨g2, of2, none⟩) nb cb) (w' := w') ?_ ⟨_, rfl, slots_put (ns := 81) (hsa.size.trans rfl) (by decide), Below.refl _ _⟩
      simp only [execOp, Act.eval, d24, g1]; first | (go_simp; done) | rfl
    | 29, ho =>
      obtain rfl := Option.some.inj ho
      try dsimp only at hd
      have d24 : a'.tmps.getD 74 undef = .bool true := hd 24 (by rfl)
      have d27 : a'.tmps.getD 77 undef = .slice (some ⟨g, of, none⟩) cf ca := hd 27 (by rfl)
      have d28 : a'.tmps.getD 78 undef = .slice (some ⟨g2, of2, none⟩) nb cb := hd 28 (by rfl)
      refine wpOp_on (j := 24) (dj := 74) rfl rfl rfl d24 ?_
      refine op_call 15 _ _ rfl (enters_of Try.func15 (by kernel_rfl) rfl) [.slice (some ⟨g, of, none⟩) cf ca, .slice (some ⟨g2, of2, none⟩) nb cb] (by simp only [List.map, Act.eval, d24, d27, d28]) (HP.out w' hb) ?_
      rintro e w'' ⟨rfl, b2⟩
      refine ⟨_, rfl, _, rfl, ?_, ?_⟩
      · try dsimp only
        exact (slots_put (ns := 81) (hsa.size.trans rfl) (by decide))
      · exact b2
    | 30, ho =>
      obtain rfl := Option.some.inj ho
      try dsimp only at hd
      have d24 : a'.tmps.getD 74 undef = .bool true := hd 24 (by rfl)
      have d29 : a'.tmps.getD 79 undef = .bool true := hd 29 (by rfl)
      refine wpOp_of rfl rfl ?_
      refine op_run (v := .bool true) (w' := w') ?_ ⟨_, rfl, slots_put (ns := 81) (hsa.size.trans rfl) (by decide), Below.refl _ _⟩
      simp only [execOp, Act.eval, d24, d29]; first | (go_simp; done) | rfl
    | 31, ho =>
      obtain rfl := Option.some.inj ho
      try dsimp only at hd
      have d30 : a'.tmps.getD 80 undef = .bool true := hd 30 (by rfl)
      refine wpOp_of rfl rfl ?_
      refine op_run (v := .bool true) (w' := w') ?_ ⟨_, rfl, slots_put (ns := 81) (hsa.size.trans rfl) (by decide), Below.refl _ _⟩
      simp only [execOp, Act.eval, d30]; first | (go_simp; done) | rfl
    | (n + 32), ho => exact absurd ho (by simp)
  case pdone =>
    intro a' w' hsa hb hd
    have d31 : a'.tmps.getD 4 undef = .bool true := hd 31 (by decide)
    exact HQ.out a' w' ⟨hsa.size.trans rfl, hsa.defers.trans rfl, hsa.rest 0 (by rfl), hsa.rest 1 (by rfl), d31, hsa.rest 5 (by rfl), hsa.rest 6 (by rfl), hsa.rest 7 (by rfl)⟩ hb
theorem ft_ret {W : World} {a : Act} {v : Vft} {x : Bool} {R : Ending → World → Prop} (hF : Fft a v) (h2 : v.v4 = .bool x) (h : R (.returned (.bool x)) W) : bodyPost Try.prog Try.f8 R .ret a W := by
  have g0 := slot_get (hF.s4.trans h2)
  refine bodyPost_ret (v := .bool x) ?_ hF.defers h
  simp [results, Try.results8, go_sem, g0]
end Go.Proofs.Ytfcpclpaalekiaa
