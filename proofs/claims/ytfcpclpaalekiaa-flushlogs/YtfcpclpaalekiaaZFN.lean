/-
  The program's Own, as it runs.
-/
import Derived.Test.YtfcpclpaalekiaaZFL4
import Derived.Test.YtfcpclpaalekiaaZQX
namespace Go.Proofs.Ytfcpclpaalekiaa
open Go.RowKit
set_option maxHeartbeats 8000000
set_option maxRecDepth 100000
attribute [local go_sem ↓] Go.wp_at_zero Go.wp_at_succ
set_option linter.unusedSimpArgs false
set_option linter.unusedVariables false
theorem elemIt : Try.prog.elem 60 = tItem := by kernel_rfl
theorem sizeOfIt (w : World) : (sizeOf tItem).run Try.prog w = .ok 3 w := by kernel_rfl
theorem underIt : Try.prog.underlying 60 = some (.slice (Try.prog.elem 60)) := by rw [elemIt]; exact Try.underlying60
theorem items_from {ao ao1 : Option Addr} {g n oc : Nat} (hao : ao = some ⟨g, 0, none⟩) (hao1 : ao1 = if oc = 1 then some ⟨g, 0, none⟩ else some ⟨g, 3, none⟩) (hn : 1 ≤ n) (hnc : n ≤ oc) :
    ∀ W, (Instr.slice 60 (.slice ao n oc) (some (.int .i64 1)) .none .none).run Try.prog W = .ok (.slice ao1 (n - 1) (oc - 1)) W := by
  intro W
  subst hao
  rw [run_slice_l (P := Try.prog) W 60 (some ⟨g, 0, none⟩) n oc underIt .i64 1 (by omega) (by omega), elemIt, sizeOfIt]
  simp only [Result.andThen, sliced]
  rw [hao1]
  have e : oc - 1 = 0 ↔ oc = 1 := by omega
  by_cases h : oc = 1
  · subst h
    have : n = 1 := by omega
    subst this
    simp [Addr.add]
  · simp [Addr.add, h, e]
theorem frame_fd (t : Array Value) (h : t.size = 41) : ∃ u : Nat → Value, t = List.toArray (u 0 :: u 1 :: u 2 :: u 3 :: u 4 :: u 5 :: u 6 :: u 7 :: u 8 :: u 9 :: u 10 :: u 11 :: u 12 :: u 13 :: u 14 :: u 15 :: u 16 :: u 17 :: u 18 :: u 19 :: u 20 :: u 21 :: u 22 :: u 23 :: u 24 :: u 25 :: u 26 :: u 27 :: u 28 :: u 29 :: u 30 :: u 31 :: u 32 :: u 33 :: u 34 :: u 35 :: u 36 :: u 37 :: u 38 :: u 39 :: u 40 :: []) := by
  refine ⟨fun i => t.getD i undef, ?_⟩
  refine Eq.trans (b := ((List.range 41).map fun i => t.getD i undef).toArray) ?_ rfl
  apply Array.ext
  · simp [h]
  · intro k h1 h2
    simp [Array.getD, h1]
structure Vfd where
  v0 : Value
  v2 : Value
  v3 : Value
  v4 : Value
  v5 : Value
  v6 : Value
  v7 : Value
  v8 : Value
  v9 : Value
structure Ffd (a : Act) (v : Vfd) : Prop where
  size : a.tmps.size = 41
  defers : a.defers = []
  s0 : a.tmps.getD 0 undef = v.v0
  s2 : a.tmps.getD 2 undef = v.v2
  s3 : a.tmps.getD 3 undef = v.v3
  s4 : a.tmps.getD 4 undef = v.v4
  s5 : a.tmps.getD 5 undef = v.v5
  s6 : a.tmps.getD 6 undef = v.v6
  s7 : a.tmps.getD 7 undef = v.v7
  s8 : a.tmps.getD 8 undef = v.v8
  s9 : a.tmps.getD 9 undef = v.v9
theorem frx_fd {a : Act} {v0 v2 v3 v4 v5 v6 v7 v8 v9 : Value} (h : Ffd a ⟨v0, v2, v3, v4, v5, v6, v7, v8, v9⟩) : ∃ u : Nat → Value, a = ⟨List.toArray (v0 :: u 1 :: v2 :: v3 :: v4 :: v5 :: v6 :: v7 :: v8 :: v9 :: u 10 :: u 11 :: u 12 :: u 13 :: u 14 :: u 15 :: u 16 :: u 17 :: u 18 :: u 19 :: u 20 :: u 21 :: u 22 :: u 23 :: u 24 :: u 25 :: u 26 :: u 27 :: u 28 :: u 29 :: u 30 :: u 31 :: u 32 :: u 33 :: u 34 :: u 35 :: u 36 :: u 37 :: u 38 :: u 39 :: u 40 :: []), []⟩ := by
  obtain ⟨t', d'⟩ := a
  obtain ⟨hs, hd, q0, q2, q3, q4, q5, q6, q7, q8, q9⟩ := h
  obtain ⟨u, hu⟩ := frame_fd t' hs
  simp only at hd q0 q2 q3 q4 q5 q6 q7 q8 q9
  subst hu hd
  have e0 : u 0 = v0 := q0
  have e2 : u 2 = v2 := q2
  have e3 : u 3 = v3 := q3
  have e4 : u 4 = v4 := q4
  have e5 : u 5 = v5 := q5
  have e6 : u 6 = v6 := q6
  have e7 : u 7 = v7 := q7
  have e8 : u 8 = v8 := q8
  have e9 : u 9 = v9 := q9
  refine ⟨u, ?_⟩
  rw [e0, e2, e3, e4, e5, e6, e7, e8, e9]
theorem fd_r0 {K : Act → World → Prop} {c : Code} (hc : regOf (Try.f19.body.getD .skip) 0 = some c) (a : Act) {v : Vfd} {wq : World}  (hF : Ffd a v) (hQ : ∀ a', Ffd a' { v with v2 := .pointer (some ⟨wq.heap.size, 0, none⟩), v3 := .slice none 0 0, v4 := .int .i64 0 } → K a' (wq.alloc (.cells #[.int .i64 0, .slice none 0 0] tView))) :
    Code.wp Try.prog c (Exit.then K fun _ _ _ => False) a wq := by
  have HQ := hide hQ
  clear hQ
  obtain ⟨v0, v2, v3, v4, v5, v6, v7, v8, v9⟩ := v
  obtain ⟨u, rfl⟩ := frx_fd hF
  clear hF
  simp only [Try.f19, Option.getD_some, regOf] at hc
  injection hc with hc
  subst hc
  go_wp2
  exact HQ.out _ ⟨rfl, rfl, rfl, rfl, rfl, rfl, rfl, rfl, rfl, rfl, rfl⟩
theorem fd_r1 {K : Act → World → Prop} {c : Code} (hc : regOf (Try.f19.body.getD .skip) 1 = some c) (a : Act) {v : Vfd} {wq : World} {R : Option Addr → Nat → World → Prop} {t : ByteArray} {z : Int} {n : Nat} (hF : Ffd a v) (h0v : v.v0 = .string t) (hE : Calls Try.prog 33 #[.string ⟨#[116, 42, 116]⟩, .string t] wq fun e w' => ∃ (oo : Option Addr) (oc : Nat), e = .returned (.tuple #[.slice oo n oc, .int .i64 z]) ∧ R oo oc w')
    (hQ : ∀ a' w1 oo oc, Ffd a' { v with v5 := .slice oo n oc, v6 := .int .i64 z } → R oo oc w1 → K a' w1) :
    Code.wp Try.prog c (Exit.then K fun _ _ _ => False) a wq := by
  have HQ := hide hQ
  clear hQ
  obtain ⟨v0, v2, v3, v4, v5, v6, v7, v8, v9⟩ := v
  simp only at h0v HQ
  subst h0v
  obtain ⟨u, rfl⟩ := frx_fd hF
  clear hF
  simp only [Try.f19, Option.getD_some, regOf] at hc
  injection hc with hc
  subst hc
  have HE := hide hE
  clear hE
  go_wp2_with (go_at_call 33; refine HE.out.mono ?_; rintro e w1 ⟨oo, oc, rfl, r1⟩; have R1 := hide r1; clear r1)
  exact HQ.out _ _ _ _ ⟨rfl, rfl, rfl, rfl, rfl, rfl, rfl, rfl, rfl, rfl, rfl⟩ R1.out
theorem fd_r2y {K : Act → World → Prop} {c : Code} (hc : regOf (Try.f19.body.getD .skip) 2 = some c) (a : Act) {v : Vfd} {wq : World} {z : Int} (hF : Ffd a v) (h6v : v.v6 = .int .i64 z) (hz : z ≠ 0) (hQ : ∀ a', Ffd a' v → a'.tmps.getD 16 undef = .bool true → K a' wq) :
    Code.wp Try.prog c (Exit.then K fun _ _ _ => False) a wq := by
  have HQ := hide hQ
  clear hQ
  obtain ⟨v0, v2, v3, v4, v5, v6, v7, v8, v9⟩ := v
  simp only at h6v HQ
  subst h6v
  obtain ⟨u, rfl⟩ := frx_fd hF
  clear hF
  simp only [Try.f19, Option.getD_some, regOf] at hc
  injection hc with hc
  subst hc
  have hd : (z != 0) = true := by simp [hz]
  go_wp2
  exact HQ.out _ ⟨rfl, rfl, rfl, rfl, rfl, rfl, rfl, rfl, rfl, rfl, rfl⟩ (by first | rfl | (simp; done))
theorem fd_r2n {K : Act → World → Prop} {c : Code} (hc : regOf (Try.f19.body.getD .skip) 2 = some c) (a : Act) {v : Vfd} {wq : World}  (hF : Ffd a v) (h6v : v.v6 = .int .i64 0) (hQ : ∀ a', Ffd a' v → a'.tmps.getD 16 undef = .bool false → K a' wq) :
    Code.wp Try.prog c (Exit.then K fun _ _ _ => False) a wq := by
  have HQ := hide hQ
  clear hQ
  obtain ⟨v0, v2, v3, v4, v5, v6, v7, v8, v9⟩ := v
  simp only at h6v HQ
  subst h6v
  obtain ⟨u, rfl⟩ := frx_fd hF
  clear hF
  simp only [Try.f19, Option.getD_some, regOf] at hc
  injection hc with hc
  subst hc
  go_wp2
  exact HQ.out _ ⟨rfl, rfl, rfl, rfl, rfl, rfl, rfl, rfl, rfl, rfl, rfl⟩ (by first | rfl | (simp; done))
theorem fd_r3 {K : Act → World → Prop} {c : Code} (hc : regOf (Try.f19.body.getD .skip) 3 = some c) (a : Act) {v : Vfd} {wq : World} {rb : Nat} {z0 z1 : Value} {z : Int} (hF : Ffd a v) (h2v : v.v2 = .pointer (some ⟨rb, 0, none⟩)) (h6v : v.v6 = .int .i64 z) (hR : wq.heap[rb]? = some (.cells #[z0, z1] tView (0, 0))) 
    (hQ : ∀ a', Ffd a' { v with v3 := .slice none 0 0, v4 := .int .i64 z } → K a' ((wq.setCell ⟨rb, 0, none⟩ (.int .i64 0)).setCell ⟨rb, 1, none⟩ (.slice none 0 0))) :
    Code.wp Try.prog c (Exit.then K fun _ _ _ => False) a wq := by
  have HQ := hide hQ
  clear hQ
  obtain ⟨v0, v2, v3, v4, v5, v6, v7, v8, v9⟩ := v
  simp only at h2v h6v HQ
  subst h2v h6v
  obtain ⟨u, rfl⟩ := frx_fd hF
  clear hF
  simp only [Try.f19, Option.getD_some, regOf] at hc
  injection hc with hc
  subst hc
  have f0 := box_free hR 0
  have f1 := box_free hR 1
  have x0 := box_cell hR 0 rfl
  have x1 := box_cell hR 1 rfl
  clear hR
  go_wp2
  exact HQ.out _ ⟨rfl, rfl, rfl, rfl, rfl, rfl, rfl, rfl, rfl, rfl, rfl⟩
theorem fd_r7 {K : Act → World → Prop} {c : Code} (hc : regOf (Try.f19.body.getD .skip) 7 = some c) (a : Act) {v : Vfd} {wq : World} {rb : Nat} {z0 z1 : Value} (hF : Ffd a v) (h2v : v.v2 = .pointer (some ⟨rb, 0, none⟩)) (hR : wq.heap[rb]? = some (.cells #[z0, z1] tView (0, 0))) 
    (hQ : ∀ a', Ffd a' { v with v3 := .slice none 0 0, v4 := .int .i64 10 } → K a' ((wq.setCell ⟨rb, 0, none⟩ (.int .i64 0)).setCell ⟨rb, 1, none⟩ (.slice none 0 0))) :
    Code.wp Try.prog c (Exit.then K fun _ _ _ => False) a wq := by
  have HQ := hide hQ
  clear hQ
  obtain ⟨v0, v2, v3, v4, v5, v6, v7, v8, v9⟩ := v
  simp only at h2v HQ
  subst h2v
  obtain ⟨u, rfl⟩ := frx_fd hF
  clear hF
  simp only [Try.f19, Option.getD_some, regOf] at hc
  injection hc with hc
  subst hc
  have f0 := box_free hR 0
  have f1 := box_free hR 1
  have x0 := box_cell hR 0 rfl
  have x1 := box_cell hR 1 rfl
  clear hR
  go_wp2
  exact HQ.out _ ⟨rfl, rfl, rfl, rfl, rfl, rfl, rfl, rfl, rfl, rfl, rfl⟩
theorem fd_r4 {K : Act → World → Prop} {c : Code} (hc : regOf (Try.f19.body.getD .skip) 4 = some c) (a : Act) {v : Vfd} {wq : World} {g n oc : Nat} {xk xn : Int} {xs : ByteArray} {ao1 : Option Addr} (hF : Ffd a v) (h5v : v.v5 = .slice (some ⟨g, 0, none⟩) n oc) (hao1 : ao1 = if oc = 1 then some ⟨g, 0, none⟩ else some ⟨g, 3, none⟩) (hn : 1 ≤ n) (hnc : n ≤ oc) (y0 : wq.cell? ⟨g, 0, none⟩ = some (.int .i64 xk)) (y1 : wq.cell? ⟨g, 1, none⟩ = some (.int .u64 xn)) (y2 : wq.cell? ⟨g, 2, none⟩ = some (.string xs)) (hg : g < wq.heap.size)
    (hQ : ∀ a' w', Ffd a' { v with v7 := .pointer (some ⟨wq.heap.size, 0, none⟩), v8 := .slice ao1 (n - 1) (oc - 1) } → w'.heap[wq.heap.size]? = some (.cells #[.int .i64 xk, .int .u64 xn, .string xs] tItem (0, 0)) → Below wq.heap.size wq w' → K a' w') :
    Code.wp Try.prog c (Exit.then K fun _ _ _ => False) a wq := by
  have HQ := hide hQ
  clear hQ
  obtain ⟨v0, v2, v3, v4, v5, v6, v7, v8, v9⟩ := v
  simp only at h5v HQ
  subst h5v
  obtain ⟨u, rfl⟩ := frx_fd hF
  clear hF
  simp only [Try.f19, Option.getD_some, regOf] at hc
  injection hc with hc
  subst hc
  have hi : (0 : Int) < (n : Int) := by omega
  have hs1 := items_from (ao := some ⟨g, 0, none⟩) (g := g) (n := n) (oc := oc) rfl hao1 hn hnc
  subst hao1
  go_region
  refine HQ.out _ _ ⟨rfl, rfl, rfl, rfl, rfl, rfl, rfl, rfl, rfl, rfl, rfl⟩ ?_ ?_
  · exact heap_alloc_new _ _
  · exact ((Below.refl _ _).alloc (Nat.le_refl _) _).drew
theorem fd_r5 {K : Act → World → Prop} {c : Code} (hc : regOf (Try.f19.body.getD .skip) 5 = some c) (a : Act) {v : Vfd} {wq : World} {R : Option Addr → Nat → World → Prop} {xb m : Nat} {xk xn num z : Int} {xs : ByteArray} (hF : Ffd a v) (h7v : v.v7 = .pointer (some ⟨xb, 0, none⟩)) (hX : wq.heap[xb]? = some (.cells #[.int .i64 xk, .int .u64 xn, .string xs] tItem (0, 0))) (hE : Calls Try.prog 34 #[.string xs] wq fun e w' => ∃ (ro : Option Addr) (rc : Nat), e = .returned (.tuple #[.agg #[.int .i64 num, .slice ro m rc], .int .i64 z]) ∧ R ro rc w')
    (hQ : ∀ a' w1 ro rc, Ffd a' { v with v6 := .int .i64 z, v9 := .pointer (some ⟨w1.heap.size, 0, none⟩) } → R ro rc w1 → K a' (w1.alloc (.cells #[.int .i64 num, .slice ro m rc] tView))) :
    Code.wp Try.prog c (Exit.then K fun _ _ _ => False) a wq := by
  have HQ := hide hQ
  clear hQ
  obtain ⟨v0, v2, v3, v4, v5, v6, v7, v8, v9⟩ := v
  simp only at h7v HQ
  subst h7v
  obtain ⟨u, rfl⟩ := frx_fd hF
  clear hF
  simp only [Try.f19, Option.getD_some, regOf] at hc
  injection hc with hc
  subst hc
  have HE := hide hE
  have x2 := box_cell hX 2 rfl
  clear hE hX
  go_wp2_with (go_at_call 34; refine HE.out.mono ?_; rintro e w1 ⟨ro, rc, rfl, r1⟩; have R1 := hide r1; clear r1)
  exact HQ.out _ _ _ _ ⟨rfl, rfl, rfl, rfl, rfl, rfl, rfl, rfl, rfl, rfl, rfl⟩ R1.out
theorem fd_r6a {K : Act → World → Prop} {c : Code} (hc : regOf (Try.f19.body.getD .skip) 6 = some c) (a : Act) {v : Vfd} {wq : World} {z : Int} (hF : Ffd a v) (h6v : v.v6 = .int .i64 z) (hz : z ≠ 0) (hQ : ∀ a', Ffd a' v → a'.tmps.getD 36 undef = .bool true → K a' wq) :
    Code.wp Try.prog c (Exit.then K fun _ _ _ => False) a wq := by
  have HQ := hide hQ
  clear hQ
  obtain ⟨v0, v2, v3, v4, v5, v6, v7, v8, v9⟩ := v
  simp only at h6v HQ
  subst h6v
  obtain ⟨u, rfl⟩ := frx_fd hF
  clear hF
  simp only [Try.f19, Option.getD_some, regOf] at hc
  injection hc with hc
  subst hc
  have hd : (z != 0) = true := by simp [hz]
  go_wp2
  exact HQ.out _ ⟨rfl, rfl, rfl, rfl, rfl, rfl, rfl, rfl, rfl, rfl, rfl⟩ (by first | rfl | (simp; done))
theorem fd_r6b {K : Act → World → Prop} {c : Code} (hc : regOf (Try.f19.body.getD .skip) 6 = some c) (a : Act) {v : Vfd} {wq : World} {ao : Option Addr} {n cq : Nat} (hF : Ffd a v) (h6v : v.v6 = .int .i64 0) (h8v : v.v8 = .slice ao n cq) (hn : 990 < n) (hQ : ∀ a', Ffd a' v → a'.tmps.getD 36 undef = .bool true → K a' wq) :
    Code.wp Try.prog c (Exit.then K fun _ _ _ => False) a wq := by
  have HQ := hide hQ
  clear hQ
  obtain ⟨v0, v2, v3, v4, v5, v6, v7, v8, v9⟩ := v
  simp only at h6v h8v HQ
  subst h6v h8v
  obtain ⟨u, rfl⟩ := frx_fd hF
  clear hF
  simp only [Try.f19, Option.getD_some, regOf] at hc
  injection hc with hc
  subst hc
  have hd : decide ((990 : Int) < (n : Int)) = true := decide_eq_true (by omega)
  go_wp2
  exact HQ.out _ ⟨rfl, rfl, rfl, rfl, rfl, rfl, rfl, rfl, rfl, rfl, rfl⟩ (by first | rfl | (simp; done))
theorem fd_r6n {K : Act → World → Prop} {c : Code} (hc : regOf (Try.f19.body.getD .skip) 6 = some c) (a : Act) {v : Vfd} {wq : World} {ao : Option Addr} {n cq : Nat} (hF : Ffd a v) (h6v : v.v6 = .int .i64 0) (h8v : v.v8 = .slice ao n cq) (hn : n ≤ 990) (hQ : ∀ a', Ffd a' v → a'.tmps.getD 36 undef = .bool false → K a' wq) :
    Code.wp Try.prog c (Exit.then K fun _ _ _ => False) a wq := by
  have HQ := hide hQ
  clear hQ
  obtain ⟨v0, v2, v3, v4, v5, v6, v7, v8, v9⟩ := v
  simp only at h6v h8v HQ
  subst h6v h8v
  obtain ⟨u, rfl⟩ := frx_fd hF
  clear hF
  simp only [Try.f19, Option.getD_some, regOf] at hc
  injection hc with hc
  subst hc
  have hd : decide ((990 : Int) < (n : Int)) = false := decide_eq_false (by omega)
  go_wp2
  exact HQ.out _ ⟨rfl, rfl, rfl, rfl, rfl, rfl, rfl, rfl, rfl, rfl, rfl⟩ (by first | rfl | (simp; done))
theorem fd_r8 {K : Act → World → Prop} {c : Code} (hc : regOf (Try.f19.body.getD .skip) 8 = some c) (a : Act) {v : Vfd} {wq : World} {R : Option Addr → Nat → World → Prop} {rb vb n cq m mc : Nat} {z0 z1 : Value} {num : Int} {ao mo : Option Addr} (hF : Ffd a v) (h2v : v.v2 = .pointer (some ⟨rb, 0, none⟩)) (h9v : v.v9 = .pointer (some ⟨vb, 0, none⟩)) (h8v : v.v8 = .slice ao n cq) (hR : wq.heap[rb]? = some (.cells #[z0, z1] tView (0, 0))) (hV : wq.heap[vb]? = some (.cells #[.int .i64 num, .slice mo m mc] tView (0, 0))) (hT : ∀ W, Below wq.heap.size wq W → Calls Try.prog 35 #[.slice ao n cq] W fun e w' => ∃ (to' : Option Addr) (tc : Nat), e = .returned (.slice to' n tc) ∧ Below wq.heap.size wq w' ∧ R to' tc w')
    (hQ : ∀ a' w1 to' tc, Ffd a' { v with v3 := .slice to' n tc, v4 := .int .i64 0 } → Below wq.heap.size wq w1 → R to' tc w1 → K a' ((w1.setCell ⟨rb, 0, none⟩ (.int .i64 num)).setCell ⟨rb, 1, none⟩ (.slice mo m mc))) :
    Code.wp Try.prog c (Exit.then K fun _ _ _ => False) a wq := by
  have HQ := hide hQ
  clear hQ
  obtain ⟨v0, v2, v3, v4, v5, v6, v7, v8, v9⟩ := v
  simp only at h2v h9v h8v HQ
  subst h2v h9v h8v
  obtain ⟨u, rfl⟩ := frx_fd hF
  clear hF
  simp only [Try.f19, Option.getD_some, regOf] at hc
  injection hc with hc
  subst hc
  have HR := hide hR
  have HV := hide hV
  have f0 := box_free hR 0
  have f1 := box_free hR 1
  have x0 := box_cell hR 0 rfl
  have x1 := box_cell hR 1 rfl
  have t0 := box_cell hV 0 rfl
  have t1 := box_cell hV 1 rfl
  have HT := hide hT
  clear hT hV hR
  go_region_with (go_at_call 35; refine (HT.out _ (by first | exact Below.refl _ _ | exact (Below.refl _ _).drew | exact below_drewN (Below.refl _ _) _)).mono ?_; rintro e w1 ⟨to', tc, rfl, b1, r1⟩; have R1 := hide r1; have B1 := hide b1; have XR := (b1.block _ (heap_lt HR.out)).trans HR.out; have XV := (b1.block _ (heap_lt HV.out)).trans HV.out; have g0 := box_free XR 0; have g1 := box_free XR 1; have s0 := box_cell XR 0 rfl; have s1 := box_cell XR 1 rfl; have u0 := box_cell XV 0 rfl; have u1 := box_cell XV 1 rfl; clear r1 b1 XR XV)
  all_goals exact HQ.out _ _ _ _ ⟨rfl, rfl, rfl, rfl, rfl, rfl, rfl, rfl, rfl, rfl, rfl⟩ B1.out R1.out
end Go.Proofs.Ytfcpclpaalekiaa
namespace Go.Proofs.Ytfcpclpaalekiaa
open Go.RowKit
set_option maxHeartbeats 8000000
set_option maxRecDepth 100000
attribute [local go_sem ↓] Go.wp_at_zero Go.wp_at_succ
set_option linter.unusedSimpArgs false
set_option linter.unusedVariables false
structure FGave (w w' : World) (e : Ending) (r : VW × List ByteArray × Int) : Prop where
  res : ∃ ro rc to' tc, e = .returned (.tuple #[r.1.v ro rc, .slice to' r.2.1.length tc, .int .i64 r.2.2]) ∧ w'.ownsRow w.heap.size tMember 2 (.slice ro r.1.mem.length rc) r.1.mem.length (mbCells r.1.mem) ∧ w'.ownsRow w.heap.size 9 1 (.slice to' r.2.1.length tc) r.2.1.length (textC r.2.1)
  below : Below w.heap.size w w'
theorem fd_ret {w W : World} {a : Act} {v : Vfd} {rb : Nat} {r : VW × List ByteArray × Int} {ro to' : Option Addr} {rc tc : Nat} (hF : Ffd a v) (h2 : v.v2 = .pointer (some ⟨rb, 0, none⟩)) (h3 : v.v3 = .slice to' r.2.1.length tc) (h4 : v.v4 = .int .i64 r.2.2) (hR : W.heap[rb]? = some (.cells #[.int .i64 r.1.num, .slice ro r.1.mem.length rc] tView (0, 0))) (hrow : W.ownsRow w.heap.size tMember 2 (.slice ro r.1.mem.length rc) r.1.mem.length (mbCells r.1.mem)) (hrow2 : W.ownsRow w.heap.size 9 1 (.slice to' r.2.1.length tc) r.2.1.length (textC r.2.1)) (hB : Below w.heap.size w W) :
    bodyPost Try.prog Try.f19 (fun e w' => FGave w w' e r) .ret a W := by
  have g2 := slot_get (hF.s2.trans h2)
  have g3 := slot_get (hF.s3.trans h3)
  have g4 := slot_get (hF.s4.trans h4)
  have e0 := box_cell hR 0 rfl
  have e1 := box_cell hR 1 rfl
  refine bodyPost_ret (v := .tuple #[.agg #[.int .i64 r.1.num, .slice ro r.1.mem.length rc], .slice to' r.2.1.length tc, .int .i64 r.2.2]) ?_ hF.defers ⟨⟨ro, rc, to', tc, rfl, hrow, hrow2⟩, hB⟩
  simp [results, Try.results19, go_sem, g2, g3, g4, e0, e1]
theorem text_not_view {w : World} {B n : Nat} {v : Value} {xs : List Value} {ob : Nat} {cs : Array Value} (h : w.ownsRow B 9 1 v n xs) (hv : w.heap[ob]? = some (.cells cs tView (0, 0))) : v.ownBlock = none ∨ v.ownBlock ≠ some ob := by
  rcases h.2 with ⟨rfl, _⟩ | ⟨g, cap, cur, rfl, _, hgb, _⟩
  · exact .inl rfl
  · refine .inr fun e' => ?_
    obtain rfl : g = ob := by simpa [Value.ownBlock] using e'
    rw [hv] at hgb
    injection hgb with hgb
    injection hgb with _ hgb _
    exact absurd hgb (by decide)
theorem fdecode (t : ByteArray) (w : World) (hs : t.size ≤ 9223372036854775807) :
    Calls Try.prog 19 #[.string t] w fun e w' => FGave w w' e (decL t.data.toList) := by
  obtain ⟨R, hR⟩ : ∃ R, K.decF shapeL t.data.toList = R := ⟨_, rfl⟩
  have HD := fun W => K.decode_any ⟨#[116, 42, 116]⟩ t W (by unfold maxLen; decide) (by unfold maxLen; omega) R hR
  obtain ⟨T, hT⟩ : ∃ T, decL t.data.toList = T := ⟨_, rfl⟩
  rw [hT]
  have X0 := heap_alloc_new w (.cells #[.int .i64 0, .slice none 0 0] tView)
  have B0 := (Below.refl w.heap.size w).alloc (Nat.le_refl _) (.cells #[.int .i64 0, .slice none 0 0] tView)
  go_enter Try.func19, Try.ntmps19
  refine wp_seq (reg_mono (fd_r0 (by kernel_rfl) _ (v := ⟨_, _, _, _, _, _, _, _, _⟩) ⟨rfl, rfl, rfl, rfl, rfl, rfl, rfl, rfl, rfl, rfl, rfl⟩ ?_))
  intro a0 F0
  try dsimp only at F0
  generalize w.alloc _ = w0 at *
  have hd : Calls Try.prog 33 #[.string ⟨#[116, 42, 116]⟩, .string t] w0 fun e w' => ∃ (oo : Option Addr) (oc : Nat), e = .returned (.tuple #[.slice oo R.1.length oc, .int .i64 R.2]) ∧ (w'.ownsRow w0.heap.size tItem 3 (.slice oo R.1.length oc) R.1.length (itCells R.1) ∧ Below w0.heap.size w0 w') := by
    refine (HD w0).mono ?_
    rintro e w' ⟨vv, rfl, h2, h3⟩
    obtain ⟨oo, oc, rfl⟩ := row_slice h2
    exact ⟨oo, oc, rfl, h2, h3⟩
  refine wp_seq (reg_mono (fd_r1 (R := fun oo oc W => W.ownsRow w0.heap.size tItem 3 (.slice oo R.1.length oc) R.1.length (itCells R.1) ∧ Below w0.heap.size w0 W) (by kernel_rfl) _ F0 rfl hd ?_))
  rintro a1 w1 oo oc F1 ⟨row1, b1⟩
  try dsimp only at F1
  have X1 := (b1.block _ (heap_lt X0)).trans X0
  have B1 := B0.trans (b1.mono B0.size)
  by_cases h0 : R.2 = 0
  case neg =>
    have hTT : T = (⟨0, []⟩, [], R.2) := by
      rw [← hT]
      unfold decL
      rw [hR, if_pos h0]
    refine wp_seq (wp_seq (reg_mono (fd_r2y (by kernel_rfl) _ F1 rfl h0 ?_)))
    intro a2 F2 g2
    refine wp_cond_true g2 ?_
    refine wp_seq (reg_mono (fd_r3 (by kernel_rfl) _ F2 rfl rfl X1 ?_))
    intro a3 F3
    refine wp_ret ?_
    try dsimp only [Exit.then, Exit.inBlock]
    subst hTT
    exact fd_ret (r := (⟨0, []⟩, [], R.2)) F3 rfl rfl rfl (box_set (box_set X1 0 (.int .i64 0)) 1 (.slice none 0 0)) (World.ownsRow_nil _ _ _ _) (World.ownsRow_nil _ _ _ _) ((B1.setCell (p := ⟨w.heap.size, 0, none⟩) (Nat.le_refl _) _).setCell (p := ⟨w.heap.size, 1, none⟩) (Nat.le_refl _) _)
  obtain ⟨x, log, e1, e2, e3, e4, e5⟩ := decF_L (s := t.data.toList) (by rw [hR]; exact h0)
  rw [hR] at e1
  have hTT : T = if (decV x.data.toList).2 = 0 ∧ log.length + 1 ≤ 991 then ((decV x.data.toList).1, log, 0) else (⟨0, []⟩, [], 10) := by
    rw [← hT]
    unfold decL
    rw [hR, if_neg (fun e => e h0), e1]
    simp only [List.headD_cons, List.tail_cons, tail_log, List.length_cons, List.length_map]
    rfl
  rw [h0] at F1
  rw [e1] at row1 F1
  have hlen : (txI x :: log.map txI).length = log.length + 1 := by simp
  rw [hlen] at row1 F1
  clear hT hR HD hd e1 e2 h0 hlen
  refine wp_seq (wp_seq (reg_mono (fd_r2n (by kernel_rfl) _ F1 rfl ?_)))
  intro a2 F2 g2
  refine wp_cond_false g2 (wp_skip ?_)
  show Code.wp _ _ _ _ _
  obtain ⟨g, rfl, hnc⟩ : ∃ g, oo = some ⟨g, 0, none⟩ ∧ log.length + 1 ≤ oc := by
    rcases row1.2 with ⟨_, h2⟩ | ⟨g, cap, cur, hv, hg, hh, h3, _⟩
    · omega
    · exact ⟨g, (Value.slice.inj hv).1, by have := (Value.slice.inj hv).2.2; omega⟩
  have IA := its_of_row (L := txI x :: log.map txI) row1 (by simp)
  have IC : ∀ i (hi : i < (txI x :: log.map txI).length), w1.cell? ⟨g, i * 3, none⟩ = some (.int .i64 4) ∧ w1.cell? ⟨g, i * 3 + 1, none⟩ = some (.int .u64 0) ∧ w1.cell? ⟨g, i * 3 + 2, none⟩ = some (.string (txI x :: log.map txI)[i].s) ∧ g < w1.heap.size := fun i hi => by
    obtain ⟨b, off, h1, h2, h3, h4, h5⟩ := IA i hi
    obtain ⟨rfl, rfl⟩ : g = b ∧ 0 = off := by injection h1 with h1; injection h1 with h1 h2 _; exact ⟨h1, h2⟩
    have hk : (txI x :: log.map txI)[i].k = 4 ∧ (txI x :: log.map txI)[i].n = 0 := by
      cases i with
      | zero => exact ⟨rfl, rfl⟩
      | succ i => simp [txI]
    rw [hk.1] at h3
    rw [hk.2] at h4
    rw [Nat.zero_add] at h3 h4 h5
    exact ⟨h3, h4, h5, h2⟩
  obtain ⟨c0, c1, c2, hgl⟩ := IC 0 (by simp)
  refine wp_seq (reg_mono (fd_r4 (by kernel_rfl) _ F2 rfl rfl (by omega) hnc c0 c1 c2 hgl ?_))
  intro a4 w4 F4 X4 b4
  try dsimp only at F4
  generalize hao1 : (if oc = 1 then some (⟨g, 0, none⟩ : Addr) else some ⟨g, 3, none⟩) = ao1 at F4
  have TA : ∀ W, Below w1.heap.size w1 W → ItsAt W ao1 (log.map txI) := fun W b i hi => by
    have hi2 : i + 1 < (txI x :: log.map txI).length := by simpa using hi
    obtain ⟨d0, d1, d2, _⟩ := IC (i + 1) hi2
    have hoc : ¬ oc = 1 := by rw [List.length_map] at hi; omega
    rw [if_neg hoc] at hao1
    have hk : (log.map txI)[i].k = 4 ∧ (log.map txI)[i].n = 0 := by simp [txI]
    refine ⟨g, 3, hao1.symm, Nat.lt_of_lt_of_le hgl b.size, ?_, ?_, ?_⟩
    · rw [hk.1, b.cell (p := ⟨g, _, none⟩) hgl, show 3 + i * 3 = (i + 1) * 3 by omega]; exact d0
    · rw [hk.2, b.cell (p := ⟨g, _, none⟩) hgl, show 3 + i * 3 + 1 = (i + 1) * 3 + 1 by omega]; exact d1
    · rw [b.cell (p := ⟨g, _, none⟩) hgl, show 3 + i * 3 + 2 = (i + 1) * 3 + 2 by omega]; exact d2
  have X1b := (b4.block _ (heap_lt X1)).trans X1
  have B4 := B1.trans (b4.mono B1.size)
  have hvd : Calls Try.prog 34 #[.string x] w4 fun e w' => ∃ (ro : Option Addr) (rc : Nat), e = .returned (.tuple #[.agg #[.int .i64 (decV x.data.toList).1.num, .slice ro (decV x.data.toList).1.mem.length rc], .int .i64 (decV x.data.toList).2]) ∧ (w'.ownsRow w4.heap.size tMember 2 (.slice ro (decV x.data.toList).1.mem.length rc) (decV x.data.toList).1.mem.length (mbCells (decV x.data.toList).1.mem) ∧ Below w4.heap.size w4 w') := by
    refine (pdecode x w4 (by omega)).mono ?_
    rintro e w' ⟨⟨ro, rc, h1, h2⟩, h3⟩
    exact ⟨ro, rc, h1, h2, h3⟩
  have hfor : ∀ {V : VW × Int}, decV x.data.toList = V → (T = if V.2 = 0 ∧ log.length + 1 ≤ 991 then (V.1, log, 0) else (⟨0, []⟩, [], 10)) := fun h => by rw [← h]; exact hTT
  obtain ⟨V, hV⟩ : ∃ V, decV x.data.toList = V := ⟨_, rfl⟩
  have hTV := hfor hV
  rw [hV] at hvd
  clear hTT hfor hV IA IC c0 c1 c2
  refine wp_seq (reg_mono (fd_r5 (R := fun ro rc W => W.ownsRow w4.heap.size tMember 2 (.slice ro V.1.mem.length rc) V.1.mem.length (mbCells V.1.mem) ∧ Below w4.heap.size w4 W) (by kernel_rfl) _ F4 rfl X4 hvd ?_))
  rintro a5 w5 ro rc F5 ⟨row5, b5⟩
  try dsimp only at F5
  have X1c := (b5.block _ (heap_lt X1b)).trans X1b
  have B5 := B4.trans (b5.mono B4.size)
  have bu := (Below.refl w5.heap.size w5).alloc (Nat.le_refl _) (.cells #[.int .i64 V.1.num, .slice ro V.1.mem.length rc] tView)
  have X6 := heap_alloc_new w5 (.cells #[.int .i64 V.1.num, .slice ro V.1.mem.length rc] tView)
  have row6 := below_row bu row5
  have X1d := (bu.block _ (heap_lt X1c)).trans X1c
  have B6 := B5.trans (bu.mono B5.size)
  have b16 := b4.trans ((b5.mono b4.size).trans (bu.mono (by have := b4.size; have := b5.size; omega)))
  have hvb : w5.heap.size ≠ w.heap.size := by have := heap_lt X1c; omega
  generalize w5.heap.size = vb at *
  generalize w5.alloc _ = w6 at *
  have fin : ∀ {a7 : Act} {F : Vfd} (F7 : Ffd a7 F), F.v2 = .pointer (some ⟨w.heap.size, 0, none⟩) → F.v3 = .slice none 0 0 → F.v4 = .int .i64 10 → T = (⟨0, []⟩, [], 10) → bodyPost Try.prog Try.f19 (fun e w' => FGave w w' e T) .ret a7 ((w6.setCell ⟨w.heap.size, 0, none⟩ (.int .i64 0)).setCell ⟨w.heap.size, 1, none⟩ (.slice none 0 0)) := fun F7 h2 h3 h4 e => by
    subst e
    exact fd_ret (r := (⟨0, []⟩, [], 10)) F7 h2 h3 h4 (box_set (box_set X1d 0 (.int .i64 0)) 1 (.slice none 0 0)) (World.ownsRow_nil _ _ _ _) (World.ownsRow_nil _ _ _ _) ((B6.setCell (p := ⟨w.heap.size, 0, none⟩) (Nat.le_refl _) _).setCell (p := ⟨w.heap.size, 1, none⟩) (Nat.le_refl _) _)
  by_cases hz : V.2 = 0
  case neg =>
    refine wp_seq (wp_seq (reg_mono (fd_r6a (by kernel_rfl) _ F5 rfl hz ?_)))
    intro a6 F6 g6
    refine wp_cond_true g6 ?_
    refine wp_seq (reg_mono (fd_r7 (by kernel_rfl) _ F6 rfl X1d ?_))
    intro a7 F7
    refine wp_ret ?_
    try dsimp only [Exit.then, Exit.inBlock]
    exact fin F7 rfl rfl rfl (by rw [hTV, if_neg (fun h => hz h.1)])
  rw [hz] at F5
  by_cases h9 : 990 < log.length + 1 - 1
  · refine wp_seq (wp_seq (reg_mono (fd_r6b (by kernel_rfl) _ F5 rfl rfl h9 ?_)))
    intro a6 F6 g6
    refine wp_cond_true g6 ?_
    refine wp_seq (reg_mono (fd_r7 (by kernel_rfl) _ F6 rfl X1d ?_))
    intro a7 F7
    refine wp_ret ?_
    try dsimp only [Exit.then, Exit.inBlock]
    exact fin F7 rfl rfl rfl (by rw [hTV, if_neg (fun h => by have := h.2; omega)])
  refine wp_seq (wp_seq (reg_mono (fd_r6n (by kernel_rfl) _ F5 rfl rfl (by omega) ?_)))
  intro a6 F6 g6
  refine wp_cond_false g6 (wp_skip ?_)
  show Code.wp _ _ _ _ _
  have hT8 : T = (V.1, log, 0) := by rw [hTV, if_pos ⟨hz, by omega⟩]
  have htx : ∀ W, Below w6.heap.size w6 W → Calls Try.prog 35 #[.slice ao1 (log.length + 1 - 1) (oc - 1)] W fun e w' => ∃ (to' : Option Addr) (tc : Nat), e = .returned (.slice to' (log.length + 1 - 1) tc) ∧ Below w6.heap.size w6 w' ∧ (w'.ownsRow w6.heap.size 9 1 (.slice to' log.length tc) log.length (textC log)) := fun W b => by
    have hml : (log.map txI).length = log.length := List.length_map _
    have := ftexts ao1 (oc - 1) (log.map txI) W (TA W (b16.trans (b.mono b16.size))) (by rw [hml]; omega)
    rw [tail_log, hml] at this
    rw [show log.length + 1 - 1 = log.length by omega]
    exact this.mono fun e w' ⟨ro, rc, h1, h2, h3⟩ => ⟨ro, rc, h1, b.trans (h3.mono b.size), ownsRow_base h2 b.size⟩
  refine wp_seq (reg_mono (fd_r8 (R := fun to' tc W => W.ownsRow w6.heap.size 9 1 (.slice to' log.length tc) log.length (textC log)) (by kernel_rfl) _ F6 rfl rfl rfl X1d X6 htx ?_))
  rintro a8 w8 to' tc F8 b8 row8
  try dsimp only at F8
  refine wp_ret ?_
  try dsimp only [Exit.then, Exit.inBlock]
  subst hT8
  rw [show log.length + 1 - 1 = log.length by omega] at F8
  have X8 := (b8.block _ (heap_lt X1d)).trans X1d
  have row9 := below_row b8 row6
  have B8 := B6.trans (b8.mono B6.size)
  exact fd_ret (r := (V.1, log, 0)) F8 rfl rfl rfl (box_set (box_set X8 0 (.int .i64 V.1.num)) 1 (.slice ro V.1.mem.length rc)) ((ownsRow_base row9 B4.size).kept (grownBy_set2 _ _ _ _) (row_not_view row9 X8)) ((ownsRow_base row8 B6.size).kept (grownBy_set2 _ _ _ _) (text_not_view row8 X8)) ((B8.setCell (p := ⟨w.heap.size, 0, none⟩) (Nat.le_refl _) _).setCell (p := ⟨w.heap.size, 1, none⟩) (Nat.le_refl _) _)
end Go.Proofs.Ytfcpclpaalekiaa
namespace Go.Proofs.Ytfcpclpaalekiaa
open Go.RowKit Go.Shelf
attribute [local go_sem ↓] Go.wp_at_zero Go.wp_at_succ
set_option linter.unusedSimpArgs false
set_option linter.unusedVariables false
theorem mostF_nil_or {l : List (List ByteArray)} (h : LogsOk l) : (longF l).1.length ≤ 8796093021952 ∧ ∀ s ∈ (longF l).1, s.size ≤ 140737488351232 := by
  by_cases e : l = []
  · unfold longF
    rw [if_pos e]
    exact ⟨Nat.zero_le _, fun s hs => by cases hs⟩
  · rw [longF_most l e]
    split
    · exact mostF_ok h
    · exact ⟨Nat.zero_le _, fun s hs => by cases hs⟩
end Go.Proofs.Ytfcpclpaalekiaa
