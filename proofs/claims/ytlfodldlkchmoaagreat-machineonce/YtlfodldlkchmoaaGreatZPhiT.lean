/-
  A region that draws its order, by what each of its operations leaves behind, with one operation that turns what is known of the world, and ahead of which it is known what it waits for (out of PhiS; it waits for all that those wait for, too); nothing of the program is in this text.
-/
import Derived.Test.YtlfodldlkchmoaaGreatZJ10
import Derived.Test.YtlfodldlkchmoaaGreatZPhiG
import Derived.Laws.EntriesVeiled
namespace Go.Proofs.YtlfodldlkchmoaaGreat.Y
open Go.RowKit
set_option maxHeartbeats 8000000
set_option maxRecDepth 100000
attribute [local go_sem ↓] Go.wp_at_zero Go.wp_at_succ
set_option linter.unusedSimpArgs false
set_option linter.unusedVariables false
open Go.Maps
def LM.init (b tb sb : Nat) : LM := ⟨b, tb, sb, .map [], .map [], fun _ => ⟨0, 0, none, 0⟩, fun j => if j = b ∨ j = tb ∨ j = sb then some none else none⟩
theorem MAt.init {w : World} {b tb sb : Nat} (hb : w.heap[b]? = some (.cells (mBox (MS.new 0) tb sb) 67 (0, 0))) (ht : w.ownsMap Tryz.prog 9 ptrR tb 0 (.map [])) (hs : w.ownsMap Tryz.prog 9 subR sb 0 (.map [])) (hne : tb ≠ sb) : MAt w (LM.init b tb sb) (MS.new 0) := by
  refine ⟨hb, ht, hs, full_empty, fun k => rfl, fun k => rfl, rfl, rfl, (fun k H e => by cases e), ?_, ?_, ?_, hne, (fun k H e => by cases e), fun j e => ?_⟩
  · unfold LM.init; simp
  · unfold LM.init; simp
  · unfold LM.init; simp
  · unfold LM.init at e
    simp only at e
    by_cases h : j = b ∨ j = tb ∨ j = sb
    · rcases h with rfl | rfl | rfl
      · exact heap_lt hb
      · exact ht.lt
      · exact hs.lt
    · rw [if_neg h] at e; exact absurd rfl e
theorem init_own {b tb sb j B : Nat} (h : (LM.init b tb sb).own j) (h1 : B ≤ b) (h2 : B ≤ tb) (h3 : B ≤ sb) : B ≤ j := by
  unfold LM.own LM.init at h
  simp only at h
  by_cases e : j = b ∨ j = tb ∨ j = sb
  · omega
  · rw [if_neg e] at h; exact absurd rfl h
theorem new_set (k : Nat) (hk : k < 7) : { MS.new k with wan := (MS.new k).wan.set k true } = MS.new (k + 1) := by
  have h7 : k = 0 ∨ k = 1 ∨ k = 2 ∨ k = 3 ∨ k = 4 ∨ k = 5 ∨ k = 6 := by omega
  rcases h7 with rfl | rfl | rfl | rfl | rfl | rfl | rfl <;> rfl
theorem MAt.marked2 {w W : World} {L : LM} {X : MS} (h : MAt w L X) (hl : X.wan.length = 7) (kn : Nat) (hk : kn < 7) (v : Bool) (hW : W = w.setCell ⟨L.b, 3 + kn, none⟩ (.bool v)) : MAt W L { X with wan := X.wan.set kn v } ∧ MStep w W L L := by
  subst hW
  refine h.boxed ((Touch.refl (fun j => j = L.b) w).setCell ⟨L.b, 3 + kn, none⟩ _ fun _ => rfl) ?_ rfl rfl rfl rfl
  rw [← mbox_set X L.tb L.sb kn v hk hl]
  exact wset h.box
theorem frame_me (t : Array Value) (h : t.size = 28) : ∃ u : Nat → Value, t = List.toArray (u 0 :: u 1 :: u 2 :: u 3 :: u 4 :: u 5 :: u 6 :: u 7 :: u 8 :: u 9 :: u 10 :: u 11 :: u 12 :: u 13 :: u 14 :: u 15 :: u 16 :: u 17 :: u 18 :: u 19 :: u 20 :: u 21 :: u 22 :: u 23 :: u 24 :: u 25 :: u 26 :: u 27 :: []) := by
  refine ⟨fun i => t.getD i undef, ?_⟩
  refine Eq.trans (b := ((List.range 28).map fun i => t.getD i undef).toArray) ?_ rfl
  apply Array.ext
  · simp [h]
  · intro k h1 h2
    simp [Array.getD, h1]
structure Vme where
  v0 : Value
  v2 : Value
  v3 : Value
  v4 : Value
  v5 : Value
  v17 : Value
  v18 : Value
structure Fme (a : Act) (v : Vme) : Prop where
  size : a.tmps.size = 28
  defers : a.defers = []
  s0 : a.tmps.getD 0 undef = v.v0
  s2 : a.tmps.getD 2 undef = v.v2
  s3 : a.tmps.getD 3 undef = v.v3
  s4 : a.tmps.getD 4 undef = v.v4
  s5 : a.tmps.getD 5 undef = v.v5
  s17 : a.tmps.getD 17 undef = v.v17
  s18 : a.tmps.getD 18 undef = v.v18
theorem frx_me {a : Act} {v0 v2 v3 v4 v5 v17 v18 : Value} (h : Fme a ⟨v0, v2, v3, v4, v5, v17, v18⟩) : ∃ u : Nat → Value, a = ⟨List.toArray (v0 :: u 1 :: v2 :: v3 :: v4 :: v5 :: u 6 :: u 7 :: u 8 :: u 9 :: u 10 :: u 11 :: u 12 :: u 13 :: u 14 :: u 15 :: u 16 :: v17 :: v18 :: u 19 :: u 20 :: u 21 :: u 22 :: u 23 :: u 24 :: u 25 :: u 26 :: u 27 :: []), []⟩ := by
  obtain ⟨t', d'⟩ := a
  obtain ⟨hs, hd, q0, q2, q3, q4, q5, q17, q18⟩ := h
  obtain ⟨u, hu⟩ := frame_me t' hs
  simp only at hd q0 q2 q3 q4 q5 q17 q18
  subst hu hd
  have e0 : u 0 = v0 := q0
  have e2 : u 2 = v2 := q2
  have e3 : u 3 = v3 := q3
  have e4 : u 4 = v4 := q4
  have e5 : u 5 = v5 := q5
  have e17 : u 17 = v17 := q17
  have e18 : u 18 = v18 := q18
  refine ⟨u, ?_⟩
  rw [e0, e2, e3, e4, e5, e17, e18]
theorem me_r0 {K : Act → World → Prop} {c : Code} (hc : regOf (Tryz.f9.body.getD .skip) 0 = some c) (a : Act) {v : Vme} {wq : World}  (hF : Fme a v) (hQ : ∀ a', Fme a' { v with v2 := .pointer none, v3 := .int .i64 0 } → K a' wq) :
    Code.wp Tryz.prog c (Exit.then K fun _ _ _ => False) a wq := by
  have HQ := hide hQ
  clear hQ
  obtain ⟨v0, v2, v3, v4, v5, v17, v18⟩ := v
  obtain ⟨u, rfl⟩ := frx_me hF
  clear hF
  simp only [Tryz.f9, Option.getD_some, regOf] at hc
  injection hc with hc
  subst hc
  go_wp2
  exact HQ.out _ ⟨rfl, rfl, rfl, rfl, rfl, rfl, rfl, rfl, rfl⟩
theorem me_r1a {K : Act → World → Prop} {c : Code} (hc : regOf (Tryz.f9.body.getD .skip) 1 = some c) (a : Act) {v : Vme} {wq : World} {n : Int} (hF : Fme a v) (h0v : v.v0 = .int .i64 n) (h0 : n < 1) (hQ : ∀ a', Fme a' v → a'.tmps.getD 11 undef = .bool true → K a' wq) :
    Code.wp Tryz.prog c (Exit.then K fun _ _ _ => False) a wq := by
  have HQ := hide hQ
  clear hQ
  obtain ⟨v0, v2, v3, v4, v5, v17, v18⟩ := v
  simp only at h0v HQ
  subst h0v
  obtain ⟨u, rfl⟩ := frx_me hF
  clear hF
  simp only [Tryz.f9, Option.getD_some, regOf] at hc
  injection hc with hc
  subst hc
  go_wp2
  exact HQ.out _ ⟨rfl, rfl, rfl, rfl, rfl, rfl, rfl, rfl, rfl⟩ (by first | rfl | (simp; done))
theorem me_r1b {K : Act → World → Prop} {c : Code} (hc : regOf (Tryz.f9.body.getD .skip) 1 = some c) (a : Act) {v : Vme} {wq : World} {n : Int} (hF : Fme a v) (h0v : v.v0 = .int .i64 n) (h0 : ¬ n < 1) (hQ : ∀ a', Fme a' v → a'.tmps.getD 11 undef = .bool (decide (7 < n)) → K a' wq) :
    Code.wp Tryz.prog c (Exit.then K fun _ _ _ => False) a wq := by
  have HQ := hide hQ
  clear hQ
  obtain ⟨v0, v2, v3, v4, v5, v17, v18⟩ := v
  simp only at h0v HQ
  subst h0v
  obtain ⟨u, rfl⟩ := frx_me hF
  clear hF
  simp only [Tryz.f9, Option.getD_some, regOf] at hc
  injection hc with hc
  subst hc
  have h1 : decide (n < 1) = false := decide_eq_false h0
  go_wp2
  exact HQ.out _ ⟨rfl, rfl, rfl, rfl, rfl, rfl, rfl, rfl, rfl⟩ (by first | rfl | (simp; done))
theorem me_r2 {K : Act → World → Prop} {c : Code} (hc : regOf (Tryz.f9.body.getD .skip) 2 = some c) (a : Act) {v : Vme} {wq : World}  (hF : Fme a v) (hQ : ∀ a', Fme a' { v with v2 := .pointer none, v3 := .int .i64 1 } → K a' wq) :
    Code.wp Tryz.prog c (Exit.then K fun _ _ _ => False) a wq := by
  have HQ := hide hQ
  clear hQ
  obtain ⟨v0, v2, v3, v4, v5, v17, v18⟩ := v
  obtain ⟨u, rfl⟩ := frx_me hF
  clear hF
  simp only [Tryz.f9, Option.getD_some, regOf] at hc
  injection hc with hc
  subst hc
  go_wp2
  exact HQ.out _ ⟨rfl, rfl, rfl, rfl, rfl, rfl, rfl, rfl, rfl⟩
theorem me_r3 {K : Act → World → Prop} {c : Code} (hc : regOf (Tryz.f9.body.getD .skip) 3 = some c) (a : Act) {v : Vme} {wq : World}  (hF : Fme a v) (hE : Calls Tryz.prog 24 #[] wq fun e w' => e = .returned (.agg #[.int .i64 1, .int .i64 0]) ∧ Below wq.heap.size wq w')
    (hQ : ∀ a' w1, Fme a' { v with v4 := .pointer (some ⟨w1.heap.size + 1 + 1, 0, none⟩) } → Below wq.heap.size wq w1 → K a' (((w1.alloc (.map #[] 0)).alloc (.map #[] 0)).alloc (.cells #[.int .i64 0, .int .i64 1, .int .i64 0, .bool false, .bool false, .bool false, .bool false, .bool false, .bool false, .bool false, .map (some w1.heap.size), .map (some (w1.heap.size + 1))] 67))) :
    Code.wp Tryz.prog c (Exit.then K fun _ _ _ => False) a wq := by
  have HQ := hide hQ
  clear hQ
  obtain ⟨v0, v2, v3, v4, v5, v17, v18⟩ := v
  obtain ⟨u, rfl⟩ := frx_me hF
  clear hF
  simp only [Tryz.f9, Option.getD_some, regOf] at hc
  injection hc with hc
  subst hc
  have HE := hide hE
  have hmm := @run_makeMap Tryz.prog
  clear hE
  go_wp2_with (go_at_call 24; refine HE.out.mono ?_; rintro e w1 ⟨rfl, b1⟩; have B1 := hide b1; clear b1)
  exact HQ.out _ _ ⟨rfl, rfl, rfl, rfl, rfl, rfl, rfl, rfl, rfl⟩ B1.out
theorem me_r4 {K : Act → World → Prop} {c : Code} (hc : regOf (Tryz.f9.body.getD .skip) 4 = some c) (a : Act) {v : Vme} {wq : World} {n : Int} (hF : Fme a v) (h0v : v.v0 = .int .i64 n) (hQ : ∀ a', Fme a' { v with v17 := .int .i64 n, v18 := .int .i64 ((0 : Nat) : Int) } → K a' wq) :
    Code.wp Tryz.prog c (Exit.then K fun _ _ _ => False) a wq := by
  have HQ := hide hQ
  clear hQ
  obtain ⟨v0, v2, v3, v4, v5, v17, v18⟩ := v
  simp only at h0v HQ
  subst h0v
  obtain ⟨u, rfl⟩ := frx_me hF
  clear hF
  simp only [Tryz.f9, Option.getD_some, regOf] at hc
  injection hc with hc
  subst hc
  go_wp2
  exact HQ.out _ ⟨rfl, rfl, rfl, rfl, rfl, rfl, rfl, rfl, rfl⟩
theorem me_r5 {K : Act → World → Prop} {c : Code} (hc : regOf (Tryz.f9.body.getD .skip) 5 = some c) (a : Act) {v : Vme} {wq : World} {k : Nat} {n : Int} (hF : Fme a v) (h17v : v.v17 = .int .i64 n) (h18v : v.v18 = .int .i64 (k : Int)) (hQ : ∀ a', Fme a' v → a'.tmps.getD 19 undef = .bool (decide ((k : Int) < n)) → K a' wq) :
    Code.wp Tryz.prog c (Exit.then K fun _ _ _ => False) a wq := by
  have HQ := hide hQ
  clear hQ
  obtain ⟨v0, v2, v3, v4, v5, v17, v18⟩ := v
  simp only at h17v h18v HQ
  subst h17v h18v
  obtain ⟨u, rfl⟩ := frx_me hF
  clear hF
  simp only [Tryz.f9, Option.getD_some, regOf] at hc
  injection hc with hc
  subst hc
  go_wp2
  exact HQ.out _ ⟨rfl, rfl, rfl, rfl, rfl, rfl, rfl, rfl, rfl⟩ (by first | rfl | (simp; done))
theorem me_r6 {K : Act → World → Prop} {c : Code} (hc : regOf (Tryz.f9.body.getD .skip) 6 = some c) (a : Act) {v : Vme} {wq : World} {k : Nat} (hF : Fme a v) (h18v : v.v18 = .int .i64 (k : Int)) (hQ : ∀ a', Fme a' { v with v5 := .int .i64 (k : Int) } → K a' wq) :
    Code.wp Tryz.prog c (Exit.then K fun _ _ _ => False) a wq := by
  have HQ := hide hQ
  clear hQ
  obtain ⟨v0, v2, v3, v4, v5, v17, v18⟩ := v
  simp only at h18v HQ
  subst h18v
  obtain ⟨u, rfl⟩ := frx_me hF
  clear hF
  simp only [Tryz.f9, Option.getD_some, regOf] at hc
  injection hc with hc
  subst hc
  go_wp2
  exact HQ.out _ ⟨rfl, rfl, rfl, rfl, rfl, rfl, rfl, rfl, rfl⟩
theorem me_r7 {K : Act → World → Prop} {c : Code} (hc : regOf (Tryz.f9.body.getD .skip) 7 = some c) (a : Act) {v : Vme} {wq : World} {mb kn : Nat} {b0 : Bool} (hF : Fme a v) (h4v : v.v4 = .pointer (some ⟨mb, 0, none⟩)) (h5v : v.v5 = .int .i64 (kn : Int)) (hk : kn < 7) (hy : wq.cell? ⟨mb, 3 + kn, none⟩ = some (.bool b0)) (hf : wq.frozen? ⟨mb, 3 + kn, none⟩ = false)
    (hQ : ∀ a', Fme a' v → K a' (wq.setCell ⟨mb, 3 + kn, none⟩ (.bool true))) :
    Code.wp Tryz.prog c (Exit.then K fun _ _ _ => False) a wq := by
  have HQ := hide hQ
  clear hQ
  obtain ⟨v0, v2, v3, v4, v5, v17, v18⟩ := v
  simp only at h4v h5v HQ
  subst h4v h5v
  obtain ⟨u, rfl⟩ := frx_me hF
  clear hF
  simp only [Tryz.f9, Option.getD_some, regOf] at hc
  injection hc with hc
  subst hc
  have i0 : (0 : Int) ≤ (kn : Int) := by omega
  have i1 : (kn : Int) < 7 := by omega
  go_wp2
  exact HQ.out _ ⟨rfl, rfl, rfl, rfl, rfl, rfl, rfl, rfl, rfl⟩
theorem me_r8 {K : Act → World → Prop} {c : Code} (hc : regOf (Tryz.f9.body.getD .skip) 8 = some c) (a : Act) {v : Vme} {wq : World} {i : Nat} (hF : Fme a v) (h18v : v.v18 = .int .i64 (i : Int)) (hi : i ≤ 1000000)
    (hQ : ∀ a', Fme a' { v with v18 := .int .i64 ((i + 1 : Nat) : Int) } → K a' wq) :
    Code.wp Tryz.prog c (Exit.then K fun _ _ _ => False) a wq := by
  have HQ := hide hQ
  clear hQ
  obtain ⟨v0, v2, v3, v4, v5, v17, v18⟩ := v
  simp only at h18v HQ
  subst h18v
  obtain ⟨u, rfl⟩ := frx_me hF
  clear hF
  simp only [Tryz.f9, Option.getD_some, regOf] at hc
  injection hc with hc
  subst hc
  go_wp2
  exact HQ.out _ ⟨rfl, rfl, rfl, rfl, rfl, rfl, rfl, rfl, (by first | rfl | (simp; done) | (go_num; done))⟩
theorem me_r9 {K : Act → World → Prop} {c : Code} (hc : regOf (Tryz.f9.body.getD .skip) 9 = some c) (a : Act) {v : Vme} {wq : World} {po : Option Addr} (hF : Fme a v) (h4v : v.v4 = .pointer po) (hQ : ∀ a', Fme a' { v with v2 := .pointer po, v3 := .int .i64 0 } → K a' wq) :
    Code.wp Tryz.prog c (Exit.then K fun _ _ _ => False) a wq := by
  have HQ := hide hQ
  clear hQ
  obtain ⟨v0, v2, v3, v4, v5, v17, v18⟩ := v
  simp only at h4v HQ
  subst h4v
  obtain ⟨u, rfl⟩ := frx_me hF
  clear hF
  simp only [Tryz.f9, Option.getD_some, regOf] at hc
  injection hc with hc
  subst hc
  go_wp2
  exact HQ.out _ ⟨rfl, rfl, rfl, rfl, rfl, rfl, rfl, rfl, rfl⟩
theorem me_ret {W : World} {a : Act} {v : Vme} {x y : Value} {R : Ending → World → Prop} (hF : Fme a v) (h2 : v.v2 = x) (h3 : v.v3 = y) (h : R (.returned (.tuple #[x, y])) W) : bodyPost Tryz.prog Tryz.f9 R .ret a W := by
  have g0 := slot_get (hF.s2.trans h2)
  have g1 := slot_get (hF.s3.trans h3)
  refine bodyPost_ret (v := .tuple #[x, y]) ?_ hF.defers h
  simp [results, Tryz.results9, go_sem, g0, g1]
theorem pmnew (n : Int) (w : World) : Calls Tryz.prog 9 #[.int .i64 n] w fun e w' =>
    (¬ (1 ≤ n ∧ n ≤ 7) ∧ e = .returned (.tuple #[.pointer none, .int .i64 1]) ∧ Below w.heap.size w w') ∨
    (1 ≤ n ∧ n ≤ 7 ∧ ∃ L : LM, e = .returned (.tuple #[.pointer (some ⟨L.b, 0, none⟩), .int .i64 0]) ∧ MAt w' L (MS.new n.toNat) ∧ Below w.heap.size w w' ∧ ∀ j, L.own j → w.heap.size ≤ j) := by
  have HB := G.Begin_any w
  go_enter Tryz.func9, Tryz.ntmps9
  refine wp_seq (reg_mono (me_r0 (by kernel_rfl) _ (v := ⟨_, _, _, _, _, _, _⟩) ⟨rfl, rfl, rfl, rfl, rfl, rfl, rfl, rfl, rfl⟩ ?_))
  intro a0 F0
  try dsimp only at F0
  have bad : ∀ (a : Act) (v : Vme), Fme a v → ¬ (1 ≤ n ∧ n ≤ 7) → ∀ v' : Vme, v' = { v with v2 := .pointer none, v3 := .int .i64 1 } → True := fun _ _ _ _ _ _ => trivial
  by_cases h1 : n < 1
  case pos =>
    refine wp_seq (wp_seq (reg_mono (me_r1a (by kernel_rfl) _ F0 rfl h1 ?_)))
    intro a1 F1 g1
    refine wp_cond_true g1 ?_
    refine wp_seq (reg_mono (me_r2 (by kernel_rfl) _ F1 ?_))
    intro a2 F2
    try dsimp only at F2
    refine wp_ret ?_
    simp only [Exit.then]
    exact me_ret F2 rfl rfl (.inl ⟨by omega, rfl, Below.refl _ _⟩)
  refine wp_seq (wp_seq (reg_mono (me_r1b (by kernel_rfl) _ F0 rfl h1 ?_)))
  intro a1 F1 g1
  by_cases h7 : 7 < n
  case pos =>
    rw [decide_eq_true h7] at g1
    refine wp_cond_true g1 ?_
    refine wp_seq (reg_mono (me_r2 (by kernel_rfl) _ F1 ?_))
    intro a2 F2
    try dsimp only at F2
    refine wp_ret ?_
    simp only [Exit.then]
    exact me_ret F2 rfl rfl (.inl ⟨by omega, rfl, Below.refl _ _⟩)
  rw [decide_eq_false h7] at g1
  refine wp_cond_false g1 (wp_skip ?_)
  show Code.wp _ _ _ _ _
  refine wp_seq (reg_mono (me_r3 (by kernel_rfl) _ F1 HB ?_))
  intro a3 w1 F3 b1
  try dsimp only at F3
  obtain ⟨m, hm⟩ : ∃ m : Nat, n = (m : Int) := ⟨n.toNat, by omega⟩
  subst hm
  have e1 := b1.size
  have hbx := heap_alloc_new ((w1.alloc (.map #[] 0)).alloc (.map #[] 0)) (.cells #[.int .i64 0, .int .i64 1, .int .i64 0, .bool false, .bool false, .bool false, .bool false, .bool false, .bool false, .bool false, .map (some w1.heap.size), .map (some (w1.heap.size + 1))] 67)
  have hz : ((w1.alloc (.map #[] 0)).alloc (.map #[] 0)).heap.size = w1.heap.size + 1 + 1 := by simp
  rw [hz] at hbx
  have m0 : MAt (((w1.alloc (.map #[] 0)).alloc (.map #[] 0)).alloc (.cells #[.int .i64 0, .int .i64 1, .int .i64 0, .bool false, .bool false, .bool false, .bool false, .bool false, .bool false, .bool false, .map (some w1.heap.size), .map (some (w1.heap.size + 1))] 67)) (LM.init (w1.heap.size + 1 + 1) w1.heap.size (w1.heap.size + 1)) (MS.new 0) := by
    refine MAt.init hbx (((World.ownsMap_made w1 Tryz.prog 9 ptrR).alloc _).alloc _) ?_ (by omega)
    have := (World.ownsMap_made (w1.alloc (.map #[] 0)) Tryz.prog 9 subR).alloc (.cells #[.int .i64 0, .int .i64 1, .int .i64 0, .bool false, .bool false, .bool false, .bool false, .bool false, .bool false, .bool false, .map (some w1.heap.size), .map (some (w1.heap.size + 1))] 67)
    simpa using this
  have b2 : Below w.heap.size w (((w1.alloc (.map #[] 0)).alloc (.map #[] 0)).alloc (.cells #[.int .i64 0, .int .i64 1, .int .i64 0, .bool false, .bool false, .bool false, .bool false, .bool false, .bool false, .bool false, .map (some w1.heap.size), .map (some (w1.heap.size + 1))] 67)) := ((b1.alloc e1 _).alloc (by simp; omega) _).alloc (by simp; omega) _
  generalize ((w1.alloc _).alloc _).alloc _ = w2 at *
  have hown : ∀ j, (LM.init (w1.heap.size + 1 + 1) w1.heap.size (w1.heap.size + 1)).own j → w.heap.size ≤ j := fun j hj => init_own hj (by omega) (by omega) (by omega)
  obtain ⟨L, hL⟩ : ∃ L, L = LM.init (w1.heap.size + 1 + 1) w1.heap.size (w1.heap.size + 1) := ⟨_, rfl⟩
  rw [← hL] at m0 hown
  have hLb : w1.heap.size + 1 + 1 = L.b := by rw [hL]; rfl
  rw [hLb] at F3
  clear hL hbx hz hLb
  refine wp_seq (wp_seq (reg_mono (me_r4 (by kernel_rfl) _ F3 rfl ?_)))
  intro a4 F4
  try dsimp only at F4
  refine wp_block (wp_loop (fun a W => ∃ (k : Nat) (v : Vme), k ≤ m ∧ Fme a v ∧ v.v4 = .pointer (some ⟨L.b, 0, none⟩) ∧ v.v17 = .int .i64 (m : Int) ∧ v.v18 = .int .i64 (k : Int) ∧ MAt W L (MS.new k) ∧ Below w.heap.size w W) (fun a _ => m - (intOf (a.tmps.getD 18 undef)).toNat) ⟨0, _, Nat.zero_le _, F4, rfl, rfl, rfl, m0, b2⟩ ?_)
  clear F0 F1 F3 F4 m0 b2 g1
  rintro a W ⟨k, v, hk, F, q4, q17, q18, mW, bW⟩
  have hmk : (intOf (a.tmps.getD 18 undef)).toNat = k := by rw [F.s18, q18]; simp [intOf]
  obtain ⟨v0, v2, v3, v4, v5, v17, v18⟩ := v
  simp only at q4 q17 q18
  subst q4 q17 q18
  refine wp_seq (reg_mono (me_r5 (by kernel_rfl) _ F rfl rfl ?_))
  intro a5 F5 g5
  by_cases hlt : k < m
  case pos =>
    rw [decide_eq_true (show (k : Int) < (m : Int) by omega)] at g5
    refine wp_seq (wp_cond_true g5 (wp_skip ?_))
    show Code.wp _ _ _ _ _
    refine wp_seq (wp_block ?_)
    refine wp_seq (reg_mono (me_r6 (by kernel_rfl) _ F5 rfl ?_))
    intro a6 F6
    try dsimp only at F6
    have hk7 : k < 7 := by omega
    refine reg_all (me_r7 (by kernel_rfl) _ F6 rfl rfl hk7 (mW.wcells k hk7) (mW.free _) ?_)
    intro a7 F7
    try dsimp only at F7
    obtain ⟨m2, s2⟩ := mW.marked2 (by simp [MS.new]) k hk7 true rfl
    rw [new_set k hk7] at m2
    have b3 : Below w.heap.size w (W.setCell ⟨L.b, 3 + k, none⟩ (.bool true)) := bW.setCell (p := ⟨L.b, 3 + k, none⟩) (hown _ (by unfold LM.own; rw [mW.rb]; exact fun e => by cases e)) _
    show Code.wp _ _ _ _ _
    refine reg_mono (me_r8 (by kernel_rfl) _ F7 rfl (by omega) ?_)
    intro a8 F8
    try dsimp only at F8
    refine ⟨⟨k + 1, _, hlt, F8, rfl, rfl, rfl, m2, b3⟩, ?_⟩
    rw [hmk, F8.s18]
    simp [intOf]
    omega
  obtain rfl : k = m := by omega
  rw [decide_eq_false (show ¬ (k : Int) < (k : Int) by omega)] at g5
  refine wp_seq (wp_cond_false g5 (wp_exit ?_))
  show Code.wp _ _ _ _ _
  refine wp_seq (reg_mono (me_r9 (by kernel_rfl) _ F5 rfl ?_))
  intro a9 F9
  refine wp_ret ?_
  exact me_ret F9 rfl rfl (.inr ⟨by omega, by omega, L, rfl, by rw [Int.toNat_natCast]; exact mW, bW, hown⟩)
theorem pmcount {w : World} {L : LM} {X : MS} (h : MAt w L X) : Calls Tryz.prog 17 #[.pointer (some ⟨L.b, 0, none⟩)] w fun e w' => e = .returned (.int .i64 X.cnt) ∧ w' = w := by
  obtain ⟨c0, c1, c2, c3, c4⟩ := h.cells
  go_enter Tryz.func17, Tryz.ntmps17
  go_wp2
  go_ret
  exact ⟨rfl, rfl⟩
theorem pmtopic {w : World} {L : LM} {X : MS} (h : MAt w L X) (s : ByteArray) (hs : s.size ≤ maxLen) : Calls Tryz.prog 20 #[.pointer (some ⟨L.b, 0, none⟩), .string s] w fun e w' => e = .returned (.tuple #[.pointer ((X.T s.data.toList).map fun _ => ⟨(L.loc s.data.toList).b, 0, none⟩), .bool (X.T s.data.toList).isSome]) ∧ w' = w := by
  obtain ⟨c0, c1, c2, c3, c4⟩ := h.cells
  have LT := h.lookT (W := w) rfl s hs
  generalize (Option.map (fun _ => (⟨(L.loc s.data.toList).b, 0, none⟩ : Addr)) (X.T s.data.toList)) = po at *
  generalize (X.T s.data.toList).isSome = ok at *
  clear h
  go_enter Tryz.func20, Tryz.ntmps20
  go_wp2
  refine bodyPost_ret (v := .tuple #[.pointer po, .bool ok]) (by simp [results, Tryz.results20, go_sem]) rfl ⟨rfl, rfl⟩
end Go.Proofs.YtlfodldlkchmoaaGreat.Y
namespace Go.Proofs.YtlfodldlkchmoaaGreat.Y
open Go.RowKit
set_option maxHeartbeats 4000000
set_option maxRecDepth 100000
attribute [local go_sem ↓] Go.wp_at_zero Go.wp_at_succ
set_option linter.unusedSimpArgs false
set_option linter.unusedVariables false
open Go.Maps
def fnM (k : Nat) : Value := .func (.func k) #[] #[]
def doA : Array Value := #[.nilFunc, fnM 57, fnM 58, fnM 59, fnM 60, fnM 61, fnM 62, fnM 63, fnM 64, fnM 65, fnM 66, fnM 67]
theorem pdoings (w : World) : Calls Tryz.prog 30 #[] w fun e w' => e = .returned (.agg doA) ∧ Below w.heap.size w w' := by
  go_enter Tryz.func30, Tryz.ntmps30
  go_wp2
  refine bodyPost_ret (v := .agg doA) (by simp [results, Tryz.results30, go_sem, doA, fnM]) rfl ⟨rfl, ?_⟩
  exact (Below.refl w.heap.size w).alloc (Nat.le_refl _) _
theorem index_d1 (w : World) : (Instr.index 80 (.agg doA) (.int .i64 1)).run Tryz.prog w = .ok (fnM 57) w := by kernel_rfl
theorem index_d2 (w : World) : (Instr.index 80 (.agg doA) (.int .i64 2)).run Tryz.prog w = .ok (fnM 58) w := by kernel_rfl
theorem index_d3 (w : World) : (Instr.index 80 (.agg doA) (.int .i64 3)).run Tryz.prog w = .ok (fnM 59) w := by kernel_rfl
theorem index_d4 (w : World) : (Instr.index 80 (.agg doA) (.int .i64 4)).run Tryz.prog w = .ok (fnM 60) w := by kernel_rfl
theorem index_d5 (w : World) : (Instr.index 80 (.agg doA) (.int .i64 5)).run Tryz.prog w = .ok (fnM 61) w := by kernel_rfl
theorem index_d6 (w : World) : (Instr.index 80 (.agg doA) (.int .i64 6)).run Tryz.prog w = .ok (fnM 62) w := by kernel_rfl
theorem index_d7 (w : World) : (Instr.index 80 (.agg doA) (.int .i64 7)).run Tryz.prog w = .ok (fnM 63) w := by kernel_rfl
theorem index_d8 (w : World) : (Instr.index 80 (.agg doA) (.int .i64 8)).run Tryz.prog w = .ok (fnM 64) w := by kernel_rfl
theorem index_d9 (w : World) : (Instr.index 80 (.agg doA) (.int .i64 9)).run Tryz.prog w = .ok (fnM 65) w := by kernel_rfl
theorem index_d10 (w : World) : (Instr.index 80 (.agg doA) (.int .i64 10)).run Tryz.prog w = .ok (fnM 66) w := by kernel_rfl
theorem index_d11 (w : World) : (Instr.index 80 (.agg doA) (.int .i64 11)).run Tryz.prog w = .ok (fnM 67) w := by kernel_rfl
theorem op_callvM {P : Program} {o : Oper} {a : Act} {w : World} {K : Act → World → Prop} {Q : Exit → Act → World → Prop} (x : Operand) (args : Array Operand) (ts : Array TypeId) (ho : o.op = .call { callee := .value x, args := args, argTypes := ts }) (k : Nat) (cap : List Value) (hx : a.eval x = .func (.func k) #[] cap.toArray) (hk : ∀ args w, (callFunc k args).run P w = .ok (.enter k args) w) (vs : List Value) (hvs' : args.toList.map a.eval = vs) {R : Ending → World → Prop} (hc : Calls P k (vs ++ cap).toArray w R)
    (h : ∀ e w', R e w' → ∃ v, e = .returned v ∧ K (a.put o.dst v) w') : o.wp P a w K Q := by
  have hvs : args.map a.eval = vs.toArray := by rw [← hvs', ← Array.toList_map, Array.toArray_toList]
  unfold Oper.wp
  simp [execOp, ho, resolve, invoke, hvs, hx, Deferred.ofValue, hk, Oper.upon]
  refine hc.mono ?_
  intro e w' hr
  obtain ⟨v, rfl, hv⟩ := h e w' hr
  exact hv
end Go.Proofs.YtlfodldlkchmoaaGreat.Y
namespace Go.Proofs.YtlfodldlkchmoaaGreat
open Go Go.RowKit
set_option linter.unusedSimpArgs false
section
variable {P : Program} {ops : Array Oper} {Q : Exit → Act → World → Prop}
def reachOn (ops : Array Oper) : Nat → Nat → Nat → Bool
  | 0, _, _ => false
  | f + 1, st, i => (ops[st]?.map fun o => o.after.toList.any fun e => Region.binds .any e && (e.on == i || reachOn ops f e.on i)).getD false
theorem reachOn_listed {listed : Array Bool} (hcl : ∀ (i : Nat) (o : Oper), ops[i]? = some o → listed.getD i false = true → ∀ e ∈ o.after, Region.binds .any e = true → listed.getD e.on false = true) : ∀ (f st i : Nat), reachOn ops f st i = true → listed.getD st false = true → listed.getD i false = true
  | 0, _, _, h, _ => by cases h
  | f + 1, st, i, h, hs => by
    unfold reachOn at h
    cases ho : ops[st]? with
    | none => rw [ho] at h; cases h
    | some o =>
      rw [ho] at h
      simp only [Option.map_some, Option.getD_some] at h
      obtain ⟨e, he, hx⟩ := List.any_eq_true.1 h
      rw [Bool.and_eq_true] at hx
      have h5 := hcl st o ho hs e (by rw [← Array.mem_toList_iff]; exact he) hx.1
      rcases Bool.or_eq_true _ _ ▸ hx.2 with h6 | h6
      · rw [beq_iff_eq] at h6
        rw [← h6]
        exact h5
      · exact reachOn_listed hcl f e.on i h6 h5
theorem wpAny_storeT {ns : Nat} {uses : Nat → List Nat} {a : Act} {w : World} (hok : phiOk ops ns = true) (hu : usesOk ops uses = true) (Rel : Nat → World → World → Prop) (st : Nat) (hst0 : st < ops.size) (BW : Bool → World → Prop) (hBW : ∀ j b w w', j ≠ st → BW b w → Rel j w w' → BW b w') (hst : ∀ w w', BW false w → Rel st w w' → BW true w') (h0 : BW false w)
    (H : Nat → (Nat → Value) → World → Prop) (hC : ∀ i s s' w, (∀ d ∈ uses i, s d = s' d) → H i s w → H i s' w) (hH : ∀ i j s w w', i ≠ j → H i s w → Rel j w w' → H i s w')
    (step : ∀ i o, ops.toList[i]? = some o → ∀ a' w' b, ((i == st || reachOn ops ops.size st i) = true → b = false) → Same ops a a' → BW b w' → (∀ k, (o.after.toList.any fun e => Region.binds .any e && e.on == k) = true → H k (slots a') w') → wpOp P ops Q i (fun a'' w'' => ∃ v, a'' = a'.put o.dst v ∧ H i (slots a'') w'' ∧ Rel i w' w'') a' w')
    (done : ∀ a' w', Same ops a a' → BW true w' → (∀ i, i < ops.size → H i (slots a') w') → Q .normal a' w') : wpAny P .any ops Q ops.size (Array.replicate ops.size false) a w := by
  refine wpAny_inv (fun listed a' w' => listed.size = ops.size ∧ Same ops a a' ∧ BW (listed.getD st false) w' ∧ (∀ i o, ops[i]? = some o → listed.getD i false = true → ∀ e ∈ o.after, Region.binds .any e = true → listed.getD e.on false = true) ∧ ∀ i o, ops[i]? = some o → listed.getD i false = true → H i (slots a') w') ?_ ?_ _ _ _ _ (Nat.le_trans List.countP_le_length (by simp)) ⟨by simp, Same.refl _ _, by rw [show (Array.replicate ops.size false).getD st false = false by simp [Array.getD_eq_getD_getElem?, hst0]]; exact h0, fun i o ho hl => ?_, fun i o ho hl => ?_⟩
  · rintro listed a' w' i hi ⟨hz, hsa, hb, hcl, hh⟩
    obtain ⟨h1, o, ho, hdep⟩ := mem_ready.1 hi
    refine wpOp_mono ?_ (step i o (by rw [Array.getElem?_toList]; exact ho) a' w' _ ?_ hsa hb fun k hk => ?_)
    · rintro a'' w'' ⟨v, rfl, hv, hr⟩
      have hlt9 := (Array.getElem?_eq_some_iff.1 ho).1
      refine ⟨by rw [Array.size_setIfInBounds]; exact hz, hsa.put ho, ?_, fun j oj hoj hl e he hbn => ?_, fun j oj hoj hl => ?_⟩
      · by_cases x : i = st
        · subst x
          have e1 : listed.getD i false = false := by simpa [Array.getD_eq_getD_getElem?, show i < listed.size by omega] using h1
          have e2 : (listed.setIfInBounds i true).getD i false = true := by simp [Array.getD_eq_getD_getElem?, show i < listed.size by omega]
          rw [e1] at hb
          rw [e2]
          exact hst _ _ hb hr
        · rw [getD_set_ne false x]
          exact hBW _ _ _ _ x hb hr
      · by_cases x : i = j
        · subst x
          rw [ho] at hoj
          obtain rfl := Option.some.inj hoj
          exact getD_set_true (hdep e he hbn)
        · rw [getD_set_ne false x] at hl
          exact getD_set_true (hcl j oj hoj hl e he hbn)
      · by_cases x : i = j
        · subst x
          exact hv
        · rw [getD_set_ne false x] at hl
          refine hH j i _ w' w'' (fun y => x y.symm) (hC j (slots a') _ w' (fun d hd => ?_) (hh j oj hoj hl)) hr
          cases hod : o.dst with
          | none => rfl
          | some d' =>
            by_cases y : d' = d
            · subst y
              exfalso
              rcases usesOk_spec hu hoj ho hd hod with z | ⟨e, he, hbn, hon⟩
              · exact x z
              · have h5 := hcl j oj hoj hl e he hbn
                rw [hon] at h5
                rcases Nat.lt_or_ge i listed.size with h | h
                · simp [Array.getD_eq_getD_getElem?, h] at h1 h5
                  rw [h1] at h5
                  cases h5
                · simp [Array.getD_eq_getD_getElem?, Array.getElem?_eq_none h] at h5
            · unfold slots
              simp [Act.put, Array.getD_eq_getD_getElem?, Array.getElem?_setIfInBounds_ne y]
    · intro x
      have hlt9 := (Array.getElem?_eq_some_iff.1 ho).1
      by_cases y : i = st
      · subst y
        simpa [Array.getD_eq_getD_getElem?, show i < listed.size by omega] using h1
      · cases hb9 : listed.getD st false with
        | false => rfl
        | true =>
          exfalso
          have x2 : reachOn ops ops.size st i = true := by
            rw [Bool.or_eq_true] at x
            rcases x with x | x
            · exact absurd (by simpa using x) y
            · exact x
          have h5 := reachOn_listed hcl _ st i x2 hb9
          simp [Array.getD_eq_getD_getElem?, show i < listed.size by omega] at h1 h5
          rw [h1] at h5
          cases h5
    · obtain ⟨e, he, hx⟩ := List.any_eq_true.1 hk
      simp only [Bool.and_eq_true, beq_iff_eq] at hx
      obtain ⟨hbn, rfl⟩ := hx
      have he' : e ∈ o.after := by rw [← Array.mem_toList_iff]; exact he
      have hlt := (phiOk_spec hok).2.2 i o ho e he' hbn
      have hi := (Array.getElem?_eq_some_iff.1 ho).1
      exact hh e.on _ (Array.getElem?_eq_getElem (show e.on < ops.size by omega)) (hdep e he' hbn)
  · rintro listed a' w' hr ⟨hz, hsa, hb, hcl, hh⟩
    have all : ∀ i o, ops[i]? = some o → listed.getD i false = true := by
      intro i
      induction i using Nat.strongRecOn with
      | _ i ih =>
        intro o ho
        cases hl : listed.getD i true with
        | false =>
          exfalso
          have : i ∈ Region.ready .any ops listed := mem_ready.2 ⟨hl, o, ho, fun e he hbn => by
            have hlt := (phiOk_spec hok).2.2 i o ho e he hbn
            have hi := (Array.getElem?_eq_some_iff.1 ho).1
            exact ih e.on hlt _ (Array.getElem?_eq_getElem (show e.on < ops.size by omega))⟩
          rw [hr] at this
          cases this
        | true =>
          rcases Nat.lt_or_ge i listed.size with h | h
          · simpa [Array.getD_eq_getD_getElem?, h] using hl
          · have hi := (Array.getElem?_eq_some_iff.1 ho).1
            omega
    have ht := all st _ (Array.getElem?_eq_getElem hst0)
    rw [ht] at hb
    exact done a' w' hsa hb fun i hi => hh i _ (Array.getElem?_eq_getElem hi) (all i _ (Array.getElem?_eq_getElem hi))
  all_goals
    have hi := (Array.getElem?_eq_some_iff.1 ho).1
    simp [Array.getD_eq_getD_getElem?, hi] at hl
end
end Go.Proofs.YtlfodldlkchmoaaGreat
