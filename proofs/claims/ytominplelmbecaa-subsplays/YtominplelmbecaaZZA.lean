/-
  carillonref16's Right, Attach, Ack, Seek (mkza.py).
-/
import Derived.Test.YtominplelmbecaaZSU
import Derived.Test.YtominplelmbecaaZXD
namespace Go.Proofs.Ytominplelmbecaa.Y
open Go.RowKit

attribute [local go_sem ↓] Go.wp_at_zero Go.wp_at_succ
set_option linter.unusedSimpArgs false
set_option linter.unusedVariables false
set_option maxRecDepth 100000 in
theorem frame_zr (t : Array Value) (h : t.size = 32) : ∃ u : Nat → Value, t = List.toArray (u 0 :: u 1 :: u 2 :: u 3 :: u 4 :: u 5 :: u 6 :: u 7 :: u 8 :: u 9 :: u 10 :: u 11 :: u 12 :: u 13 :: u 14 :: u 15 :: u 16 :: u 17 :: u 18 :: u 19 :: u 20 :: u 21 :: u 22 :: u 23 :: u 24 :: u 25 :: u 26 :: u 27 :: u 28 :: u 29 :: u 30 :: u 31 :: []) := by
  refine ⟨fun i => t.getD i undef, ?_⟩
  have e : (List.toArray ((fun i => t.getD i undef) 0 :: (fun i => t.getD i undef) 1 :: (fun i => t.getD i undef) 2 :: (fun i => t.getD i undef) 3 :: (fun i => t.getD i undef) 4 :: (fun i => t.getD i undef) 5 :: (fun i => t.getD i undef) 6 :: (fun i => t.getD i undef) 7 :: (fun i => t.getD i undef) 8 :: (fun i => t.getD i undef) 9 :: (fun i => t.getD i undef) 10 :: (fun i => t.getD i undef) 11 :: (fun i => t.getD i undef) 12 :: (fun i => t.getD i undef) 13 :: (fun i => t.getD i undef) 14 :: (fun i => t.getD i undef) 15 :: (fun i => t.getD i undef) 16 :: (fun i => t.getD i undef) 17 :: (fun i => t.getD i undef) 18 :: (fun i => t.getD i undef) 19 :: (fun i => t.getD i undef) 20 :: (fun i => t.getD i undef) 21 :: (fun i => t.getD i undef) 22 :: (fun i => t.getD i undef) 23 :: (fun i => t.getD i undef) 24 :: (fun i => t.getD i undef) 25 :: (fun i => t.getD i undef) 26 :: (fun i => t.getD i undef) 27 :: (fun i => t.getD i undef) 28 :: (fun i => t.getD i undef) 29 :: (fun i => t.getD i undef) 30 :: (fun i => t.getD i undef) 31 :: []) : Array Value) = ((List.range 32).map fun i => t.getD i undef).toArray := rfl
  refine Eq.trans ?_ e.symm
  apply Array.ext
  · simp [h]
  · intro k h1 h2
    simp [Array.getD, h1]
/-- The slots that matter. -/
structure Vzr where
  v0 : Value
  v1 : Value
  v2 : Value
  v3 : Value
  v4 : Value
structure Fzr (a : Act) (v : Vzr) : Prop where
  size : a.tmps.size = 32
  defers : a.defers = []
  s0 : a.tmps.getD 0 undef = v.v0
  s1 : a.tmps.getD 1 undef = v.v1
  s2 : a.tmps.getD 2 undef = v.v2
  s3 : a.tmps.getD 3 undef = v.v3
  s4 : a.tmps.getD 4 undef = v.v4
set_option maxHeartbeats 8000000 in
set_option maxRecDepth 100000 in
theorem zr_r0 {K : Act → World → Prop} {c : Code} (hc : regOf (Try.f26.body.getD .skip) 0 = some c) (a : Act) {v : Vzr} {wq : World} {xn xt : ByteArray} {xc xx : Int} (hF : Fzr a v) (h0v : v.v0 = .agg #[.string xn, .string xt, .int .i64 xc, .int .i64 xx]) (hQ : ∀ a', Fzr a' { v with v1 := .pointer (some ⟨wq.heap.size, 0, none⟩), v2 := .bool false } → K a' (wq.alloc (.cells #[.string xn, .string xt, .int .i64 xc, .int .i64 xx] 37))) :
    Code.wp Try.prog c (Exit.then K fun _ _ _ => False) a wq := by
  have HQ := hide hQ
  clear hQ
  obtain ⟨t', d'⟩ := a
  obtain ⟨v0, v1, v2, v3, v4⟩ := v
  simp only at h0v HQ
  subst h0v
  obtain ⟨hs1, hd1, q0, q1, q2, q3, q4⟩ := hF
  obtain ⟨u, hu⟩ := frame_zr t' hs1
  simp only at hd1 q0 q1 q2 q3 q4
  subst hu hd1
  have e0 : u 0 = .agg #[.string xn, .string xt, .int .i64 xc, .int .i64 xx] := q0
  have e1 : u 1 = v1 := q1
  have e2 : u 2 = v2 := q2
  have e3 : u 3 = v3 := q3
  have e4 : u 4 = v4 := q4
  rw [e0, e1, e2, e3, e4]
  clear q0 e0 q1 e1 q2 e2 q3 e3 q4 e4 hs1
  simp only [Try.f26, Option.getD_some, regOf] at hc
  injection hc with hc
  subst hc
  go_wp2
  exact HQ.out _ ⟨rfl, rfl, rfl, rfl, rfl, rfl, rfl⟩
set_option maxHeartbeats 8000000 in
set_option maxRecDepth 100000 in
theorem zr_r1 {K : Act → World → Prop} {c : Code} (hc : regOf (Try.f26.body.getD .skip) 1 = some c) (a : Act) {v : Vzr} {wq : World} {sb : Nat} {b : Bool} {xn xt : ByteArray} {xc xx : Int} (hF : Fzr a v) (h1v : v.v1 = .pointer (some ⟨sb, 0, none⟩)) (hSs : wq.heap[sb]? = some (.cells #[.string xn, .string xt, .int .i64 xc, .int .i64 xx] 37 (0, 0))) (hE : Calls Try.prog 32 #[.string xn] wq fun e w' => e = .returned (.bool b) ∧ w' = wq)
    (hQ : ∀ a' w', Fzr a' { v with v3 := .bool b } → w' = wq → K a' w') :
    Code.wp Try.prog c (Exit.then K fun _ _ _ => False) a wq := by
  have HQ := hide hQ
  clear hQ
  obtain ⟨t', d'⟩ := a
  obtain ⟨v0, v1, v2, v3, v4⟩ := v
  simp only at h1v HQ
  subst h1v
  obtain ⟨hs1, hd1, q0, q1, q2, q3, q4⟩ := hF
  obtain ⟨u, hu⟩ := frame_zr t' hs1
  simp only at hd1 q0 q1 q2 q3 q4
  subst hu hd1
  have e0 : u 0 = v0 := q0
  have e1 : u 1 = .pointer (some ⟨sb, 0, none⟩) := q1
  have e2 : u 2 = v2 := q2
  have e3 : u 3 = v3 := q3
  have e4 : u 4 = v4 := q4
  rw [e0, e1, e2, e3, e4]
  clear q0 e0 q1 e1 q2 e2 q3 e3 q4 e4 hs1
  simp only [Try.f26, Option.getD_some, regOf] at hc
  injection hc with hc
  subst hc
  have HE := hide hE
  obtain ⟨⟨c0, c1, c2, c3⟩, _⟩ := box4 hSs
  clear hE hSs
  go_wp2_with (go_at_call 32; refine HE.out.mono ?_; rintro e w1 ⟨rfl, r1⟩; have R1 := hide r1; clear r1)
  exact HQ.out _ _ ⟨rfl, rfl, rfl, rfl, rfl, rfl, rfl⟩ R1.out
set_option maxHeartbeats 8000000 in
set_option maxRecDepth 100000 in
theorem zr_r2 {K : Act → World → Prop} {c : Code} (hc : regOf (Try.f26.body.getD .skip) 2 = some c) (a : Act) {v : Vzr} {wq : World} {sb : Nat} {b : Bool} {xn xt : ByteArray} {xc xx : Int} (hF : Fzr a v) (h1v : v.v1 = .pointer (some ⟨sb, 0, none⟩)) (hSs : wq.heap[sb]? = some (.cells #[.string xn, .string xt, .int .i64 xc, .int .i64 xx] 37 (0, 0))) (hE : Calls Try.prog 32 #[.string xt] wq fun e w' => e = .returned (.bool b) ∧ w' = wq)
    (hQ : ∀ a' w', Fzr a' { v with v4 := .bool b } → w' = wq → K a' w') :
    Code.wp Try.prog c (Exit.then K fun _ _ _ => False) a wq := by
  have HQ := hide hQ
  clear hQ
  obtain ⟨t', d'⟩ := a
  obtain ⟨v0, v1, v2, v3, v4⟩ := v
  simp only at h1v HQ
  subst h1v
  obtain ⟨hs1, hd1, q0, q1, q2, q3, q4⟩ := hF
  obtain ⟨u, hu⟩ := frame_zr t' hs1
  simp only at hd1 q0 q1 q2 q3 q4
  subst hu hd1
  have e0 : u 0 = v0 := q0
  have e1 : u 1 = .pointer (some ⟨sb, 0, none⟩) := q1
  have e2 : u 2 = v2 := q2
  have e3 : u 3 = v3 := q3
  have e4 : u 4 = v4 := q4
  rw [e0, e1, e2, e3, e4]
  clear q0 e0 q1 e1 q2 e2 q3 e3 q4 e4 hs1
  simp only [Try.f26, Option.getD_some, regOf] at hc
  injection hc with hc
  subst hc
  have HE := hide hE
  obtain ⟨⟨c0, c1, c2, c3⟩, _⟩ := box4 hSs
  clear hE hSs
  go_wp2_with (go_at_call 32; refine HE.out.mono ?_; rintro e w1 ⟨rfl, r1⟩; have R1 := hide r1; clear r1)
  exact HQ.out _ _ ⟨rfl, rfl, rfl, rfl, rfl, rfl, rfl⟩ R1.out
set_option maxHeartbeats 8000000 in
set_option maxRecDepth 100000 in
theorem zr_r3 {K : Act → World → Prop} {c : Code} (hc : regOf (Try.f26.body.getD .skip) 3 = some c) (a : Act) {v : Vzr} {wq : World} {sb : Nat} {b1 b2 r : Bool} {xn xt : ByteArray} {xc xx : Int} (hF : Fzr a v) (h1v : v.v1 = .pointer (some ⟨sb, 0, none⟩)) (h3v : v.v3 = .bool b1) (h4v : v.v4 = .bool b2) (hSs : wq.heap[sb]? = some (.cells #[.string xn, .string xt, .int .i64 xc, .int .i64 xx] 37 (0, 0))) (hr : (b1 && b2 && decide (0 ≤ xc) && decide (xc ≤ xx) && decide (xx ≤ 9007199254740991)) = r)
    (hQ : ∀ a', Fzr a' { v with v2 := .bool r } → K a' wq) :
    Code.wp Try.prog c (Exit.then K fun _ _ _ => False) a wq := by
  have HQ := hide hQ
  clear hQ
  obtain ⟨t', d'⟩ := a
  obtain ⟨v0, v1, v2, v3, v4⟩ := v
  simp only at h1v h3v h4v HQ
  subst h1v h3v h4v
  obtain ⟨hs1, hd1, q0, q1, q2, q3, q4⟩ := hF
  obtain ⟨u, hu⟩ := frame_zr t' hs1
  simp only at hd1 q0 q1 q2 q3 q4
  subst hu hd1
  have e0 : u 0 = v0 := q0
  have e1 : u 1 = .pointer (some ⟨sb, 0, none⟩) := q1
  have e2 : u 2 = v2 := q2
  have e3 : u 3 = .bool b1 := q3
  have e4 : u 4 = .bool b2 := q4
  rw [e0, e1, e2, e3, e4]
  clear q0 e0 q1 e1 q2 e2 q3 e3 q4 e4 hs1
  simp only [Try.f26, Option.getD_some, regOf] at hc
  injection hc with hc
  subst hc
  obtain ⟨⟨c0, c1, c2, c3⟩, _⟩ := box4 hSs
  clear hSs
  by_cases t1 : b1 = true
  · subst t1
    by_cases t2 : b2 = true
    · subst t2
      by_cases t3 : 0 ≤ xc
      · have u3 : xc ≥ 0 := t3
        by_cases t4 : xc ≤ xx
        · skip
          by_cases t5 : xx ≤ 9007199254740991
          · skip
            have hr2 : r = true := by
              rw [← hr]
              simp [t3, t4, t5]
            subst hr2
            clear hr
            go_wp2
            exact HQ.out _ ⟨rfl, rfl, rfl, rfl, (by first | rfl | (simp; done) | (simp; omega)), rfl, rfl⟩
          · skip
            have hr2 : r = false := by
              rw [← hr]
              simp [t3, t4, t5]
            subst hr2
            clear hr
            go_wp2
            exact HQ.out _ ⟨rfl, rfl, rfl, rfl, (by first | rfl | (simp; done) | (simp; omega)), rfl, rfl⟩
        · skip
          have hr2 : r = false := by
            rw [← hr]
            simp [t3, t4]
          subst hr2
          clear hr
          go_wp2
          exact HQ.out _ ⟨rfl, rfl, rfl, rfl, (by first | rfl | (simp; done) | (simp; omega)), rfl, rfl⟩
      · have u3 : ¬ xc ≥ 0 := t3
        have hr2 : r = false := by
          rw [← hr]
          simp [t3]
        subst hr2
        clear hr
        go_wp2
        exact HQ.out _ ⟨rfl, rfl, rfl, rfl, (by first | rfl | (simp; done) | (simp; omega)), rfl, rfl⟩
    · have t2 : b2 = false := by simpa using t2
      subst t2
      have hr2 : r = false := by
        rw [← hr]
        simp
      subst hr2
      clear hr
      go_wp2
      exact HQ.out _ ⟨rfl, rfl, rfl, rfl, (by first | rfl | (simp; done) | (simp; omega)), rfl, rfl⟩
  · have t1 : b1 = false := by simpa using t1
    subst t1
    have hr2 : r = false := by
      rw [← hr]
      simp
    subst hr2
    clear hr
    go_wp2
    exact HQ.out _ ⟨rfl, rfl, rfl, rfl, (by first | rfl | (simp; done) | (simp; omega)), rfl, rfl⟩
theorem zr_ret {W : World} {a : Act} {v : Vzr} {b : Bool} {R : Ending → World → Prop} (hF : Fzr a v) (h2 : v.v2 = .bool b) (h : R (.returned (.bool b)) W) :
    bodyPost Try.prog Try.f26 R .ret a W := by
  have g2 := slot_get (hF.s2.trans h2)
  refine bodyPost_ret (v := .bool b) ?_ hF.defers h
  simp [results, Try.results26, go_sem, g2]
theorem zright (S : SB) (hk : S.ok) (w : World) : Calls Try.prog 26 #[S.v] w fun e w' => e = .returned (.bool S.right) ∧ Below w.heap.size w w' := by
  obtain ⟨xn, xt, xc, xx⟩ := S
  obtain ⟨k1, k2⟩ := hk
  simp only at k1 k2
  simp only [SB.v, SB.right]
  have b1 : Below w.heap.size w (w.alloc (.cells #[.string xn, .string xt, .int .i64 xc, .int .i64 xx] 37)) := (Below.refl _ _).alloc (Nat.le_refl _) _
  have x1 := heap_alloc_new w (.cells #[.string xn, .string xt, .int .i64 xc, .int .i64 xx] 37)
  go_enter Try.func26, Try.ntmps26
  refine wp_seq (reg_mono (zr_r0 (by kernel_rfl) _ (v := ⟨_, _, _, _, _⟩) ⟨rfl, rfl, rfl, rfl, rfl, rfl, rfl⟩ rfl ?_))
  intro a0 F0
  try dsimp only at F0
  generalize w.alloc _ = w1 at *
  refine wp_seq (reg_mono (zr_r1 (by kernel_rfl) _ F0 rfl x1 (rword xn (by omega) w1) ?_))
  intro a1 W1 F1 hw
  obtain rfl := hw.symm
  try dsimp only at F1
  refine wp_seq (reg_mono (zr_r2 (by kernel_rfl) _ F1 rfl x1 (rword xt (by omega) w1) ?_))
  intro a2 W2 F2 hw2
  obtain rfl := hw2.symm
  try dsimp only at F2
  refine wp_seq (reg_mono (zr_r3 (by kernel_rfl) _ F2 rfl rfl rfl x1 rfl ?_))
  intro a3 F3
  try dsimp only at F3
  exact wp_ret (zr_ret F3 rfl ⟨rfl, b1⟩)
/-- A parameter's box, and the result's. -/
theorem two_boxes (w : World) (c0 c1 c2 c3 : Value) : Below w.heap.size w ((w.alloc (.cells #[c0, c1, c2, c3] 37)).alloc (.cells #[.string ⟨#[]⟩, .string ⟨#[]⟩, .int .i64 0, .int .i64 0] 37)) ∧ ((w.alloc (.cells #[c0, c1, c2, c3] 37)).alloc (.cells #[.string ⟨#[]⟩, .string ⟨#[]⟩, .int .i64 0, .int .i64 0] 37)).heap[w.heap.size]? = some (.cells #[c0, c1, c2, c3] 37 (0, 0)) ∧ ((w.alloc (.cells #[c0, c1, c2, c3] 37)).alloc (.cells #[.string ⟨#[]⟩, .string ⟨#[]⟩, .int .i64 0, .int .i64 0] 37)).heap[w.heap.size + 1]? = some (.cells #[.string ⟨#[]⟩, .string ⟨#[]⟩, .int .i64 0, .int .i64 0] 37 (0, 0)) := by
  refine ⟨((Below.refl w.heap.size w).alloc (Nat.le_refl _) _).alloc (by simp) _, ?_, ?_⟩
  · exact Below.at ((Below.refl _ _).alloc (Nat.le_refl _) _) (heap_alloc_new w _)
  · have := heap_alloc_new (w.alloc (.cells #[c0, c1, c2, c3] 37)) (.cells #[.string ⟨#[]⟩, .string ⟨#[]⟩, .int .i64 0, .int .i64 0] 37)
    simpa using this
theorem set_other {w : World} {b b2 o : Nat} {x : Value} {ob : Obj} (h : w.heap[b2]? = some ob) (hn : b ≠ b2) : (w.setCell ⟨b, o, none⟩ x).heap[b2]? = some ob := by
  rw [Below.heap_setCell]
  · exact h
  · exact fun e => hn e.symm
set_option maxRecDepth 100000 in
theorem frame_zt (t : Array Value) (h : t.size = 7) : ∃ u : Nat → Value, t = List.toArray (u 0 :: u 1 :: u 2 :: u 3 :: u 4 :: u 5 :: u 6 :: []) := by
  refine ⟨fun i => t.getD i undef, ?_⟩
  have e : (List.toArray ((fun i => t.getD i undef) 0 :: (fun i => t.getD i undef) 1 :: (fun i => t.getD i undef) 2 :: (fun i => t.getD i undef) 3 :: (fun i => t.getD i undef) 4 :: (fun i => t.getD i undef) 5 :: (fun i => t.getD i undef) 6 :: []) : Array Value) = ((List.range 7).map fun i => t.getD i undef).toArray := rfl
  refine Eq.trans ?_ e.symm
  apply Array.ext
  · simp [h]
  · intro k h1 h2
    simp [Array.getD, h1]
/-- The slots that matter. -/
structure Vzt where
  v0 : Value
  v1 : Value
  v2 : Value
structure Fzt (a : Act) (v : Vzt) : Prop where
  size : a.tmps.size = 7
  defers : a.defers = []
  s0 : a.tmps.getD 0 undef = v.v0
  s1 : a.tmps.getD 1 undef = v.v1
  s2 : a.tmps.getD 2 undef = v.v2
set_option maxHeartbeats 8000000 in
set_option maxRecDepth 100000 in
theorem zt_r0 {K : Act → World → Prop} {c : Code} (hc : regOf (Try.f15.body.getD .skip) 0 = some c) (a : Act) {v : Vzt} {wq : World} {xn xt : ByteArray} {xc xx : Int} (hF : Fzt a v) (h0v : v.v0 = .agg #[.string xn, .string xt, .int .i64 xc, .int .i64 xx]) (hQ : ∀ a', Fzt a' { v with v1 := .pointer (some ⟨wq.heap.size, 0, none⟩), v2 := .pointer (some ⟨wq.heap.size + 1, 0, none⟩) } → K a' ((wq.alloc (.cells #[.string xn, .string xt, .int .i64 xc, .int .i64 xx] 37)).alloc (.cells #[.string ⟨#[]⟩, .string ⟨#[]⟩, .int .i64 0, .int .i64 0] 37))) :
    Code.wp Try.prog c (Exit.then K fun _ _ _ => False) a wq := by
  have HQ := hide hQ
  clear hQ
  obtain ⟨t', d'⟩ := a
  obtain ⟨v0, v1, v2⟩ := v
  simp only at h0v HQ
  subst h0v
  obtain ⟨hs1, hd1, q0, q1, q2⟩ := hF
  obtain ⟨u, hu⟩ := frame_zt t' hs1
  simp only at hd1 q0 q1 q2
  subst hu hd1
  have e0 : u 0 = .agg #[.string xn, .string xt, .int .i64 xc, .int .i64 xx] := q0
  have e1 : u 1 = v1 := q1
  have e2 : u 2 = v2 := q2
  rw [e0, e1, e2]
  clear q0 e0 q1 e1 q2 e2 hs1
  simp only [Try.f15, Option.getD_some, regOf] at hc
  injection hc with hc
  subst hc
  go_wp2
  exact HQ.out _ ⟨rfl, rfl, rfl, rfl, rfl⟩
set_option maxHeartbeats 8000000 in
set_option maxRecDepth 100000 in
theorem zt_r1 {K : Act → World → Prop} {c : Code} (hc : regOf (Try.f15.body.getD .skip) 1 = some c) (a : Act) {v : Vzt} {wq : World} {sb : Nat}  {xn xt : ByteArray} {xc xx : Int} (hF : Fzt a v) (h1v : v.v1 = .pointer (some ⟨sb, 0, none⟩)) (hSs : wq.heap[sb]? = some (.cells #[.string xn, .string xt, .int .i64 xc, .int .i64 xx] 37 (0, 0)))
    (hQ : ∀ a', Fzt a' v → K a' (wq.setCell ⟨sb, 3, none⟩ (.int .i64 xc))) :
    Code.wp Try.prog c (Exit.then K fun _ _ _ => False) a wq := by
  have HQ := hide hQ
  clear hQ
  obtain ⟨t', d'⟩ := a
  obtain ⟨v0, v1, v2⟩ := v
  simp only at h1v HQ
  subst h1v
  obtain ⟨hs1, hd1, q0, q1, q2⟩ := hF
  obtain ⟨u, hu⟩ := frame_zt t' hs1
  simp only at hd1 q0 q1 q2
  subst hu hd1
  have e0 : u 0 = v0 := q0
  have e1 : u 1 = .pointer (some ⟨sb, 0, none⟩) := q1
  have e2 : u 2 = v2 := q2
  rw [e0, e1, e2]
  clear q0 e0 q1 e1 q2 e2 hs1
  simp only [Try.f15, Option.getD_some, regOf] at hc
  injection hc with hc
  subst hc
  obtain ⟨⟨c0, c1, c2, c3⟩, f0, f1, f2, f3⟩ := box4 hSs
  clear hSs
  go_wp2
  exact HQ.out _ ⟨rfl, rfl, rfl, rfl, rfl⟩
set_option maxHeartbeats 8000000 in
set_option maxRecDepth 100000 in
theorem zt_r2 {K : Act → World → Prop} {c : Code} (hc : regOf (Try.f15.body.getD .skip) 2 = some c) (a : Act) {v : Vzt} {wq : World} {sb rb : Nat} {y0 y1 y2 y3 : Value} {xn xt : ByteArray} {xc xx : Int} (hF : Fzt a v) (h1v : v.v1 = .pointer (some ⟨sb, 0, none⟩)) (h2v : v.v2 = .pointer (some ⟨rb, 0, none⟩)) (hSs : wq.heap[sb]? = some (.cells #[.string xn, .string xt, .int .i64 xc, .int .i64 xx] 37 (0, 0))) (hSr : wq.heap[rb]? = some (.cells #[y0, y1, y2, y3] 37 (0, 0)))
    (hQ : ∀ a', Fzt a' v → K a' (set4 wq rb (.string xn) (.string xt) (.int .i64 xc) (.int .i64 xx))) :
    Code.wp Try.prog c (Exit.then K fun _ _ _ => False) a wq := by
  have HQ := hide hQ
  clear hQ
  obtain ⟨t', d'⟩ := a
  obtain ⟨v0, v1, v2⟩ := v
  simp only at h1v h2v HQ
  subst h1v h2v
  obtain ⟨hs1, hd1, q0, q1, q2⟩ := hF
  obtain ⟨u, hu⟩ := frame_zt t' hs1
  simp only at hd1 q0 q1 q2
  subst hu hd1
  have e0 : u 0 = v0 := q0
  have e1 : u 1 = .pointer (some ⟨sb, 0, none⟩) := q1
  have e2 : u 2 = .pointer (some ⟨rb, 0, none⟩) := q2
  rw [e0, e1, e2]
  clear q0 e0 q1 e1 q2 e2 hs1
  simp only [Try.f15, Option.getD_some, regOf] at hc
  injection hc with hc
  subst hc
  obtain ⟨⟨c0, c1, c2, c3⟩, _⟩ := box4 hSs
  obtain ⟨⟨d0, d1, d2, d3⟩, f0, f1, f2, f3⟩ := box4 hSr
  clear hSs hSr
  unfold set4 at HQ
  go_wp2
  exact HQ.out _ ⟨rfl, rfl, rfl, rfl, rfl⟩
theorem zt_ret {W : World} {a : Act} {v : Vzt} {rb : Nat} {T : SB} {R : Ending → World → Prop} (hF : Fzt a v) (h0 : v.v2 = .pointer (some ⟨rb, 0, none⟩)) (hB : W.heap[rb]? = some (.cells #[.string T.name, .string T.top, .int .i64 T.cur, .int .i64 T.next] 37 (0, 0))) (h : R (.returned T.v) W) :
    bodyPost Try.prog Try.f15 R .ret a W := by
  have g0 := slot_get (hF.s2.trans h0)
  obtain ⟨⟨e0, e1, e2, e3⟩, _⟩ := box4 hB
  refine bodyPost_ret (v := T.v) ?_ hF.defers h
  simp [results, Try.results15, go_sem, g0, e0, e1, e2, e3, SB.v]
set_option maxHeartbeats 4000000 in
set_option maxRecDepth 100000 in
theorem zattach (S : SB) (w : World) : Calls Try.prog 15 #[S.v] w fun e w' => e = .returned (SB.v { S with next := S.cur }) ∧ Below w.heap.size w w' := by
  obtain ⟨xn, xt, xc, xx⟩ := S
  simp only [SB.v]
  obtain ⟨b1, x1, x2⟩ := two_boxes w (.string xn) (.string xt) (.int .i64 xc) (.int .i64 xx)
  go_enter Try.func15, Try.ntmps15
  refine wp_seq (reg_mono (zt_r0 (by kernel_rfl) _ (v := ⟨_, _, _⟩) ⟨rfl, rfl, rfl, rfl, rfl⟩ rfl ?_))
  intro a0 F0
  try dsimp only at F0
  generalize (w.alloc _).alloc _ = w1 at *
  refine wp_seq (reg_mono (zt_r1 (by kernel_rfl) _ F0 rfl x1 ?_))
  intro a1 F1
  try dsimp only at F1
  have x1' : (w1.setCell ⟨w.heap.size, 3, none⟩ (.int .i64 xc)).heap[w.heap.size]? = some (.cells #[.string xn, .string xt, .int .i64 xc, .int .i64 xc] 37 (0, 0)) := by simp [World.setCell, Array.getElem?_modify, x1]
  have x2' := set_other (o := 3) (x := .int .i64 xc) x2 (show w.heap.size ≠ w.heap.size + 1 by omega)
  have b1' : Below w.heap.size w (w1.setCell ⟨w.heap.size, 3, none⟩ (.int .i64 xc)) := b1.setCell (Nat.le_refl _) _
  generalize w1.setCell _ _ = w2 at *
  refine wp_seq (reg_mono (zt_r2 (by kernel_rfl) _ F1 rfl rfl x1' x2' ?_))
  intro a2 F2
  try dsimp only at F2
  exact wp_ret (zt_ret (T := ⟨xn, xt, xc, xc⟩) F2 rfl (set4_box x2') ⟨rfl, set4_below b1' (Nat.le_succ _)⟩)
set_option maxRecDepth 100000 in
theorem frame_za (t : Array Value) (h : t.size = 29) : ∃ u : Nat → Value, t = List.toArray (u 0 :: u 1 :: u 2 :: u 3 :: u 4 :: u 5 :: u 6 :: u 7 :: u 8 :: u 9 :: u 10 :: u 11 :: u 12 :: u 13 :: u 14 :: u 15 :: u 16 :: u 17 :: u 18 :: u 19 :: u 20 :: u 21 :: u 22 :: u 23 :: u 24 :: u 25 :: u 26 :: u 27 :: u 28 :: []) := by
  refine ⟨fun i => t.getD i undef, ?_⟩
  have e : (List.toArray ((fun i => t.getD i undef) 0 :: (fun i => t.getD i undef) 1 :: (fun i => t.getD i undef) 2 :: (fun i => t.getD i undef) 3 :: (fun i => t.getD i undef) 4 :: (fun i => t.getD i undef) 5 :: (fun i => t.getD i undef) 6 :: (fun i => t.getD i undef) 7 :: (fun i => t.getD i undef) 8 :: (fun i => t.getD i undef) 9 :: (fun i => t.getD i undef) 10 :: (fun i => t.getD i undef) 11 :: (fun i => t.getD i undef) 12 :: (fun i => t.getD i undef) 13 :: (fun i => t.getD i undef) 14 :: (fun i => t.getD i undef) 15 :: (fun i => t.getD i undef) 16 :: (fun i => t.getD i undef) 17 :: (fun i => t.getD i undef) 18 :: (fun i => t.getD i undef) 19 :: (fun i => t.getD i undef) 20 :: (fun i => t.getD i undef) 21 :: (fun i => t.getD i undef) 22 :: (fun i => t.getD i undef) 23 :: (fun i => t.getD i undef) 24 :: (fun i => t.getD i undef) 25 :: (fun i => t.getD i undef) 26 :: (fun i => t.getD i undef) 27 :: (fun i => t.getD i undef) 28 :: []) : Array Value) = ((List.range 29).map fun i => t.getD i undef).toArray := rfl
  refine Eq.trans ?_ e.symm
  apply Array.ext
  · simp [h]
  · intro k h1 h2
    simp [Array.getD, h1]
/-- The slots that matter. -/
structure Vza where
  v0 : Value
  v1 : Value
  v2 : Value
  v4 : Value
  v5 : Value
  v6 : Value
structure Fza (a : Act) (v : Vza) : Prop where
  size : a.tmps.size = 29
  defers : a.defers = []
  s0 : a.tmps.getD 0 undef = v.v0
  s1 : a.tmps.getD 1 undef = v.v1
  s2 : a.tmps.getD 2 undef = v.v2
  s4 : a.tmps.getD 4 undef = v.v4
  s5 : a.tmps.getD 5 undef = v.v5
  s6 : a.tmps.getD 6 undef = v.v6
set_option maxHeartbeats 8000000 in
set_option maxRecDepth 100000 in
theorem za_r0 {K : Act → World → Prop} {c : Code} (hc : regOf (Try.f19.body.getD .skip) 0 = some c) (a : Act) {v : Vza} {wq : World} {xn xt : ByteArray} {xc xx : Int} (hF : Fza a v) (h0v : v.v0 = .agg #[.string xn, .string xt, .int .i64 xc, .int .i64 xx]) (hQ : ∀ a', Fza a' { v with v2 := .pointer (some ⟨wq.heap.size, 0, none⟩), v4 := .pointer (some ⟨wq.heap.size + 1, 0, none⟩), v5 := .int .i64 0 } → K a' ((wq.alloc (.cells #[.string xn, .string xt, .int .i64 xc, .int .i64 xx] 37)).alloc (.cells #[.string ⟨#[]⟩, .string ⟨#[]⟩, .int .i64 0, .int .i64 0] 37))) :
    Code.wp Try.prog c (Exit.then K fun _ _ _ => False) a wq := by
  have HQ := hide hQ
  clear hQ
  obtain ⟨t', d'⟩ := a
  obtain ⟨v0, v1, v2, v4, v5, v6⟩ := v
  simp only at h0v HQ
  subst h0v
  obtain ⟨hs1, hd1, q0, q1, q2, q4, q5, q6⟩ := hF
  obtain ⟨u, hu⟩ := frame_za t' hs1
  simp only at hd1 q0 q1 q2 q4 q5 q6
  subst hu hd1
  have e0 : u 0 = .agg #[.string xn, .string xt, .int .i64 xc, .int .i64 xx] := q0
  have e1 : u 1 = v1 := q1
  have e2 : u 2 = v2 := q2
  have e4 : u 4 = v4 := q4
  have e5 : u 5 = v5 := q5
  have e6 : u 6 = v6 := q6
  rw [e0, e1, e2, e4, e5, e6]
  clear q0 e0 q1 e1 q2 e2 q4 e4 q5 e5 q6 e6 hs1
  simp only [Try.f19, Option.getD_some, regOf] at hc
  injection hc with hc
  subst hc
  go_wp2
  exact HQ.out _ ⟨rfl, rfl, rfl, rfl, rfl, rfl, rfl, rfl⟩
set_option maxHeartbeats 8000000 in
set_option maxRecDepth 100000 in
theorem za_r1 {K : Act → World → Prop} {c : Code} (hc : regOf (Try.f19.body.getD .skip) 1 = some c) (a : Act) {v : Vza} {wq : World} {sb : Nat} {b : Bool} {xn xt : ByteArray} {xc xx : Int} (hF : Fza a v) (h2v : v.v2 = .pointer (some ⟨sb, 0, none⟩)) (hSs : wq.heap[sb]? = some (.cells #[.string xn, .string xt, .int .i64 xc, .int .i64 xx] 37 (0, 0))) (hE : Calls Try.prog 26 #[.agg #[.string xn, .string xt, .int .i64 xc, .int .i64 xx]] wq fun e w' => e = .returned (.bool b) ∧ Below wq.heap.size wq w')
    (hQ : ∀ a' w', Fza a' { v with v6 := .bool b } → Below wq.heap.size wq w' → K a' w') :
    Code.wp Try.prog c (Exit.then K fun _ _ _ => False) a wq := by
  have HQ := hide hQ
  clear hQ
  obtain ⟨t', d'⟩ := a
  obtain ⟨v0, v1, v2, v4, v5, v6⟩ := v
  simp only at h2v HQ
  subst h2v
  obtain ⟨hs1, hd1, q0, q1, q2, q4, q5, q6⟩ := hF
  obtain ⟨u, hu⟩ := frame_za t' hs1
  simp only at hd1 q0 q1 q2 q4 q5 q6
  subst hu hd1
  have e0 : u 0 = v0 := q0
  have e1 : u 1 = v1 := q1
  have e2 : u 2 = .pointer (some ⟨sb, 0, none⟩) := q2
  have e4 : u 4 = v4 := q4
  have e5 : u 5 = v5 := q5
  have e6 : u 6 = v6 := q6
  rw [e0, e1, e2, e4, e5, e6]
  clear q0 e0 q1 e1 q2 e2 q4 e4 q5 e5 q6 e6 hs1
  simp only [Try.f19, Option.getD_some, regOf] at hc
  injection hc with hc
  subst hc
  have HE := hide hE
  obtain ⟨⟨c0, c1, c2, c3⟩, _⟩ := box4 hSs
  clear hE hSs
  go_wp2_with (go_at_call 26; refine HE.out.mono ?_; rintro e w1 ⟨rfl, b1⟩; have B1 := hide b1; clear b1)
  exact HQ.out _ _ ⟨rfl, rfl, rfl, rfl, rfl, rfl, rfl, rfl⟩ B1.out
set_option maxHeartbeats 8000000 in
set_option maxRecDepth 100000 in
theorem za_r2n {K : Act → World → Prop} {c : Code} (hc : regOf (Try.f19.body.getD .skip) 2 = some c) (a : Act) {v : Vza} {wq : World} {sb : Nat} {n : Int} {xn xt : ByteArray} {xc xx : Int} (hF : Fza a v) (h1v : v.v1 = .int .i64 n) (h2v : v.v2 = .pointer (some ⟨sb, 0, none⟩)) (h6v : v.v6 = .bool false) (hSs : wq.heap[sb]? = some (.cells #[.string xn, .string xt, .int .i64 xc, .int .i64 xx] 37 (0, 0)))
    (hQ : ∀ a', Fza a' v → a'.tmps.getD 20 undef = .bool true → K a' wq) :
    Code.wp Try.prog c (Exit.then K fun _ _ _ => False) a wq := by
  have HQ := hide hQ
  clear hQ
  obtain ⟨t', d'⟩ := a
  obtain ⟨v0, v1, v2, v4, v5, v6⟩ := v
  simp only at h1v h2v h6v HQ
  subst h1v h2v h6v
  obtain ⟨hs1, hd1, q0, q1, q2, q4, q5, q6⟩ := hF
  obtain ⟨u, hu⟩ := frame_za t' hs1
  simp only at hd1 q0 q1 q2 q4 q5 q6
  subst hu hd1
  have e0 : u 0 = v0 := q0
  have e1 : u 1 = .int .i64 n := q1
  have e2 : u 2 = .pointer (some ⟨sb, 0, none⟩) := q2
  have e4 : u 4 = v4 := q4
  have e5 : u 5 = v5 := q5
  have e6 : u 6 = .bool false := q6
  rw [e0, e1, e2, e4, e5, e6]
  clear q0 e0 q1 e1 q2 e2 q4 e4 q5 e5 q6 e6 hs1
  simp only [Try.f19, Option.getD_some, regOf] at hc
  injection hc with hc
  subst hc
  obtain ⟨⟨c0, c1, c2, c3⟩, _⟩ := box4 hSs
  clear hSs
  go_wp2
  exact HQ.out _ ⟨rfl, rfl, rfl, rfl, rfl, rfl, rfl, rfl⟩ (by first | rfl | (simp; done) | (simp; omega))
set_option maxHeartbeats 8000000 in
set_option maxRecDepth 100000 in
theorem za_r2l {K : Act → World → Prop} {c : Code} (hc : regOf (Try.f19.body.getD .skip) 2 = some c) (a : Act) {v : Vza} {wq : World} {sb : Nat} {n : Int} {xn xt : ByteArray} {xc xx : Int} (hF : Fza a v) (h1v : v.v1 = .int .i64 n) (h2v : v.v2 = .pointer (some ⟨sb, 0, none⟩)) (h6v : v.v6 = .bool true) (hSs : wq.heap[sb]? = some (.cells #[.string xn, .string xt, .int .i64 xc, .int .i64 xx] 37 (0, 0))) (h1 : n < 0)
    (hQ : ∀ a', Fza a' v → a'.tmps.getD 20 undef = .bool true → K a' wq) :
    Code.wp Try.prog c (Exit.then K fun _ _ _ => False) a wq := by
  have HQ := hide hQ
  clear hQ
  obtain ⟨t', d'⟩ := a
  obtain ⟨v0, v1, v2, v4, v5, v6⟩ := v
  simp only at h1v h2v h6v HQ
  subst h1v h2v h6v
  obtain ⟨hs1, hd1, q0, q1, q2, q4, q5, q6⟩ := hF
  obtain ⟨u, hu⟩ := frame_za t' hs1
  simp only at hd1 q0 q1 q2 q4 q5 q6
  subst hu hd1
  have e0 : u 0 = v0 := q0
  have e1 : u 1 = .int .i64 n := q1
  have e2 : u 2 = .pointer (some ⟨sb, 0, none⟩) := q2
  have e4 : u 4 = v4 := q4
  have e5 : u 5 = v5 := q5
  have e6 : u 6 = .bool true := q6
  rw [e0, e1, e2, e4, e5, e6]
  clear q0 e0 q1 e1 q2 e2 q4 e4 q5 e5 q6 e6 hs1
  simp only [Try.f19, Option.getD_some, regOf] at hc
  injection hc with hc
  subst hc
  obtain ⟨⟨c0, c1, c2, c3⟩, _⟩ := box4 hSs
  clear hSs
  go_wp2
  exact HQ.out _ ⟨rfl, rfl, rfl, rfl, rfl, rfl, rfl, rfl⟩ (by first | rfl | (simp; done) | (simp; omega))
set_option maxHeartbeats 8000000 in
set_option maxRecDepth 100000 in
theorem za_r2g {K : Act → World → Prop} {c : Code} (hc : regOf (Try.f19.body.getD .skip) 2 = some c) (a : Act) {v : Vza} {wq : World} {sb : Nat} {n : Int} {xn xt : ByteArray} {xc xx : Int} (hF : Fza a v) (h1v : v.v1 = .int .i64 n) (h2v : v.v2 = .pointer (some ⟨sb, 0, none⟩)) (h6v : v.v6 = .bool true) (hSs : wq.heap[sb]? = some (.cells #[.string xn, .string xt, .int .i64 xc, .int .i64 xx] 37 (0, 0))) (h1 : ¬ n < 0) (h2 : xx ≤ n)
    (hQ : ∀ a', Fza a' v → a'.tmps.getD 20 undef = .bool true → K a' wq) :
    Code.wp Try.prog c (Exit.then K fun _ _ _ => False) a wq := by
  have HQ := hide hQ
  clear hQ
  obtain ⟨t', d'⟩ := a
  obtain ⟨v0, v1, v2, v4, v5, v6⟩ := v
  simp only at h1v h2v h6v HQ
  subst h1v h2v h6v
  obtain ⟨hs1, hd1, q0, q1, q2, q4, q5, q6⟩ := hF
  obtain ⟨u, hu⟩ := frame_za t' hs1
  simp only at hd1 q0 q1 q2 q4 q5 q6
  subst hu hd1
  have e0 : u 0 = v0 := q0
  have e1 : u 1 = .int .i64 n := q1
  have e2 : u 2 = .pointer (some ⟨sb, 0, none⟩) := q2
  have e4 : u 4 = v4 := q4
  have e5 : u 5 = v5 := q5
  have e6 : u 6 = .bool true := q6
  rw [e0, e1, e2, e4, e5, e6]
  clear q0 e0 q1 e1 q2 e2 q4 e4 q5 e5 q6 e6 hs1
  simp only [Try.f19, Option.getD_some, regOf] at hc
  injection hc with hc
  subst hc
  obtain ⟨⟨c0, c1, c2, c3⟩, _⟩ := box4 hSs
  clear hSs
  have g1 : n ≥ xx := h2
  have g2 : decide (xx ≤ n) = true := decide_eq_true h2
  go_wp2
  exact HQ.out _ ⟨rfl, rfl, rfl, rfl, rfl, rfl, rfl, rfl⟩ (by first | rfl | (simp; done) | (simp; omega))
set_option maxHeartbeats 8000000 in
set_option maxRecDepth 100000 in
theorem za_r2o {K : Act → World → Prop} {c : Code} (hc : regOf (Try.f19.body.getD .skip) 2 = some c) (a : Act) {v : Vza} {wq : World} {sb : Nat} {n : Int} {xn xt : ByteArray} {xc xx : Int} (hF : Fza a v) (h1v : v.v1 = .int .i64 n) (h2v : v.v2 = .pointer (some ⟨sb, 0, none⟩)) (h6v : v.v6 = .bool true) (hSs : wq.heap[sb]? = some (.cells #[.string xn, .string xt, .int .i64 xc, .int .i64 xx] 37 (0, 0))) (h1 : ¬ n < 0) (h2 : ¬ xx ≤ n)
    (hQ : ∀ a', Fza a' v → a'.tmps.getD 20 undef = .bool false → K a' wq) :
    Code.wp Try.prog c (Exit.then K fun _ _ _ => False) a wq := by
  have HQ := hide hQ
  clear hQ
  obtain ⟨t', d'⟩ := a
  obtain ⟨v0, v1, v2, v4, v5, v6⟩ := v
  simp only at h1v h2v h6v HQ
  subst h1v h2v h6v
  obtain ⟨hs1, hd1, q0, q1, q2, q4, q5, q6⟩ := hF
  obtain ⟨u, hu⟩ := frame_za t' hs1
  simp only at hd1 q0 q1 q2 q4 q5 q6
  subst hu hd1
  have e0 : u 0 = v0 := q0
  have e1 : u 1 = .int .i64 n := q1
  have e2 : u 2 = .pointer (some ⟨sb, 0, none⟩) := q2
  have e4 : u 4 = v4 := q4
  have e5 : u 5 = v5 := q5
  have e6 : u 6 = .bool true := q6
  rw [e0, e1, e2, e4, e5, e6]
  clear q0 e0 q1 e1 q2 e2 q4 e4 q5 e5 q6 e6 hs1
  simp only [Try.f19, Option.getD_some, regOf] at hc
  injection hc with hc
  subst hc
  obtain ⟨⟨c0, c1, c2, c3⟩, _⟩ := box4 hSs
  clear hSs
  have g1 : ¬ n ≥ xx := h2
  have g2 : decide (xx ≤ n) = false := decide_eq_false h2
  go_wp2
  exact HQ.out _ ⟨rfl, rfl, rfl, rfl, rfl, rfl, rfl, rfl⟩ (by first | rfl | (simp; done) | (simp; omega))
set_option maxHeartbeats 8000000 in
set_option maxRecDepth 100000 in
theorem za_r3 {K : Act → World → Prop} {c : Code} (hc : regOf (Try.f19.body.getD .skip) 3 = some c) (a : Act) {v : Vza} {wq : World} {sb rb : Nat} {y0 y1 y2 y3 : Value} {xn xt : ByteArray} {xc xx : Int} (hF : Fza a v) (h2v : v.v2 = .pointer (some ⟨sb, 0, none⟩)) (h4v : v.v4 = .pointer (some ⟨rb, 0, none⟩)) (hSs : wq.heap[sb]? = some (.cells #[.string xn, .string xt, .int .i64 xc, .int .i64 xx] 37 (0, 0))) (hSr : wq.heap[rb]? = some (.cells #[y0, y1, y2, y3] 37 (0, 0)))
    (hQ : ∀ a', Fza a' { v with v5 := .int .i64 7 } → K a' (set4 wq rb (.string xn) (.string xt) (.int .i64 xc) (.int .i64 xx))) :
    Code.wp Try.prog c (Exit.then K fun _ _ _ => False) a wq := by
  have HQ := hide hQ
  clear hQ
  obtain ⟨t', d'⟩ := a
  obtain ⟨v0, v1, v2, v4, v5, v6⟩ := v
  simp only at h2v h4v HQ
  subst h2v h4v
  obtain ⟨hs1, hd1, q0, q1, q2, q4, q5, q6⟩ := hF
  obtain ⟨u, hu⟩ := frame_za t' hs1
  simp only at hd1 q0 q1 q2 q4 q5 q6
  subst hu hd1
  have e0 : u 0 = v0 := q0
  have e1 : u 1 = v1 := q1
  have e2 : u 2 = .pointer (some ⟨sb, 0, none⟩) := q2
  have e4 : u 4 = .pointer (some ⟨rb, 0, none⟩) := q4
  have e5 : u 5 = v5 := q5
  have e6 : u 6 = v6 := q6
  rw [e0, e1, e2, e4, e5, e6]
  clear q0 e0 q1 e1 q2 e2 q4 e4 q5 e5 q6 e6 hs1
  simp only [Try.f19, Option.getD_some, regOf] at hc
  injection hc with hc
  subst hc
  obtain ⟨⟨c0, c1, c2, c3⟩, _⟩ := box4 hSs
  obtain ⟨⟨d0, d1, d2, d3⟩, f0, f1, f2, f3⟩ := box4 hSr
  clear hSs hSr
  unfold set4 at HQ
  go_wp2
  exact HQ.out _ ⟨rfl, rfl, rfl, rfl, rfl, rfl, rfl, rfl⟩
set_option maxHeartbeats 8000000 in
set_option maxRecDepth 100000 in
theorem za_r5 {K : Act → World → Prop} {c : Code} (hc : regOf (Try.f19.body.getD .skip) 5 = some c) (a : Act) {v : Vza} {wq : World} {sb rb : Nat} {y0 y1 y2 y3 : Value} {xn xt : ByteArray} {xc xx : Int} (hF : Fza a v) (h2v : v.v2 = .pointer (some ⟨sb, 0, none⟩)) (h4v : v.v4 = .pointer (some ⟨rb, 0, none⟩)) (hSs : wq.heap[sb]? = some (.cells #[.string xn, .string xt, .int .i64 xc, .int .i64 xx] 37 (0, 0))) (hSr : wq.heap[rb]? = some (.cells #[y0, y1, y2, y3] 37 (0, 0)))
    (hQ : ∀ a', Fza a' { v with v5 := .int .i64 0 } → K a' (set4 wq rb (.string xn) (.string xt) (.int .i64 xc) (.int .i64 xx))) :
    Code.wp Try.prog c (Exit.then K fun _ _ _ => False) a wq := by
  have HQ := hide hQ
  clear hQ
  obtain ⟨t', d'⟩ := a
  obtain ⟨v0, v1, v2, v4, v5, v6⟩ := v
  simp only at h2v h4v HQ
  subst h2v h4v
  obtain ⟨hs1, hd1, q0, q1, q2, q4, q5, q6⟩ := hF
  obtain ⟨u, hu⟩ := frame_za t' hs1
  simp only at hd1 q0 q1 q2 q4 q5 q6
  subst hu hd1
  have e0 : u 0 = v0 := q0
  have e1 : u 1 = v1 := q1
  have e2 : u 2 = .pointer (some ⟨sb, 0, none⟩) := q2
  have e4 : u 4 = .pointer (some ⟨rb, 0, none⟩) := q4
  have e5 : u 5 = v5 := q5
  have e6 : u 6 = v6 := q6
  rw [e0, e1, e2, e4, e5, e6]
  clear q0 e0 q1 e1 q2 e2 q4 e4 q5 e5 q6 e6 hs1
  simp only [Try.f19, Option.getD_some, regOf] at hc
  injection hc with hc
  subst hc
  obtain ⟨⟨c0, c1, c2, c3⟩, _⟩ := box4 hSs
  obtain ⟨⟨d0, d1, d2, d3⟩, f0, f1, f2, f3⟩ := box4 hSr
  clear hSs hSr
  unfold set4 at HQ
  go_wp2
  exact HQ.out _ ⟨rfl, rfl, rfl, rfl, rfl, rfl, rfl, rfl⟩
set_option maxHeartbeats 8000000 in
set_option maxRecDepth 100000 in
theorem za_r4 {K : Act → World → Prop} {c : Code} (hc : regOf (Try.f19.body.getD .skip) 4 = some c) (a : Act) {v : Vza} {wq : World} {sb : Nat} {n mm : Int} {xn xt : ByteArray} {xc xx : Int} (hF : Fza a v) (h2v : v.v2 = .pointer (some ⟨sb, 0, none⟩)) (h1v : v.v1 = .int .i64 n) (hSs : wq.heap[sb]? = some (.cells #[.string xn, .string xt, .int .i64 xc, .int .i64 xx] 37 (0, 0))) (h0 : 0 ≤ n) (h1 : n ≤ 9223372036854775806) (hm : max xc (n + 1) = mm)
    (hQ : ∀ a', Fza a' v → K a' (wq.setCell ⟨sb, 2, none⟩ (.int .i64 mm))) :
    Code.wp Try.prog c (Exit.then K fun _ _ _ => False) a wq := by
  have HQ := hide hQ
  clear hQ
  obtain ⟨t', d'⟩ := a
  obtain ⟨v0, v1, v2, v4, v5, v6⟩ := v
  simp only at h2v h1v HQ
  subst h2v h1v
  obtain ⟨hs1, hd1, q0, q1, q2, q4, q5, q6⟩ := hF
  obtain ⟨u, hu⟩ := frame_za t' hs1
  simp only at hd1 q0 q1 q2 q4 q5 q6
  subst hu hd1
  have e0 : u 0 = v0 := q0
  have e1 : u 1 = .int .i64 n := q1
  have e2 : u 2 = .pointer (some ⟨sb, 0, none⟩) := q2
  have e4 : u 4 = v4 := q4
  have e5 : u 5 = v5 := q5
  have e6 : u 6 = v6 := q6
  rw [e0, e1, e2, e4, e5, e6]
  clear q0 e0 q1 e1 q2 e2 q4 e4 q5 e5 q6 e6 hs1
  simp only [Try.f19, Option.getD_some, regOf] at hc
  injection hc with hc
  subst hc
  obtain ⟨⟨c0, c1, c2, c3⟩, f0, f1, f2, f3⟩ := box4 hSs
  clear hSs
  go_wp2
  exact HQ.out _ ⟨rfl, rfl, rfl, rfl, rfl, rfl, rfl, rfl⟩
theorem za_ret {W : World} {a : Act} {v : Vza} {rb : Nat} {T : SB} {y0 : Int} {R : Ending → World → Prop} (hF : Fza a v) (h0 : v.v4 = .pointer (some ⟨rb, 0, none⟩)) (hB : W.heap[rb]? = some (.cells #[.string T.name, .string T.top, .int .i64 T.cur, .int .i64 T.next] 37 (0, 0))) (hy0 : v.v5 = .int .i64 y0) (h : R (.returned (.tuple #[T.v, .int .i64 y0])) W) :
    bodyPost Try.prog Try.f19 R .ret a W := by
  have g0 := slot_get (hF.s4.trans h0)
  have gy0 := slot_get (hF.s5.trans hy0)
  obtain ⟨⟨e0, e1, e2, e3⟩, _⟩ := box4 hB
  refine bodyPost_ret (v := (.tuple #[T.v, .int .i64 y0])) ?_ hF.defers h
  simp [results, Try.results19, go_sem, g0, gy0, e0, e1, e2, e3, SB.v]
set_option maxHeartbeats 4000000 in
set_option maxRecDepth 100000 in
theorem zack (S : SB) (hk : S.ok) (n : Int) (w : World) : Calls Try.prog 19 #[S.v, .int .i64 n] w fun e w' => e = .returned (.tuple #[SB.v (ackF S n).1, .int .i64 (ackF S n).2]) ∧ Below w.heap.size w w' := by
  obtain ⟨xn, xt, xc, xx⟩ := S
  have hA : ackF ⟨xn, xt, xc, xx⟩ n = if SB.right ⟨xn, xt, xc, xx⟩ = true ∧ ¬ n < 0 ∧ ¬ xx ≤ n then (⟨xn, xt, max xc (n + 1), xx⟩, 0) else (⟨xn, xt, xc, xx⟩, 7) := by
    unfold ackF ackI
    simp only
    by_cases hr : SB.right ⟨xn, xt, xc, xx⟩ = true
    · by_cases h : 0 ≤ n ∧ n < xx
      · rw [if_pos (show SB.right ⟨xn, xt, xc, xx⟩ = true ∧ ¬ n < 0 ∧ ¬ xx ≤ n from ⟨hr, by omega, by omega⟩), if_pos h]
        simp [hr]
      · rw [if_neg (show ¬ (SB.right ⟨xn, xt, xc, xx⟩ = true ∧ ¬ n < 0 ∧ ¬ xx ≤ n) from fun q => by have h1 := q.2.1; have h2 := q.2.2; exact h ⟨by omega, by omega⟩), if_neg h]
        simp
    · rw [if_neg (show ¬ (SB.right ⟨xn, xt, xc, xx⟩ = true ∧ ¬ n < 0 ∧ ¬ xx ≤ n) from fun q => hr q.1)]
      simp [hr]
  rw [hA]
  simp only [SB.v]
  obtain ⟨b1, x1, x2⟩ := two_boxes w (.string xn) (.string xt) (.int .i64 xc) (.int .i64 xx)
  go_enter Try.func19, Try.ntmps19
  refine wp_seq (reg_mono (za_r0 (by kernel_rfl) _ (v := ⟨_, _, _, _, _, _⟩) ⟨rfl, rfl, rfl, rfl, rfl, rfl, rfl, rfl⟩ rfl ?_))
  intro a0 F0
  try dsimp only at F0
  generalize (w.alloc _).alloc _ = w1 at *
  have E1 := zright ⟨xn, xt, xc, xx⟩ hk w1
  simp only [SB.v] at E1
  refine wp_seq (reg_mono (za_r1 (by kernel_rfl) _ F0 rfl x1 E1 ?_))
  intro a1 w2 F1 b2
  try dsimp only at F1
  have y1 := Below.at b2 x1
  have y2 := Below.at b2 x2
  have B2 := b1.trans (b2.mono b1.size)
  clear b1 b2 x1 x2 F0 E1
  cases hr : SB.right ⟨xn, xt, xc, xx⟩ with
  | false =>
    rw [hr] at F1
    rw [if_neg (fun q => by cases q.1)]
    refine wp_seq (wp_seq (reg_mono (za_r2n (by kernel_rfl) _ F1 rfl rfl rfl y1 ?_)))
    intro a2 F2 g2
    refine wp_cond_true g2 ?_
    refine wp_seq (reg_mono (za_r3 (by kernel_rfl) _ F2 rfl rfl y1 y2 ?_))
    intro a3 F3
    try dsimp only at F3
    refine wp_ret ?_
    simp only [Exit.then]
    exact za_ret (T := ⟨xn, xt, xc, xx⟩) F3 rfl (set4_box y2) rfl ⟨rfl, set4_below B2 (Nat.le_succ _)⟩
  | true =>
    rw [hr] at F1
    by_cases h1 : n < 0
    case pos =>
      rw [if_neg (fun q => q.2.1 h1)]
      refine wp_seq (wp_seq (reg_mono (za_r2l (by kernel_rfl) _ F1 rfl rfl rfl y1 h1 ?_)))
      intro a2 F2 g2
      refine wp_cond_true g2 ?_
      refine wp_seq (reg_mono (za_r3 (by kernel_rfl) _ F2 rfl rfl y1 y2 ?_))
      intro a3 F3
      try dsimp only at F3
      refine wp_ret ?_
      simp only [Exit.then]
      exact za_ret (T := ⟨xn, xt, xc, xx⟩) F3 rfl (set4_box y2) rfl ⟨rfl, set4_below B2 (Nat.le_succ _)⟩
    by_cases h2 : xx ≤ n
    case pos =>
      rw [if_neg (fun q => q.2.2 h2)]
      refine wp_seq (wp_seq (reg_mono (za_r2g (by kernel_rfl) _ F1 rfl rfl rfl y1 h1 h2 ?_)))
      intro a2 F2 g2
      refine wp_cond_true g2 ?_
      refine wp_seq (reg_mono (za_r3 (by kernel_rfl) _ F2 rfl rfl y1 y2 ?_))
      intro a3 F3
      try dsimp only at F3
      refine wp_ret ?_
      simp only [Exit.then]
      exact za_ret (T := ⟨xn, xt, xc, xx⟩) F3 rfl (set4_box y2) rfl ⟨rfl, set4_below B2 (Nat.le_succ _)⟩
    rw [if_pos ⟨rfl, h1, h2⟩]
    refine wp_seq (wp_seq (reg_mono (za_r2o (by kernel_rfl) _ F1 rfl rfl rfl y1 h1 h2 ?_)))
    intro a2 F2 g2
    refine wp_cond_false g2 (wp_skip ?_)
    show Code.wp _ _ _ _ _
    refine wp_seq (reg_mono (za_r4 (by kernel_rfl) _ F2 rfl rfl y1 (by omega) (by have := (right_out hr).2.2; simp only at this; omega) rfl ?_))
    intro a4 F4
    try dsimp only at F4
    have z1 : (w2.setCell ⟨w.heap.size, 2, none⟩ (.int .i64 (max xc (n + 1)))).heap[w.heap.size]? = some (.cells #[.string xn, .string xt, .int .i64 (max xc (n + 1)), .int .i64 xx] 37 (0, 0)) := by simp [World.setCell, Array.getElem?_modify, y1]
    have z2 := set_other (o := 2) (x := .int .i64 (max xc (n + 1))) y2 (show w.heap.size ≠ w.heap.size + 1 by omega)
    have B3 : Below w.heap.size w (w2.setCell ⟨w.heap.size, 2, none⟩ (.int .i64 (max xc (n + 1)))) := B2.setCell (Nat.le_refl _) _
    generalize w2.setCell _ _ = w3 at *
    refine wp_seq (reg_mono (za_r5 (by kernel_rfl) _ F4 rfl rfl z1 z2 ?_))
    intro a5 F5
    try dsimp only at F5
    exact wp_ret (za_ret (T := ⟨xn, xt, max xc (n + 1), xx⟩) F5 rfl (set4_box z2) rfl ⟨rfl, set4_below B3 (Nat.le_succ _)⟩)
set_option maxRecDepth 100000 in
theorem frame_zs (t : Array Value) (h : t.size = 40) : ∃ u : Nat → Value, t = List.toArray (u 0 :: u 1 :: u 2 :: u 3 :: u 4 :: u 5 :: u 6 :: u 7 :: u 8 :: u 9 :: u 10 :: u 11 :: u 12 :: u 13 :: u 14 :: u 15 :: u 16 :: u 17 :: u 18 :: u 19 :: u 20 :: u 21 :: u 22 :: u 23 :: u 24 :: u 25 :: u 26 :: u 27 :: u 28 :: u 29 :: u 30 :: u 31 :: u 32 :: u 33 :: u 34 :: u 35 :: u 36 :: u 37 :: u 38 :: u 39 :: []) := by
  refine ⟨fun i => t.getD i undef, ?_⟩
  have e : (List.toArray ((fun i => t.getD i undef) 0 :: (fun i => t.getD i undef) 1 :: (fun i => t.getD i undef) 2 :: (fun i => t.getD i undef) 3 :: (fun i => t.getD i undef) 4 :: (fun i => t.getD i undef) 5 :: (fun i => t.getD i undef) 6 :: (fun i => t.getD i undef) 7 :: (fun i => t.getD i undef) 8 :: (fun i => t.getD i undef) 9 :: (fun i => t.getD i undef) 10 :: (fun i => t.getD i undef) 11 :: (fun i => t.getD i undef) 12 :: (fun i => t.getD i undef) 13 :: (fun i => t.getD i undef) 14 :: (fun i => t.getD i undef) 15 :: (fun i => t.getD i undef) 16 :: (fun i => t.getD i undef) 17 :: (fun i => t.getD i undef) 18 :: (fun i => t.getD i undef) 19 :: (fun i => t.getD i undef) 20 :: (fun i => t.getD i undef) 21 :: (fun i => t.getD i undef) 22 :: (fun i => t.getD i undef) 23 :: (fun i => t.getD i undef) 24 :: (fun i => t.getD i undef) 25 :: (fun i => t.getD i undef) 26 :: (fun i => t.getD i undef) 27 :: (fun i => t.getD i undef) 28 :: (fun i => t.getD i undef) 29 :: (fun i => t.getD i undef) 30 :: (fun i => t.getD i undef) 31 :: (fun i => t.getD i undef) 32 :: (fun i => t.getD i undef) 33 :: (fun i => t.getD i undef) 34 :: (fun i => t.getD i undef) 35 :: (fun i => t.getD i undef) 36 :: (fun i => t.getD i undef) 37 :: (fun i => t.getD i undef) 38 :: (fun i => t.getD i undef) 39 :: []) : Array Value) = ((List.range 40).map fun i => t.getD i undef).toArray := rfl
  refine Eq.trans ?_ e.symm
  apply Array.ext
  · simp [h]
  · intro k h1 h2
    simp [Array.getD, h1]
/-- The slots that matter. -/
structure Vzs where
  v0 : Value
  v1 : Value
  v2 : Value
  v3 : Value
  v6 : Value
  v7 : Value
  v8 : Value
structure Fzs (a : Act) (v : Vzs) : Prop where
  size : a.tmps.size = 40
  defers : a.defers = []
  s0 : a.tmps.getD 0 undef = v.v0
  s1 : a.tmps.getD 1 undef = v.v1
  s2 : a.tmps.getD 2 undef = v.v2
  s3 : a.tmps.getD 3 undef = v.v3
  s6 : a.tmps.getD 6 undef = v.v6
  s7 : a.tmps.getD 7 undef = v.v7
  s8 : a.tmps.getD 8 undef = v.v8
set_option maxHeartbeats 8000000 in
set_option maxRecDepth 100000 in
theorem zs_r0 {K : Act → World → Prop} {c : Code} (hc : regOf (Try.f21.body.getD .skip) 0 = some c) (a : Act) {v : Vzs} {wq : World} {xn xt : ByteArray} {xc xx : Int} (hF : Fzs a v) (h0v : v.v0 = .agg #[.string xn, .string xt, .int .i64 xc, .int .i64 xx]) (hQ : ∀ a', Fzs a' { v with v3 := .pointer (some ⟨wq.heap.size, 0, none⟩), v6 := .pointer (some ⟨wq.heap.size + 1, 0, none⟩), v7 := .int .i64 0 } → K a' ((wq.alloc (.cells #[.string xn, .string xt, .int .i64 xc, .int .i64 xx] 37)).alloc (.cells #[.string ⟨#[]⟩, .string ⟨#[]⟩, .int .i64 0, .int .i64 0] 37))) :
    Code.wp Try.prog c (Exit.then K fun _ _ _ => False) a wq := by
  have HQ := hide hQ
  clear hQ
  obtain ⟨t', d'⟩ := a
  obtain ⟨v0, v1, v2, v3, v6, v7, v8⟩ := v
  simp only at h0v HQ
  subst h0v
  obtain ⟨hs1, hd1, q0, q1, q2, q3, q6, q7, q8⟩ := hF
  obtain ⟨u, hu⟩ := frame_zs t' hs1
  simp only at hd1 q0 q1 q2 q3 q6 q7 q8
  subst hu hd1
  have e0 : u 0 = .agg #[.string xn, .string xt, .int .i64 xc, .int .i64 xx] := q0
  have e1 : u 1 = v1 := q1
  have e2 : u 2 = v2 := q2
  have e3 : u 3 = v3 := q3
  have e6 : u 6 = v6 := q6
  have e7 : u 7 = v7 := q7
  have e8 : u 8 = v8 := q8
  rw [e0, e1, e2, e3, e6, e7, e8]
  clear q0 e0 q1 e1 q2 e2 q3 e3 q6 e6 q7 e7 q8 e8 hs1
  simp only [Try.f21, Option.getD_some, regOf] at hc
  injection hc with hc
  subst hc
  go_wp2
  exact HQ.out _ ⟨rfl, rfl, rfl, rfl, rfl, rfl, rfl, rfl, rfl⟩
set_option maxHeartbeats 8000000 in
set_option maxRecDepth 100000 in
theorem zs_r1 {K : Act → World → Prop} {c : Code} (hc : regOf (Try.f21.body.getD .skip) 1 = some c) (a : Act) {v : Vzs} {wq : World} {sb : Nat} {b : Bool} {xn xt : ByteArray} {xc xx : Int} (hF : Fzs a v) (h3v : v.v3 = .pointer (some ⟨sb, 0, none⟩)) (hSs : wq.heap[sb]? = some (.cells #[.string xn, .string xt, .int .i64 xc, .int .i64 xx] 37 (0, 0))) (hE : Calls Try.prog 26 #[.agg #[.string xn, .string xt, .int .i64 xc, .int .i64 xx]] wq fun e w' => e = .returned (.bool b) ∧ Below wq.heap.size wq w')
    (hQ : ∀ a' w', Fzs a' { v with v8 := .bool b } → Below wq.heap.size wq w' → K a' w') :
    Code.wp Try.prog c (Exit.then K fun _ _ _ => False) a wq := by
  have HQ := hide hQ
  clear hQ
  obtain ⟨t', d'⟩ := a
  obtain ⟨v0, v1, v2, v3, v6, v7, v8⟩ := v
  simp only at h3v HQ
  subst h3v
  obtain ⟨hs1, hd1, q0, q1, q2, q3, q6, q7, q8⟩ := hF
  obtain ⟨u, hu⟩ := frame_zs t' hs1
  simp only at hd1 q0 q1 q2 q3 q6 q7 q8
  subst hu hd1
  have e0 : u 0 = v0 := q0
  have e1 : u 1 = v1 := q1
  have e2 : u 2 = v2 := q2
  have e3 : u 3 = .pointer (some ⟨sb, 0, none⟩) := q3
  have e6 : u 6 = v6 := q6
  have e7 : u 7 = v7 := q7
  have e8 : u 8 = v8 := q8
  rw [e0, e1, e2, e3, e6, e7, e8]
  clear q0 e0 q1 e1 q2 e2 q3 e3 q6 e6 q7 e7 q8 e8 hs1
  simp only [Try.f21, Option.getD_some, regOf] at hc
  injection hc with hc
  subst hc
  have HE := hide hE
  obtain ⟨⟨c0, c1, c2, c3⟩, _⟩ := box4 hSs
  clear hE hSs
  go_wp2_with (go_at_call 26; refine HE.out.mono ?_; rintro e w1 ⟨rfl, b1⟩; have B1 := hide b1; clear b1)
  exact HQ.out _ _ ⟨rfl, rfl, rfl, rfl, rfl, rfl, rfl, rfl, rfl⟩ B1.out
set_option maxHeartbeats 8000000 in
set_option maxRecDepth 100000 in
theorem zs_r2c0 {K : Act → World → Prop} {c : Code} (hc : regOf (Try.f21.body.getD .skip) 2 = some c) (a : Act) {v : Vzs} {wq : World} {sb xb : Nat} {nm : ByteArray} {n fi : Int} {xn xt : ByteArray} {xc xx : Int} (hF : Fzs a v) (h1v : v.v1 = .pointer (some ⟨xb, 0, none⟩)) (h2v : v.v2 = .int .i64 n) (h3v : v.v3 = .pointer (some ⟨sb, 0, none⟩)) (h8v : v.v8 = .bool false) (hSs : wq.heap[sb]? = some (.cells #[.string xn, .string xt, .int .i64 xc, .int .i64 xx] 37 (0, 0))) (hlx : xb < wq.heap.size) (hx0 : wq.cell? ⟨xb, 0, none⟩ = some (.string nm)) (hx2 : wq.cell? ⟨xb, 2, none⟩ = some (.int .i64 fi))
    (hQ : ∀ a' w', Fzs a' v → a'.tmps.getD 33 undef = .bool true → Below wq.heap.size wq w' → K a' w') :
    Code.wp Try.prog c (Exit.then K fun _ _ _ => False) a wq := by
  have HQ := hide hQ
  clear hQ
  obtain ⟨t', d'⟩ := a
  obtain ⟨v0, v1, v2, v3, v6, v7, v8⟩ := v
  simp only at h1v h2v h3v h8v HQ
  subst h1v h2v h3v h8v
  obtain ⟨hs1, hd1, q0, q1, q2, q3, q6, q7, q8⟩ := hF
  obtain ⟨u, hu⟩ := frame_zs t' hs1
  simp only at hd1 q0 q1 q2 q3 q6 q7 q8
  subst hu hd1
  have e0 : u 0 = v0 := q0
  have e1 : u 1 = .pointer (some ⟨xb, 0, none⟩) := q1
  have e2 : u 2 = .int .i64 n := q2
  have e3 : u 3 = .pointer (some ⟨sb, 0, none⟩) := q3
  have e6 : u 6 = v6 := q6
  have e7 : u 7 = v7 := q7
  have e8 : u 8 = .bool false := q8
  rw [e0, e1, e2, e3, e6, e7, e8]
  clear q0 e0 q1 e1 q2 e2 q3 e3 q6 e6 q7 e7 q8 e8 hs1
  simp only [Try.f21, Option.getD_some, regOf] at hc
  injection hc with hc
  subst hc
  have HSS := hide hSs
  have HLS := hide (heap_lt hSs)
  have HLX := hide hlx
  have HX0 := hide hx0
  have HX2 := hide hx2
  clear hSs hlx hx0 hx2
  refine wp_region_phi (by kernel_rfl) (ns := 40) (uses := (fun i => match i with | 0 => [11] | 1 => [12] | 2 => [13] | 3 => [14] | 4 => [15] | 5 => [16] | 6 => [17] | 7 => [18] | 8 => [19] | 9 => [20] | 10 => [21] | 11 => [22] | 12 => [23] | 13 => [24] | 14 => [25] | 15 => [26] | 16 => [27] | 17 => [28] | 18 => [29] | 19 => [30] | 20 => [31] | 21 => [32] | 22 => [33] | _ => [])) (by kernel_rfl) (by kernel_rfl) (fun _ w w' => Below w.heap.size w w') (fun w => Below wq.heap.size wq w) (fun _ _ _ h r => h.trans (r.mono h.size)) ((Below.refl _ _).drew) (fun i => match i with | 0 => fun s w => s 11 = .bool false | 1 => fun s w => s 12 = .bool true | 2 => fun s w => s 13 = .bool true | 3 => fun s w => s 14 = undef | 4 => fun s w => s 15 = undef | 5 => fun s w => s 16 = undef | 6 => fun s w => s 17 = undef | 7 => fun s w => s 18 = undef | 8 => fun s w => s 19 = undef | 9 => fun s w => s 20 = undef | 10 => fun s w => s 21 = .bool true | 11 => fun s w => s 22 = .bool true | 12 => fun s w => s 23 = undef | 13 => fun s w => s 24 = undef | 14 => fun s w => s 25 = .bool true | 15 => fun s w => s 26 = .bool true | 16 => fun s w => s 27 = undef | 17 => fun s w => s 28 = undef | 18 => fun s w => s 29 = undef | 19 => fun s w => s 30 = undef | 20 => fun s w => s 31 = undef | 21 => fun s w => s 32 = undef | 22 => fun s w => s 33 = .bool true | _ => fun _ _ => True) ?phc ?phh ?pstep ?pdone
  case phc =>
    intro i s s' w hx h
    match i, hx, h with
    | 0, hx, h => exact (hx 11 (by simp)).symm.trans h
    | 1, hx, h => exact (hx 12 (by simp)).symm.trans h
    | 2, hx, h => exact (hx 13 (by simp)).symm.trans h
    | 3, hx, h => exact (hx 14 (by simp)).symm.trans h
    | 4, hx, h => exact (hx 15 (by simp)).symm.trans h
    | 5, hx, h => exact (hx 16 (by simp)).symm.trans h
    | 6, hx, h => exact (hx 17 (by simp)).symm.trans h
    | 7, hx, h => exact (hx 18 (by simp)).symm.trans h
    | 8, hx, h => exact (hx 19 (by simp)).symm.trans h
    | 9, hx, h => exact (hx 20 (by simp)).symm.trans h
    | 10, hx, h => exact (hx 21 (by simp)).symm.trans h
    | 11, hx, h => exact (hx 22 (by simp)).symm.trans h
    | 12, hx, h => exact (hx 23 (by simp)).symm.trans h
    | 13, hx, h => exact (hx 24 (by simp)).symm.trans h
    | 14, hx, h => exact (hx 25 (by simp)).symm.trans h
    | 15, hx, h => exact (hx 26 (by simp)).symm.trans h
    | 16, hx, h => exact (hx 27 (by simp)).symm.trans h
    | 17, hx, h => exact (hx 28 (by simp)).symm.trans h
    | 18, hx, h => exact (hx 29 (by simp)).symm.trans h
    | 19, hx, h => exact (hx 30 (by simp)).symm.trans h
    | 20, hx, h => exact (hx 31 (by simp)).symm.trans h
    | 21, hx, h => exact (hx 32 (by simp)).symm.trans h
    | 22, hx, h => exact (hx 33 (by simp)).symm.trans h
    | (n + 23), _, h => exact h
  case phh =>
    intro i j s w w' hij h hb r
    match i, hij, h with
    | 0, hij, h =>
      exact h
    | 1, hij, h =>
      exact h
    | 2, hij, h =>
      exact h
    | 3, hij, h =>
      exact h
    | 4, hij, h =>
      exact h
    | 5, hij, h =>
      exact h
    | 6, hij, h =>
      exact h
    | 7, hij, h =>
      exact h
    | 8, hij, h =>
      exact h
    | 9, hij, h =>
      exact h
    | 10, hij, h =>
      exact h
    | 11, hij, h =>
      exact h
    | 12, hij, h =>
      exact h
    | 13, hij, h =>
      exact h
    | 14, hij, h =>
      exact h
    | 15, hij, h =>
      exact h
    | 16, hij, h =>
      exact h
    | 17, hij, h =>
      exact h
    | 18, hij, h =>
      exact h
    | 19, hij, h =>
      exact h
    | 20, hij, h =>
      exact h
    | 21, hij, h =>
      exact h
    | 22, hij, h =>
      exact h
    | (n + 23), _, h => exact h
  case pstep =>
    intro i o ho a' w' hsa hb hd
    match i, ho with
    | 0, ho =>
      obtain rfl := Option.some.inj ho
      try dsimp only at hd
      have g8 : a'.tmps.getD 8 undef = .bool false := hsa.rest 8 (by rfl)
      refine wpOp_of rfl rfl ?_
      refine op_run (v := .bool false) (w' := w') ?_ ⟨_, rfl, ?_, ?_⟩
      · simp only [execOp, Act.eval, g8]; first | (go_simp; done) | rfl
      · try dsimp only
        exact (slots_put (ns := 40) (hsa.size.trans rfl) (by decide))
      · exact Below.refl _ _
    | 1, ho =>
      obtain rfl := Option.some.inj ho
      try dsimp only at hd
      have d0 : a'.tmps.getD 11 undef = .bool false := hd 0 (by rfl)
      refine wpOp_of rfl rfl ?_
      refine op_run (v := .bool true) (w' := w') ?_ ⟨_, rfl, ?_, ?_⟩
      · simp only [execOp, Act.eval, d0]; first | (go_simp; done) | rfl
      · try dsimp only
        exact (slots_put (ns := 40) (hsa.size.trans rfl) (by decide))
      · exact Below.refl _ _
    | 2, ho =>
      obtain rfl := Option.some.inj ho
      try dsimp only at hd
      have d1 : a'.tmps.getD 12 undef = .bool true := hd 1 (by rfl)
      refine wpOp_of rfl rfl ?_
      refine op_run (v := .bool true) (w' := w') ?_ ⟨_, rfl, ?_, ?_⟩
      · simp only [execOp, Act.eval, d1]; first | (go_simp; done) | rfl
      · try dsimp only
        exact (slots_put (ns := 40) (hsa.size.trans rfl) (by decide))
      · exact Below.refl _ _
    | 3, ho =>
      obtain rfl := Option.some.inj ho
      try dsimp only at hd
      have d2 : a'.tmps.getD 13 undef = .bool true := hd 2 (by rfl)
      refine wpOp_off (j := 2) (dj := 13) rfl rfl rfl d2 (by simp [undef]) ⟨undef, rfl, ?_, ?_⟩
      · exact (slots_put (ns := 40) (hsa.size.trans rfl) (by decide))
      · exact Below.refl _ _
    | 4, ho =>
      obtain rfl := Option.some.inj ho
      try dsimp only at hd
      have d2 : a'.tmps.getD 13 undef = .bool true := hd 2 (by rfl)
      refine wpOp_off (j := 2) (dj := 13) rfl rfl rfl d2 (by simp [undef]) ⟨undef, rfl, ?_, ?_⟩
      · exact (slots_put (ns := 40) (hsa.size.trans rfl) (by decide))
      · exact Below.refl _ _
    | 5, ho =>
      obtain rfl := Option.some.inj ho
      try dsimp only at hd
      have d2 : a'.tmps.getD 13 undef = .bool true := hd 2 (by rfl)
      refine wpOp_off (j := 2) (dj := 13) rfl rfl rfl d2 (by simp [undef]) ⟨undef, rfl, ?_, ?_⟩
      · exact (slots_put (ns := 40) (hsa.size.trans rfl) (by decide))
      · exact Below.refl _ _
    | 6, ho =>
      obtain rfl := Option.some.inj ho
      try dsimp only at hd
      have d2 : a'.tmps.getD 13 undef = .bool true := hd 2 (by rfl)
      refine wpOp_off (j := 2) (dj := 13) rfl rfl rfl d2 (by simp [undef]) ⟨undef, rfl, ?_, ?_⟩
      · exact (slots_put (ns := 40) (hsa.size.trans rfl) (by decide))
      · exact Below.refl _ _
    | 7, ho =>
      obtain rfl := Option.some.inj ho
      try dsimp only at hd
      have d2 : a'.tmps.getD 13 undef = .bool true := hd 2 (by rfl)
      refine wpOp_off (j := 2) (dj := 13) rfl rfl rfl d2 (by simp [undef]) ⟨undef, rfl, ?_, ?_⟩
      · exact (slots_put (ns := 40) (hsa.size.trans rfl) (by decide))
      · exact Below.refl _ _
    | 8, ho =>
      obtain rfl := Option.some.inj ho
      try dsimp only at hd
      have d2 : a'.tmps.getD 13 undef = .bool true := hd 2 (by rfl)
      refine wpOp_off (j := 2) (dj := 13) rfl rfl rfl d2 (by simp [undef]) ⟨undef, rfl, ?_, ?_⟩
      · exact (slots_put (ns := 40) (hsa.size.trans rfl) (by decide))
      · exact Below.refl _ _
    | 9, ho =>
      obtain rfl := Option.some.inj ho
      try dsimp only at hd
      have d2 : a'.tmps.getD 13 undef = .bool true := hd 2 (by rfl)
      refine wpOp_off (j := 2) (dj := 13) rfl rfl rfl d2 (by simp [undef]) ⟨undef, rfl, ?_, ?_⟩
      · exact (slots_put (ns := 40) (hsa.size.trans rfl) (by decide))
      · exact Below.refl _ _
    | 10, ho =>
      obtain rfl := Option.some.inj ho
      try dsimp only at hd
      have d2 : a'.tmps.getD 13 undef = .bool true := hd 2 (by rfl)
      have d9 : a'.tmps.getD 20 undef = undef := hd 9 (by rfl)
      refine wpOp_of rfl rfl ?_
      refine op_run (v := .bool true) (w' := w') ?_ ⟨_, rfl, ?_, ?_⟩
      · simp only [execOp, Act.eval, d2, d9]; first | (go_simp; done) | rfl
      · try dsimp only
        exact (slots_put (ns := 40) (hsa.size.trans rfl) (by decide))
      · exact Below.refl _ _
    | 11, ho =>
      obtain rfl := Option.some.inj ho
      try dsimp only at hd
      have d10 : a'.tmps.getD 21 undef = .bool true := hd 10 (by rfl)
      refine wpOp_of rfl rfl ?_
      refine op_run (v := .bool true) (w' := w') ?_ ⟨_, rfl, ?_, ?_⟩
      · simp only [execOp, Act.eval, d10]; first | (go_simp; done) | rfl
      · try dsimp only
        exact (slots_put (ns := 40) (hsa.size.trans rfl) (by decide))
      · exact Below.refl _ _
    | 12, ho =>
      obtain rfl := Option.some.inj ho
      try dsimp only at hd
      have d11 : a'.tmps.getD 22 undef = .bool true := hd 11 (by rfl)
      refine wpOp_off (j := 11) (dj := 22) rfl rfl rfl d11 (by simp [undef]) ⟨undef, rfl, ?_, ?_⟩
      · exact (slots_put (ns := 40) (hsa.size.trans rfl) (by decide))
      · exact Below.refl _ _
    | 13, ho =>
      obtain rfl := Option.some.inj ho
      try dsimp only at hd
      have d11 : a'.tmps.getD 22 undef = .bool true := hd 11 (by rfl)
      refine wpOp_off (j := 11) (dj := 22) rfl rfl rfl d11 (by simp [undef]) ⟨undef, rfl, ?_, ?_⟩
      · exact (slots_put (ns := 40) (hsa.size.trans rfl) (by decide))
      · exact Below.refl _ _
    | 14, ho =>
      obtain rfl := Option.some.inj ho
      try dsimp only at hd
      have d11 : a'.tmps.getD 22 undef = .bool true := hd 11 (by rfl)
      have d13 : a'.tmps.getD 24 undef = undef := hd 13 (by rfl)
      refine wpOp_of rfl rfl ?_
      refine op_run (v := .bool true) (w' := w') ?_ ⟨_, rfl, ?_, ?_⟩
      · simp only [execOp, Act.eval, d11, d13]; first | (go_simp; done) | rfl
      · try dsimp only
        exact (slots_put (ns := 40) (hsa.size.trans rfl) (by decide))
      · exact Below.refl _ _
    | 15, ho =>
      obtain rfl := Option.some.inj ho
      try dsimp only at hd
      have d14 : a'.tmps.getD 25 undef = .bool true := hd 14 (by rfl)
      refine wpOp_of rfl rfl ?_
      refine op_run (v := .bool true) (w' := w') ?_ ⟨_, rfl, ?_, ?_⟩
      · simp only [execOp, Act.eval, d14]; first | (go_simp; done) | rfl
      · try dsimp only
        exact (slots_put (ns := 40) (hsa.size.trans rfl) (by decide))
      · exact Below.refl _ _
    | 16, ho =>
      obtain rfl := Option.some.inj ho
      try dsimp only at hd
      have d15 : a'.tmps.getD 26 undef = .bool true := hd 15 (by rfl)
      refine wpOp_off (j := 15) (dj := 26) rfl rfl rfl d15 (by simp [undef]) ⟨undef, rfl, ?_, ?_⟩
      · exact (slots_put (ns := 40) (hsa.size.trans rfl) (by decide))
      · exact Below.refl _ _
    | 17, ho =>
      obtain rfl := Option.some.inj ho
      try dsimp only at hd
      have d15 : a'.tmps.getD 26 undef = .bool true := hd 15 (by rfl)
      refine wpOp_off (j := 15) (dj := 26) rfl rfl rfl d15 (by simp [undef]) ⟨undef, rfl, ?_, ?_⟩
      · exact (slots_put (ns := 40) (hsa.size.trans rfl) (by decide))
      · exact Below.refl _ _
    | 18, ho =>
      obtain rfl := Option.some.inj ho
      try dsimp only at hd
      have d15 : a'.tmps.getD 26 undef = .bool true := hd 15 (by rfl)
      refine wpOp_off (j := 15) (dj := 26) rfl rfl rfl d15 (by simp [undef]) ⟨undef, rfl, ?_, ?_⟩
      · exact (slots_put (ns := 40) (hsa.size.trans rfl) (by decide))
      · exact Below.refl _ _
    | 19, ho =>
      obtain rfl := Option.some.inj ho
      try dsimp only at hd
      have d15 : a'.tmps.getD 26 undef = .bool true := hd 15 (by rfl)
      refine wpOp_off (j := 15) (dj := 26) rfl rfl rfl d15 (by simp [undef]) ⟨undef, rfl, ?_, ?_⟩
      · exact (slots_put (ns := 40) (hsa.size.trans rfl) (by decide))
      · exact Below.refl _ _
    | 20, ho =>
      obtain rfl := Option.some.inj ho
      try dsimp only at hd
      have d15 : a'.tmps.getD 26 undef = .bool true := hd 15 (by rfl)
      refine wpOp_off (j := 15) (dj := 26) rfl rfl rfl d15 (by simp [undef]) ⟨undef, rfl, ?_, ?_⟩
      · exact (slots_put (ns := 40) (hsa.size.trans rfl) (by decide))
      · exact Below.refl _ _
    | 21, ho =>
      obtain rfl := Option.some.inj ho
      try dsimp only at hd
      have d15 : a'.tmps.getD 26 undef = .bool true := hd 15 (by rfl)
      refine wpOp_off (j := 15) (dj := 26) rfl rfl rfl d15 (by simp [undef]) ⟨undef, rfl, ?_, ?_⟩
      · exact (slots_put (ns := 40) (hsa.size.trans rfl) (by decide))
      · exact Below.refl _ _
    | 22, ho =>
      obtain rfl := Option.some.inj ho
      try dsimp only at hd
      have d15 : a'.tmps.getD 26 undef = .bool true := hd 15 (by rfl)
      have d21 : a'.tmps.getD 32 undef = undef := hd 21 (by rfl)
      refine wpOp_of rfl rfl ?_
      refine op_run (v := .bool true) (w' := w') ?_ ⟨_, rfl, ?_, ?_⟩
      · simp only [execOp, Act.eval, d15, d21]; first | (go_simp; done) | rfl
      · try dsimp only
        exact (slots_put (ns := 40) (hsa.size.trans rfl) (by decide))
      · exact Below.refl _ _
    | (n + 23), ho => exact absurd ho (by simp)
  case pdone =>
    intro a' w' hsa hb hd
    have d0 : a'.tmps.getD 11 undef = .bool false := hd 0 (by decide)
    have d1 : a'.tmps.getD 12 undef = .bool true := hd 1 (by decide)
    have d2 : a'.tmps.getD 13 undef = .bool true := hd 2 (by decide)
    have d3 : a'.tmps.getD 14 undef = undef := hd 3 (by decide)
    have d4 : a'.tmps.getD 15 undef = undef := hd 4 (by decide)
    have d5 : a'.tmps.getD 16 undef = undef := hd 5 (by decide)
    have d6 : a'.tmps.getD 17 undef = undef := hd 6 (by decide)
    have d7 : a'.tmps.getD 18 undef = undef := hd 7 (by decide)
    have d8 : a'.tmps.getD 19 undef = undef := hd 8 (by decide)
    have d9 : a'.tmps.getD 20 undef = undef := hd 9 (by decide)
    have d10 : a'.tmps.getD 21 undef = .bool true := hd 10 (by decide)
    have d11 : a'.tmps.getD 22 undef = .bool true := hd 11 (by decide)
    have d12 : a'.tmps.getD 23 undef = undef := hd 12 (by decide)
    have d13 : a'.tmps.getD 24 undef = undef := hd 13 (by decide)
    have d14 : a'.tmps.getD 25 undef = .bool true := hd 14 (by decide)
    have d15 : a'.tmps.getD 26 undef = .bool true := hd 15 (by decide)
    have d16 : a'.tmps.getD 27 undef = undef := hd 16 (by decide)
    have d17 : a'.tmps.getD 28 undef = undef := hd 17 (by decide)
    have d18 : a'.tmps.getD 29 undef = undef := hd 18 (by decide)
    have d19 : a'.tmps.getD 30 undef = undef := hd 19 (by decide)
    have d20 : a'.tmps.getD 31 undef = undef := hd 20 (by decide)
    have d21 : a'.tmps.getD 32 undef = undef := hd 21 (by decide)
    have d22 : a'.tmps.getD 33 undef = .bool true := hd 22 (by decide)
    exact HQ.out _ _ ⟨hsa.size.trans rfl, hsa.defers.trans rfl, hsa.rest 0 (by rfl), hsa.rest 1 (by rfl), hsa.rest 2 (by rfl), hsa.rest 3 (by rfl), hsa.rest 6 (by rfl), hsa.rest 7 (by rfl), hsa.rest 8 (by rfl)⟩ d22 hb
set_option maxHeartbeats 8000000 in
set_option maxRecDepth 100000 in
theorem zs_r2c1 {K : Act → World → Prop} {c : Code} (hc : regOf (Try.f21.body.getD .skip) 2 = some c) (a : Act) {v : Vzs} {wq : World} {sb xb : Nat} {nm : ByteArray} {n fi : Int} {xn xt : ByteArray} {xc xx : Int} (hF : Fzs a v) (h1v : v.v1 = .pointer (some ⟨xb, 0, none⟩)) (h2v : v.v2 = .int .i64 n) (h3v : v.v3 = .pointer (some ⟨sb, 0, none⟩)) (h8v : v.v8 = .bool true) (hSs : wq.heap[sb]? = some (.cells #[.string xn, .string xt, .int .i64 xc, .int .i64 xx] 37 (0, 0))) (hlx : xb < wq.heap.size) (hx0 : wq.cell? ⟨xb, 0, none⟩ = some (.string nm)) (hx2 : wq.cell? ⟨xb, 2, none⟩ = some (.int .i64 fi)) (hn : (xt.toList == nm.toList) = false)
    (hQ : ∀ a' w', Fzs a' v → a'.tmps.getD 33 undef = .bool true → Below wq.heap.size wq w' → K a' w') :
    Code.wp Try.prog c (Exit.then K fun _ _ _ => False) a wq := by
  have HQ := hide hQ
  clear hQ
  obtain ⟨t', d'⟩ := a
  obtain ⟨v0, v1, v2, v3, v6, v7, v8⟩ := v
  simp only at h1v h2v h3v h8v HQ
  subst h1v h2v h3v h8v
  obtain ⟨hs1, hd1, q0, q1, q2, q3, q6, q7, q8⟩ := hF
  obtain ⟨u, hu⟩ := frame_zs t' hs1
  simp only at hd1 q0 q1 q2 q3 q6 q7 q8
  subst hu hd1
  have e0 : u 0 = v0 := q0
  have e1 : u 1 = .pointer (some ⟨xb, 0, none⟩) := q1
  have e2 : u 2 = .int .i64 n := q2
  have e3 : u 3 = .pointer (some ⟨sb, 0, none⟩) := q3
  have e6 : u 6 = v6 := q6
  have e7 : u 7 = v7 := q7
  have e8 : u 8 = .bool true := q8
  rw [e0, e1, e2, e3, e6, e7, e8]
  clear q0 e0 q1 e1 q2 e2 q3 e3 q6 e6 q7 e7 q8 e8 hs1
  simp only [Try.f21, Option.getD_some, regOf] at hc
  injection hc with hc
  subst hc
  have HSS := hide hSs
  have HLS := hide (heap_lt hSs)
  have HLX := hide hlx
  have HX0 := hide hx0
  have HX2 := hide hx2
  clear hSs hlx hx0 hx2
  have HN := hide hn
  clear hn
  refine wp_region_phi (by kernel_rfl) (ns := 40) (uses := (fun i => match i with | 0 => [11] | 1 => [12] | 2 => [13] | 3 => [14] | 4 => [15] | 5 => [16] | 6 => [17] | 7 => [18] | 8 => [19] | 9 => [20] | 10 => [21] | 11 => [22] | 12 => [23] | 13 => [24] | 14 => [25] | 15 => [26] | 16 => [27] | 17 => [28] | 18 => [29] | 19 => [30] | 20 => [31] | 21 => [32] | 22 => [33] | _ => [])) (by kernel_rfl) (by kernel_rfl) (fun _ w w' => Below w.heap.size w w') (fun w => Below wq.heap.size wq w) (fun _ _ _ h r => h.trans (r.mono h.size)) ((Below.refl _ _).drew) (fun i => match i with | 0 => fun s w => s 11 = .bool true | 1 => fun s w => s 12 = .bool false | 2 => fun s w => s 13 = .bool false | 3 => fun s w => s 14 = .pointer (some ⟨sb, 1, none⟩) | 4 => fun s w => s 15 = .string xt | 5 => fun s w => s 16 = .pointer (some ⟨xb, 0, none⟩) | 6 => fun s w => s 17 = .pointer (some ⟨xb, 0, none⟩) | 7 => fun s w => s 18 = .pointer (some ⟨xb, 0, none⟩) | 8 => fun s w => s 19 = .string nm | 9 => fun s w => s 20 = .bool true | 10 => fun s w => s 21 = .bool true | 11 => fun s w => s 22 = .bool true | 12 => fun s w => s 23 = undef | 13 => fun s w => s 24 = undef | 14 => fun s w => s 25 = .bool true | 15 => fun s w => s 26 = .bool true | 16 => fun s w => s 27 = undef | 17 => fun s w => s 28 = undef | 18 => fun s w => s 29 = undef | 19 => fun s w => s 30 = undef | 20 => fun s w => s 31 = undef | 21 => fun s w => s 32 = undef | 22 => fun s w => s 33 = .bool true | _ => fun _ _ => True) ?phc ?phh ?pstep ?pdone
  case phc =>
    intro i s s' w hx h
    match i, hx, h with
    | 0, hx, h => exact (hx 11 (by simp)).symm.trans h
    | 1, hx, h => exact (hx 12 (by simp)).symm.trans h
    | 2, hx, h => exact (hx 13 (by simp)).symm.trans h
    | 3, hx, h => exact (hx 14 (by simp)).symm.trans h
    | 4, hx, h => exact (hx 15 (by simp)).symm.trans h
    | 5, hx, h => exact (hx 16 (by simp)).symm.trans h
    | 6, hx, h => exact (hx 17 (by simp)).symm.trans h
    | 7, hx, h => exact (hx 18 (by simp)).symm.trans h
    | 8, hx, h => exact (hx 19 (by simp)).symm.trans h
    | 9, hx, h => exact (hx 20 (by simp)).symm.trans h
    | 10, hx, h => exact (hx 21 (by simp)).symm.trans h
    | 11, hx, h => exact (hx 22 (by simp)).symm.trans h
    | 12, hx, h => exact (hx 23 (by simp)).symm.trans h
    | 13, hx, h => exact (hx 24 (by simp)).symm.trans h
    | 14, hx, h => exact (hx 25 (by simp)).symm.trans h
    | 15, hx, h => exact (hx 26 (by simp)).symm.trans h
    | 16, hx, h => exact (hx 27 (by simp)).symm.trans h
    | 17, hx, h => exact (hx 28 (by simp)).symm.trans h
    | 18, hx, h => exact (hx 29 (by simp)).symm.trans h
    | 19, hx, h => exact (hx 30 (by simp)).symm.trans h
    | 20, hx, h => exact (hx 31 (by simp)).symm.trans h
    | 21, hx, h => exact (hx 32 (by simp)).symm.trans h
    | 22, hx, h => exact (hx 33 (by simp)).symm.trans h
    | (n + 23), _, h => exact h
  case phh =>
    intro i j s w w' hij h hb r
    match i, hij, h with
    | 0, hij, h =>
      exact h
    | 1, hij, h =>
      exact h
    | 2, hij, h =>
      exact h
    | 3, hij, h =>
      exact h
    | 4, hij, h =>
      exact h
    | 5, hij, h =>
      exact h
    | 6, hij, h =>
      exact h
    | 7, hij, h =>
      exact h
    | 8, hij, h =>
      exact h
    | 9, hij, h =>
      exact h
    | 10, hij, h =>
      exact h
    | 11, hij, h =>
      exact h
    | 12, hij, h =>
      exact h
    | 13, hij, h =>
      exact h
    | 14, hij, h =>
      exact h
    | 15, hij, h =>
      exact h
    | 16, hij, h =>
      exact h
    | 17, hij, h =>
      exact h
    | 18, hij, h =>
      exact h
    | 19, hij, h =>
      exact h
    | 20, hij, h =>
      exact h
    | 21, hij, h =>
      exact h
    | 22, hij, h =>
      exact h
    | (n + 23), _, h => exact h
  case pstep =>
    intro i o ho a' w' hsa hb hd
    match i, ho with
    | 0, ho =>
      obtain rfl := Option.some.inj ho
      try dsimp only at hd
      have g8 : a'.tmps.getD 8 undef = .bool true := hsa.rest 8 (by rfl)
      refine wpOp_of rfl rfl ?_
      refine op_run (v := .bool true) (w' := w') ?_ ⟨_, rfl, ?_, ?_⟩
      · simp only [execOp, Act.eval, g8]; first | (go_simp; done) | rfl
      · try dsimp only
        exact (slots_put (ns := 40) (hsa.size.trans rfl) (by decide))
      · exact Below.refl _ _
    | 1, ho =>
      obtain rfl := Option.some.inj ho
      try dsimp only at hd
      have d0 : a'.tmps.getD 11 undef = .bool true := hd 0 (by rfl)
      refine wpOp_of rfl rfl ?_
      refine op_run (v := .bool false) (w' := w') ?_ ⟨_, rfl, ?_, ?_⟩
      · simp only [execOp, Act.eval, d0]; first | (go_simp; done) | rfl
      · try dsimp only
        exact (slots_put (ns := 40) (hsa.size.trans rfl) (by decide))
      · exact Below.refl _ _
    | 2, ho =>
      obtain rfl := Option.some.inj ho
      try dsimp only at hd
      have d1 : a'.tmps.getD 12 undef = .bool false := hd 1 (by rfl)
      refine wpOp_of rfl rfl ?_
      refine op_run (v := .bool false) (w' := w') ?_ ⟨_, rfl, ?_, ?_⟩
      · simp only [execOp, Act.eval, d1]; first | (go_simp; done) | rfl
      · try dsimp only
        exact (slots_put (ns := 40) (hsa.size.trans rfl) (by decide))
      · exact Below.refl _ _
    | 3, ho =>
      obtain rfl := Option.some.inj ho
      try dsimp only at hd
      have d2 : a'.tmps.getD 13 undef = .bool false := hd 2 (by rfl)
      have g3 : a'.tmps.getD 3 undef = .pointer (some ⟨sb, 0, none⟩) := hsa.rest 3 (by rfl)
      refine wpOp_on (j := 2) (dj := 13) rfl rfl rfl d2 ?_
      refine op_run (v := .pointer (some ⟨sb, 1, none⟩)) (w' := w') ?_ ⟨_, rfl, ?_, ?_⟩
      · simp only [execOp, Act.eval, d2, g3]; first | (go_simp; done) | rfl
      · try dsimp only
        exact (slots_put (ns := 40) (hsa.size.trans rfl) (by decide))
      · exact Below.refl _ _
    | 4, ho =>
      obtain rfl := Option.some.inj ho
      try dsimp only at hd
      have d2 : a'.tmps.getD 13 undef = .bool false := hd 2 (by rfl)
      have d3 : a'.tmps.getD 14 undef = .pointer (some ⟨sb, 1, none⟩) := hd 3 (by rfl)
      have y : w'.cell? ⟨sb, 1, none⟩ = some (.string xt) := (hb.cell (p := ⟨sb, 1, none⟩) HLS.out).trans (box_cell HSS.out 1 rfl)
      refine wpOp_on (j := 2) (dj := 13) rfl rfl rfl d2 ?_
      refine op_run (v := .string xt) (w' := w') ?_ ⟨_, rfl, ?_, ?_⟩
      · simp only [execOp, Act.eval, d2, d3, y]; first | (go_simp; done) | rfl
      · try dsimp only
        exact (slots_put (ns := 40) (hsa.size.trans rfl) (by decide))
      · exact Below.refl _ _
    | 5, ho =>
      obtain rfl := Option.some.inj ho
      try dsimp only at hd
      have d2 : a'.tmps.getD 13 undef = .bool false := hd 2 (by rfl)
      have g1 : a'.tmps.getD 1 undef = .pointer (some ⟨xb, 0, none⟩) := hsa.rest 1 (by rfl)
      refine wpOp_on (j := 2) (dj := 13) rfl rfl rfl d2 ?_
      refine op_run (v := .pointer (some ⟨xb, 0, none⟩)) (w' := w') ?_ ⟨_, rfl, ?_, ?_⟩
      · simp only [execOp, Act.eval, d2, g1]; first | (go_simp; done) | rfl
      · try dsimp only
        exact (slots_put (ns := 40) (hsa.size.trans rfl) (by decide))
      · exact Below.refl _ _
    | 6, ho =>
      obtain rfl := Option.some.inj ho
      try dsimp only at hd
      have d2 : a'.tmps.getD 13 undef = .bool false := hd 2 (by rfl)
      have d5 : a'.tmps.getD 16 undef = .pointer (some ⟨xb, 0, none⟩) := hd 5 (by rfl)
      refine wpOp_on (j := 2) (dj := 13) rfl rfl rfl d2 ?_
      refine op_run (v := .pointer (some ⟨xb, 0, none⟩)) (w' := w') ?_ ⟨_, rfl, ?_, ?_⟩
      · simp only [execOp, Act.eval, d2, d5]; first | (go_simp; done) | rfl
      · try dsimp only
        exact (slots_put (ns := 40) (hsa.size.trans rfl) (by decide))
      · exact Below.refl _ _
    | 7, ho =>
      obtain rfl := Option.some.inj ho
      try dsimp only at hd
      have d2 : a'.tmps.getD 13 undef = .bool false := hd 2 (by rfl)
      have d6 : a'.tmps.getD 17 undef = .pointer (some ⟨xb, 0, none⟩) := hd 6 (by rfl)
      refine wpOp_on (j := 2) (dj := 13) rfl rfl rfl d2 ?_
      refine op_run (v := .pointer (some ⟨xb, 0, none⟩)) (w' := w') ?_ ⟨_, rfl, ?_, ?_⟩
      · simp only [execOp, Act.eval, d2, d6]; first | (go_simp; done) | rfl
      · try dsimp only
        exact (slots_put (ns := 40) (hsa.size.trans rfl) (by decide))
      · exact Below.refl _ _
    | 8, ho =>
      obtain rfl := Option.some.inj ho
      try dsimp only at hd
      have d2 : a'.tmps.getD 13 undef = .bool false := hd 2 (by rfl)
      have d7 : a'.tmps.getD 18 undef = .pointer (some ⟨xb, 0, none⟩) := hd 7 (by rfl)
      have y : w'.cell? ⟨xb, 0, none⟩ = some (.string nm) := (hb.cell (p := ⟨xb, 0, none⟩) HLX.out).trans HX0.out
      refine wpOp_on (j := 2) (dj := 13) rfl rfl rfl d2 ?_
      refine op_run (v := .string nm) (w' := w') ?_ ⟨_, rfl, ?_, ?_⟩
      · simp only [execOp, Act.eval, d2, d7, y]; first | (go_simp; done) | rfl
      · try dsimp only
        exact (slots_put (ns := 40) (hsa.size.trans rfl) (by decide))
      · exact Below.refl _ _
    | 9, ho =>
      obtain rfl := Option.some.inj ho
      try dsimp only at hd
      have d2 : a'.tmps.getD 13 undef = .bool false := hd 2 (by rfl)
      have d4 : a'.tmps.getD 15 undef = .string xt := hd 4 (by rfl)
      have d8 : a'.tmps.getD 19 undef = .string nm := hd 8 (by rfl)
      have y := HN.out
      refine wpOp_on (j := 2) (dj := 13) rfl rfl rfl d2 ?_
      refine op_run (v := .bool true) (w' := w') ?_ ⟨_, rfl, ?_, ?_⟩
      · simp only [execOp, Act.eval, d2, d4, d8, y]; first | (go_simp; done) | rfl
      · try dsimp only
        exact (slots_put (ns := 40) (hsa.size.trans rfl) (by decide))
      · exact Below.refl _ _
    | 10, ho =>
      obtain rfl := Option.some.inj ho
      try dsimp only at hd
      have d2 : a'.tmps.getD 13 undef = .bool false := hd 2 (by rfl)
      have d9 : a'.tmps.getD 20 undef = .bool true := hd 9 (by rfl)
      refine wpOp_of rfl rfl ?_
      refine op_run (v := .bool true) (w' := w') ?_ ⟨_, rfl, ?_, ?_⟩
      · simp only [execOp, Act.eval, d2, d9]; first | (go_simp; done) | rfl
      · try dsimp only
        exact (slots_put (ns := 40) (hsa.size.trans rfl) (by decide))
      · exact Below.refl _ _
    | 11, ho =>
      obtain rfl := Option.some.inj ho
      try dsimp only at hd
      have d10 : a'.tmps.getD 21 undef = .bool true := hd 10 (by rfl)
      refine wpOp_of rfl rfl ?_
      refine op_run (v := .bool true) (w' := w') ?_ ⟨_, rfl, ?_, ?_⟩
      · simp only [execOp, Act.eval, d10]; first | (go_simp; done) | rfl
      · try dsimp only
        exact (slots_put (ns := 40) (hsa.size.trans rfl) (by decide))
      · exact Below.refl _ _
    | 12, ho =>
      obtain rfl := Option.some.inj ho
      try dsimp only at hd
      have d11 : a'.tmps.getD 22 undef = .bool true := hd 11 (by rfl)
      refine wpOp_off (j := 11) (dj := 22) rfl rfl rfl d11 (by simp [undef]) ⟨undef, rfl, ?_, ?_⟩
      · exact (slots_put (ns := 40) (hsa.size.trans rfl) (by decide))
      · exact Below.refl _ _
    | 13, ho =>
      obtain rfl := Option.some.inj ho
      try dsimp only at hd
      have d11 : a'.tmps.getD 22 undef = .bool true := hd 11 (by rfl)
      refine wpOp_off (j := 11) (dj := 22) rfl rfl rfl d11 (by simp [undef]) ⟨undef, rfl, ?_, ?_⟩
      · exact (slots_put (ns := 40) (hsa.size.trans rfl) (by decide))
      · exact Below.refl _ _
    | 14, ho =>
      obtain rfl := Option.some.inj ho
      try dsimp only at hd
      have d11 : a'.tmps.getD 22 undef = .bool true := hd 11 (by rfl)
      have d13 : a'.tmps.getD 24 undef = undef := hd 13 (by rfl)
      refine wpOp_of rfl rfl ?_
      refine op_run (v := .bool true) (w' := w') ?_ ⟨_, rfl, ?_, ?_⟩
      · simp only [execOp, Act.eval, d11, d13]; first | (go_simp; done) | rfl
      · try dsimp only
        exact (slots_put (ns := 40) (hsa.size.trans rfl) (by decide))
      · exact Below.refl _ _
    | 15, ho =>
      obtain rfl := Option.some.inj ho
      try dsimp only at hd
      have d14 : a'.tmps.getD 25 undef = .bool true := hd 14 (by rfl)
      refine wpOp_of rfl rfl ?_
      refine op_run (v := .bool true) (w' := w') ?_ ⟨_, rfl, ?_, ?_⟩
      · simp only [execOp, Act.eval, d14]; first | (go_simp; done) | rfl
      · try dsimp only
        exact (slots_put (ns := 40) (hsa.size.trans rfl) (by decide))
      · exact Below.refl _ _
    | 16, ho =>
      obtain rfl := Option.some.inj ho
      try dsimp only at hd
      have d15 : a'.tmps.getD 26 undef = .bool true := hd 15 (by rfl)
      refine wpOp_off (j := 15) (dj := 26) rfl rfl rfl d15 (by simp [undef]) ⟨undef, rfl, ?_, ?_⟩
      · exact (slots_put (ns := 40) (hsa.size.trans rfl) (by decide))
      · exact Below.refl _ _
    | 17, ho =>
      obtain rfl := Option.some.inj ho
      try dsimp only at hd
      have d15 : a'.tmps.getD 26 undef = .bool true := hd 15 (by rfl)
      refine wpOp_off (j := 15) (dj := 26) rfl rfl rfl d15 (by simp [undef]) ⟨undef, rfl, ?_, ?_⟩
      · exact (slots_put (ns := 40) (hsa.size.trans rfl) (by decide))
      · exact Below.refl _ _
    | 18, ho =>
      obtain rfl := Option.some.inj ho
      try dsimp only at hd
      have d15 : a'.tmps.getD 26 undef = .bool true := hd 15 (by rfl)
      refine wpOp_off (j := 15) (dj := 26) rfl rfl rfl d15 (by simp [undef]) ⟨undef, rfl, ?_, ?_⟩
      · exact (slots_put (ns := 40) (hsa.size.trans rfl) (by decide))
      · exact Below.refl _ _
    | 19, ho =>
      obtain rfl := Option.some.inj ho
      try dsimp only at hd
      have d15 : a'.tmps.getD 26 undef = .bool true := hd 15 (by rfl)
      refine wpOp_off (j := 15) (dj := 26) rfl rfl rfl d15 (by simp [undef]) ⟨undef, rfl, ?_, ?_⟩
      · exact (slots_put (ns := 40) (hsa.size.trans rfl) (by decide))
      · exact Below.refl _ _
    | 20, ho =>
      obtain rfl := Option.some.inj ho
      try dsimp only at hd
      have d15 : a'.tmps.getD 26 undef = .bool true := hd 15 (by rfl)
      refine wpOp_off (j := 15) (dj := 26) rfl rfl rfl d15 (by simp [undef]) ⟨undef, rfl, ?_, ?_⟩
      · exact (slots_put (ns := 40) (hsa.size.trans rfl) (by decide))
      · exact Below.refl _ _
    | 21, ho =>
      obtain rfl := Option.some.inj ho
      try dsimp only at hd
      have d15 : a'.tmps.getD 26 undef = .bool true := hd 15 (by rfl)
      refine wpOp_off (j := 15) (dj := 26) rfl rfl rfl d15 (by simp [undef]) ⟨undef, rfl, ?_, ?_⟩
      · exact (slots_put (ns := 40) (hsa.size.trans rfl) (by decide))
      · exact Below.refl _ _
    | 22, ho =>
      obtain rfl := Option.some.inj ho
      try dsimp only at hd
      have d15 : a'.tmps.getD 26 undef = .bool true := hd 15 (by rfl)
      have d21 : a'.tmps.getD 32 undef = undef := hd 21 (by rfl)
      refine wpOp_of rfl rfl ?_
      refine op_run (v := .bool true) (w' := w') ?_ ⟨_, rfl, ?_, ?_⟩
      · simp only [execOp, Act.eval, d15, d21]; first | (go_simp; done) | rfl
      · try dsimp only
        exact (slots_put (ns := 40) (hsa.size.trans rfl) (by decide))
      · exact Below.refl _ _
    | (n + 23), ho => exact absurd ho (by simp)
  case pdone =>
    intro a' w' hsa hb hd
    have d0 : a'.tmps.getD 11 undef = .bool true := hd 0 (by decide)
    have d1 : a'.tmps.getD 12 undef = .bool false := hd 1 (by decide)
    have d2 : a'.tmps.getD 13 undef = .bool false := hd 2 (by decide)
    have d3 : a'.tmps.getD 14 undef = .pointer (some ⟨sb, 1, none⟩) := hd 3 (by decide)
    have d4 : a'.tmps.getD 15 undef = .string xt := hd 4 (by decide)
    have d5 : a'.tmps.getD 16 undef = .pointer (some ⟨xb, 0, none⟩) := hd 5 (by decide)
    have d6 : a'.tmps.getD 17 undef = .pointer (some ⟨xb, 0, none⟩) := hd 6 (by decide)
    have d7 : a'.tmps.getD 18 undef = .pointer (some ⟨xb, 0, none⟩) := hd 7 (by decide)
    have d8 : a'.tmps.getD 19 undef = .string nm := hd 8 (by decide)
    have d9 : a'.tmps.getD 20 undef = .bool true := hd 9 (by decide)
    have d10 : a'.tmps.getD 21 undef = .bool true := hd 10 (by decide)
    have d11 : a'.tmps.getD 22 undef = .bool true := hd 11 (by decide)
    have d12 : a'.tmps.getD 23 undef = undef := hd 12 (by decide)
    have d13 : a'.tmps.getD 24 undef = undef := hd 13 (by decide)
    have d14 : a'.tmps.getD 25 undef = .bool true := hd 14 (by decide)
    have d15 : a'.tmps.getD 26 undef = .bool true := hd 15 (by decide)
    have d16 : a'.tmps.getD 27 undef = undef := hd 16 (by decide)
    have d17 : a'.tmps.getD 28 undef = undef := hd 17 (by decide)
    have d18 : a'.tmps.getD 29 undef = undef := hd 18 (by decide)
    have d19 : a'.tmps.getD 30 undef = undef := hd 19 (by decide)
    have d20 : a'.tmps.getD 31 undef = undef := hd 20 (by decide)
    have d21 : a'.tmps.getD 32 undef = undef := hd 21 (by decide)
    have d22 : a'.tmps.getD 33 undef = .bool true := hd 22 (by decide)
    exact HQ.out _ _ ⟨hsa.size.trans rfl, hsa.defers.trans rfl, hsa.rest 0 (by rfl), hsa.rest 1 (by rfl), hsa.rest 2 (by rfl), hsa.rest 3 (by rfl), hsa.rest 6 (by rfl), hsa.rest 7 (by rfl), hsa.rest 8 (by rfl)⟩ d22 hb
set_option maxHeartbeats 8000000 in
set_option maxRecDepth 100000 in
theorem zs_r2c2 {K : Act → World → Prop} {c : Code} (hc : regOf (Try.f21.body.getD .skip) 2 = some c) (a : Act) {v : Vzs} {wq : World} {sb xb : Nat} {nm : ByteArray} {n fi : Int} {xn xt : ByteArray} {xc xx : Int} (hF : Fzs a v) (h1v : v.v1 = .pointer (some ⟨xb, 0, none⟩)) (h2v : v.v2 = .int .i64 n) (h3v : v.v3 = .pointer (some ⟨sb, 0, none⟩)) (h8v : v.v8 = .bool true) (hSs : wq.heap[sb]? = some (.cells #[.string xn, .string xt, .int .i64 xc, .int .i64 xx] 37 (0, 0))) (hlx : xb < wq.heap.size) (hx0 : wq.cell? ⟨xb, 0, none⟩ = some (.string nm)) (hx2 : wq.cell? ⟨xb, 2, none⟩ = some (.int .i64 fi)) (hn : (xt.toList == nm.toList) = true) (h2 : n < 0)
    (hQ : ∀ a' w', Fzs a' v → a'.tmps.getD 33 undef = .bool true → Below wq.heap.size wq w' → K a' w') :
    Code.wp Try.prog c (Exit.then K fun _ _ _ => False) a wq := by
  have HQ := hide hQ
  clear hQ
  obtain ⟨t', d'⟩ := a
  obtain ⟨v0, v1, v2, v3, v6, v7, v8⟩ := v
  simp only at h1v h2v h3v h8v HQ
  subst h1v h2v h3v h8v
  obtain ⟨hs1, hd1, q0, q1, q2, q3, q6, q7, q8⟩ := hF
  obtain ⟨u, hu⟩ := frame_zs t' hs1
  simp only at hd1 q0 q1 q2 q3 q6 q7 q8
  subst hu hd1
  have e0 : u 0 = v0 := q0
  have e1 : u 1 = .pointer (some ⟨xb, 0, none⟩) := q1
  have e2 : u 2 = .int .i64 n := q2
  have e3 : u 3 = .pointer (some ⟨sb, 0, none⟩) := q3
  have e6 : u 6 = v6 := q6
  have e7 : u 7 = v7 := q7
  have e8 : u 8 = .bool true := q8
  rw [e0, e1, e2, e3, e6, e7, e8]
  clear q0 e0 q1 e1 q2 e2 q3 e3 q6 e6 q7 e7 q8 e8 hs1
  simp only [Try.f21, Option.getD_some, regOf] at hc
  injection hc with hc
  subst hc
  have HSS := hide hSs
  have HLS := hide (heap_lt hSs)
  have HLX := hide hlx
  have HX0 := hide hx0
  have HX2 := hide hx2
  clear hSs hlx hx0 hx2
  have HN := hide hn
  clear hn
  have H2 := hide h2
  clear h2
  refine wp_region_phi (by kernel_rfl) (ns := 40) (uses := (fun i => match i with | 0 => [11] | 1 => [12] | 2 => [13] | 3 => [14] | 4 => [15] | 5 => [16] | 6 => [17] | 7 => [18] | 8 => [19] | 9 => [20] | 10 => [21] | 11 => [22] | 12 => [23] | 13 => [24] | 14 => [25] | 15 => [26] | 16 => [27] | 17 => [28] | 18 => [29] | 19 => [30] | 20 => [31] | 21 => [32] | 22 => [33] | _ => [])) (by kernel_rfl) (by kernel_rfl) (fun _ w w' => Below w.heap.size w w') (fun w => Below wq.heap.size wq w) (fun _ _ _ h r => h.trans (r.mono h.size)) ((Below.refl _ _).drew) (fun i => match i with | 0 => fun s w => s 11 = .bool true | 1 => fun s w => s 12 = .bool false | 2 => fun s w => s 13 = .bool false | 3 => fun s w => s 14 = .pointer (some ⟨sb, 1, none⟩) | 4 => fun s w => s 15 = .string xt | 5 => fun s w => s 16 = .pointer (some ⟨xb, 0, none⟩) | 6 => fun s w => s 17 = .pointer (some ⟨xb, 0, none⟩) | 7 => fun s w => s 18 = .pointer (some ⟨xb, 0, none⟩) | 8 => fun s w => s 19 = .string nm | 9 => fun s w => s 20 = .bool false | 10 => fun s w => s 21 = .bool false | 11 => fun s w => s 22 = .bool false | 12 => fun s w => s 23 = .int .i64 n | 13 => fun s w => s 24 = .bool true | 14 => fun s w => s 25 = .bool true | 15 => fun s w => s 26 = .bool true | 16 => fun s w => s 27 = undef | 17 => fun s w => s 28 = undef | 18 => fun s w => s 29 = undef | 19 => fun s w => s 30 = undef | 20 => fun s w => s 31 = undef | 21 => fun s w => s 32 = undef | 22 => fun s w => s 33 = .bool true | _ => fun _ _ => True) ?phc ?phh ?pstep ?pdone
  case phc =>
    intro i s s' w hx h
    match i, hx, h with
    | 0, hx, h => exact (hx 11 (by simp)).symm.trans h
    | 1, hx, h => exact (hx 12 (by simp)).symm.trans h
    | 2, hx, h => exact (hx 13 (by simp)).symm.trans h
    | 3, hx, h => exact (hx 14 (by simp)).symm.trans h
    | 4, hx, h => exact (hx 15 (by simp)).symm.trans h
    | 5, hx, h => exact (hx 16 (by simp)).symm.trans h
    | 6, hx, h => exact (hx 17 (by simp)).symm.trans h
    | 7, hx, h => exact (hx 18 (by simp)).symm.trans h
    | 8, hx, h => exact (hx 19 (by simp)).symm.trans h
    | 9, hx, h => exact (hx 20 (by simp)).symm.trans h
    | 10, hx, h => exact (hx 21 (by simp)).symm.trans h
    | 11, hx, h => exact (hx 22 (by simp)).symm.trans h
    | 12, hx, h => exact (hx 23 (by simp)).symm.trans h
    | 13, hx, h => exact (hx 24 (by simp)).symm.trans h
    | 14, hx, h => exact (hx 25 (by simp)).symm.trans h
    | 15, hx, h => exact (hx 26 (by simp)).symm.trans h
    | 16, hx, h => exact (hx 27 (by simp)).symm.trans h
    | 17, hx, h => exact (hx 28 (by simp)).symm.trans h
    | 18, hx, h => exact (hx 29 (by simp)).symm.trans h
    | 19, hx, h => exact (hx 30 (by simp)).symm.trans h
    | 20, hx, h => exact (hx 31 (by simp)).symm.trans h
    | 21, hx, h => exact (hx 32 (by simp)).symm.trans h
    | 22, hx, h => exact (hx 33 (by simp)).symm.trans h
    | (n + 23), _, h => exact h
  case phh =>
    intro i j s w w' hij h hb r
    match i, hij, h with
    | 0, hij, h =>
      exact h
    | 1, hij, h =>
      exact h
    | 2, hij, h =>
      exact h
    | 3, hij, h =>
      exact h
    | 4, hij, h =>
      exact h
    | 5, hij, h =>
      exact h
    | 6, hij, h =>
      exact h
    | 7, hij, h =>
      exact h
    | 8, hij, h =>
      exact h
    | 9, hij, h =>
      exact h
    | 10, hij, h =>
      exact h
    | 11, hij, h =>
      exact h
    | 12, hij, h =>
      exact h
    | 13, hij, h =>
      exact h
    | 14, hij, h =>
      exact h
    | 15, hij, h =>
      exact h
    | 16, hij, h =>
      exact h
    | 17, hij, h =>
      exact h
    | 18, hij, h =>
      exact h
    | 19, hij, h =>
      exact h
    | 20, hij, h =>
      exact h
    | 21, hij, h =>
      exact h
    | 22, hij, h =>
      exact h
    | (n + 23), _, h => exact h
  case pstep =>
    intro i o ho a' w' hsa hb hd
    match i, ho with
    | 0, ho =>
      obtain rfl := Option.some.inj ho
      try dsimp only at hd
      have g8 : a'.tmps.getD 8 undef = .bool true := hsa.rest 8 (by rfl)
      refine wpOp_of rfl rfl ?_
      refine op_run (v := .bool true) (w' := w') ?_ ⟨_, rfl, ?_, ?_⟩
      · simp only [execOp, Act.eval, g8]; first | (go_simp; done) | rfl
      · try dsimp only
        exact (slots_put (ns := 40) (hsa.size.trans rfl) (by decide))
      · exact Below.refl _ _
    | 1, ho =>
      obtain rfl := Option.some.inj ho
      try dsimp only at hd
      have d0 : a'.tmps.getD 11 undef = .bool true := hd 0 (by rfl)
      refine wpOp_of rfl rfl ?_
      refine op_run (v := .bool false) (w' := w') ?_ ⟨_, rfl, ?_, ?_⟩
      · simp only [execOp, Act.eval, d0]; first | (go_simp; done) | rfl
      · try dsimp only
        exact (slots_put (ns := 40) (hsa.size.trans rfl) (by decide))
      · exact Below.refl _ _
    | 2, ho =>
      obtain rfl := Option.some.inj ho
      try dsimp only at hd
      have d1 : a'.tmps.getD 12 undef = .bool false := hd 1 (by rfl)
      refine wpOp_of rfl rfl ?_
      refine op_run (v := .bool false) (w' := w') ?_ ⟨_, rfl, ?_, ?_⟩
      · simp only [execOp, Act.eval, d1]; first | (go_simp; done) | rfl
      · try dsimp only
        exact (slots_put (ns := 40) (hsa.size.trans rfl) (by decide))
      · exact Below.refl _ _
    | 3, ho =>
      obtain rfl := Option.some.inj ho
      try dsimp only at hd
      have d2 : a'.tmps.getD 13 undef = .bool false := hd 2 (by rfl)
      have g3 : a'.tmps.getD 3 undef = .pointer (some ⟨sb, 0, none⟩) := hsa.rest 3 (by rfl)
      refine wpOp_on (j := 2) (dj := 13) rfl rfl rfl d2 ?_
      refine op_run (v := .pointer (some ⟨sb, 1, none⟩)) (w' := w') ?_ ⟨_, rfl, ?_, ?_⟩
      · simp only [execOp, Act.eval, d2, g3]; first | (go_simp; done) | rfl
      · try dsimp only
        exact (slots_put (ns := 40) (hsa.size.trans rfl) (by decide))
      · exact Below.refl _ _
    | 4, ho =>
      obtain rfl := Option.some.inj ho
      try dsimp only at hd
      have d2 : a'.tmps.getD 13 undef = .bool false := hd 2 (by rfl)
      have d3 : a'.tmps.getD 14 undef = .pointer (some ⟨sb, 1, none⟩) := hd 3 (by rfl)
      have y : w'.cell? ⟨sb, 1, none⟩ = some (.string xt) := (hb.cell (p := ⟨sb, 1, none⟩) HLS.out).trans (box_cell HSS.out 1 rfl)
      refine wpOp_on (j := 2) (dj := 13) rfl rfl rfl d2 ?_
      refine op_run (v := .string xt) (w' := w') ?_ ⟨_, rfl, ?_, ?_⟩
      · simp only [execOp, Act.eval, d2, d3, y]; first | (go_simp; done) | rfl
      · try dsimp only
        exact (slots_put (ns := 40) (hsa.size.trans rfl) (by decide))
      · exact Below.refl _ _
    | 5, ho =>
      obtain rfl := Option.some.inj ho
      try dsimp only at hd
      have d2 : a'.tmps.getD 13 undef = .bool false := hd 2 (by rfl)
      have g1 : a'.tmps.getD 1 undef = .pointer (some ⟨xb, 0, none⟩) := hsa.rest 1 (by rfl)
      refine wpOp_on (j := 2) (dj := 13) rfl rfl rfl d2 ?_
      refine op_run (v := .pointer (some ⟨xb, 0, none⟩)) (w' := w') ?_ ⟨_, rfl, ?_, ?_⟩
      · simp only [execOp, Act.eval, d2, g1]; first | (go_simp; done) | rfl
      · try dsimp only
        exact (slots_put (ns := 40) (hsa.size.trans rfl) (by decide))
      · exact Below.refl _ _
    | 6, ho =>
      obtain rfl := Option.some.inj ho
      try dsimp only at hd
      have d2 : a'.tmps.getD 13 undef = .bool false := hd 2 (by rfl)
      have d5 : a'.tmps.getD 16 undef = .pointer (some ⟨xb, 0, none⟩) := hd 5 (by rfl)
      refine wpOp_on (j := 2) (dj := 13) rfl rfl rfl d2 ?_
      refine op_run (v := .pointer (some ⟨xb, 0, none⟩)) (w' := w') ?_ ⟨_, rfl, ?_, ?_⟩
      · simp only [execOp, Act.eval, d2, d5]; first | (go_simp; done) | rfl
      · try dsimp only
        exact (slots_put (ns := 40) (hsa.size.trans rfl) (by decide))
      · exact Below.refl _ _
    | 7, ho =>
      obtain rfl := Option.some.inj ho
      try dsimp only at hd
      have d2 : a'.tmps.getD 13 undef = .bool false := hd 2 (by rfl)
      have d6 : a'.tmps.getD 17 undef = .pointer (some ⟨xb, 0, none⟩) := hd 6 (by rfl)
      refine wpOp_on (j := 2) (dj := 13) rfl rfl rfl d2 ?_
      refine op_run (v := .pointer (some ⟨xb, 0, none⟩)) (w' := w') ?_ ⟨_, rfl, ?_, ?_⟩
      · simp only [execOp, Act.eval, d2, d6]; first | (go_simp; done) | rfl
      · try dsimp only
        exact (slots_put (ns := 40) (hsa.size.trans rfl) (by decide))
      · exact Below.refl _ _
    | 8, ho =>
      obtain rfl := Option.some.inj ho
      try dsimp only at hd
      have d2 : a'.tmps.getD 13 undef = .bool false := hd 2 (by rfl)
      have d7 : a'.tmps.getD 18 undef = .pointer (some ⟨xb, 0, none⟩) := hd 7 (by rfl)
      have y : w'.cell? ⟨xb, 0, none⟩ = some (.string nm) := (hb.cell (p := ⟨xb, 0, none⟩) HLX.out).trans HX0.out
      refine wpOp_on (j := 2) (dj := 13) rfl rfl rfl d2 ?_
      refine op_run (v := .string nm) (w' := w') ?_ ⟨_, rfl, ?_, ?_⟩
      · simp only [execOp, Act.eval, d2, d7, y]; first | (go_simp; done) | rfl
      · try dsimp only
        exact (slots_put (ns := 40) (hsa.size.trans rfl) (by decide))
      · exact Below.refl _ _
    | 9, ho =>
      obtain rfl := Option.some.inj ho
      try dsimp only at hd
      have d2 : a'.tmps.getD 13 undef = .bool false := hd 2 (by rfl)
      have d4 : a'.tmps.getD 15 undef = .string xt := hd 4 (by rfl)
      have d8 : a'.tmps.getD 19 undef = .string nm := hd 8 (by rfl)
      have y := HN.out
      refine wpOp_on (j := 2) (dj := 13) rfl rfl rfl d2 ?_
      refine op_run (v := .bool false) (w' := w') ?_ ⟨_, rfl, ?_, ?_⟩
      · simp only [execOp, Act.eval, d2, d4, d8, y]; first | (go_simp; done) | rfl
      · try dsimp only
        exact (slots_put (ns := 40) (hsa.size.trans rfl) (by decide))
      · exact Below.refl _ _
    | 10, ho =>
      obtain rfl := Option.some.inj ho
      try dsimp only at hd
      have d2 : a'.tmps.getD 13 undef = .bool false := hd 2 (by rfl)
      have d9 : a'.tmps.getD 20 undef = .bool false := hd 9 (by rfl)
      refine wpOp_of rfl rfl ?_
      refine op_run (v := .bool false) (w' := w') ?_ ⟨_, rfl, ?_, ?_⟩
      · simp only [execOp, Act.eval, d2, d9]; first | (go_simp; done) | rfl
      · try dsimp only
        exact (slots_put (ns := 40) (hsa.size.trans rfl) (by decide))
      · exact Below.refl _ _
    | 11, ho =>
      obtain rfl := Option.some.inj ho
      try dsimp only at hd
      have d10 : a'.tmps.getD 21 undef = .bool false := hd 10 (by rfl)
      refine wpOp_of rfl rfl ?_
      refine op_run (v := .bool false) (w' := w') ?_ ⟨_, rfl, ?_, ?_⟩
      · simp only [execOp, Act.eval, d10]; first | (go_simp; done) | rfl
      · try dsimp only
        exact (slots_put (ns := 40) (hsa.size.trans rfl) (by decide))
      · exact Below.refl _ _
    | 12, ho =>
      obtain rfl := Option.some.inj ho
      try dsimp only at hd
      have d11 : a'.tmps.getD 22 undef = .bool false := hd 11 (by rfl)
      have g2 : a'.tmps.getD 2 undef = .int .i64 n := hsa.rest 2 (by rfl)
      refine wpOp_on (j := 11) (dj := 22) rfl rfl rfl d11 ?_
      refine op_run (v := .int .i64 n) (w' := w') ?_ ⟨_, rfl, ?_, ?_⟩
      · simp only [execOp, Act.eval, d11, g2]; first | (go_simp; done) | rfl
      · try dsimp only
        exact (slots_put (ns := 40) (hsa.size.trans rfl) (by decide))
      · exact Below.refl _ _
    | 13, ho =>
      obtain rfl := Option.some.inj ho
      try dsimp only at hd
      have d11 : a'.tmps.getD 22 undef = .bool false := hd 11 (by rfl)
      have d12 : a'.tmps.getD 23 undef = .int .i64 n := hd 12 (by rfl)
      have y := H2.out
      refine wpOp_on (j := 11) (dj := 22) rfl rfl rfl d11 ?_
      refine op_run (v := .bool true) (w' := w') ?_ ⟨_, rfl, ?_, ?_⟩
      · simp only [execOp, Act.eval, d11, d12, y]; first | (go_simp; done) | rfl
      · try dsimp only
        exact (slots_put (ns := 40) (hsa.size.trans rfl) (by decide))
      · exact Below.refl _ _
    | 14, ho =>
      obtain rfl := Option.some.inj ho
      try dsimp only at hd
      have d11 : a'.tmps.getD 22 undef = .bool false := hd 11 (by rfl)
      have d13 : a'.tmps.getD 24 undef = .bool true := hd 13 (by rfl)
      refine wpOp_of rfl rfl ?_
      refine op_run (v := .bool true) (w' := w') ?_ ⟨_, rfl, ?_, ?_⟩
      · simp only [execOp, Act.eval, d11, d13]; first | (go_simp; done) | rfl
      · try dsimp only
        exact (slots_put (ns := 40) (hsa.size.trans rfl) (by decide))
      · exact Below.refl _ _
    | 15, ho =>
      obtain rfl := Option.some.inj ho
      try dsimp only at hd
      have d14 : a'.tmps.getD 25 undef = .bool true := hd 14 (by rfl)
      refine wpOp_of rfl rfl ?_
      refine op_run (v := .bool true) (w' := w') ?_ ⟨_, rfl, ?_, ?_⟩
      · simp only [execOp, Act.eval, d14]; first | (go_simp; done) | rfl
      · try dsimp only
        exact (slots_put (ns := 40) (hsa.size.trans rfl) (by decide))
      · exact Below.refl _ _
    | 16, ho =>
      obtain rfl := Option.some.inj ho
      try dsimp only at hd
      have d15 : a'.tmps.getD 26 undef = .bool true := hd 15 (by rfl)
      refine wpOp_off (j := 15) (dj := 26) rfl rfl rfl d15 (by simp [undef]) ⟨undef, rfl, ?_, ?_⟩
      · exact (slots_put (ns := 40) (hsa.size.trans rfl) (by decide))
      · exact Below.refl _ _
    | 17, ho =>
      obtain rfl := Option.some.inj ho
      try dsimp only at hd
      have d15 : a'.tmps.getD 26 undef = .bool true := hd 15 (by rfl)
      refine wpOp_off (j := 15) (dj := 26) rfl rfl rfl d15 (by simp [undef]) ⟨undef, rfl, ?_, ?_⟩
      · exact (slots_put (ns := 40) (hsa.size.trans rfl) (by decide))
      · exact Below.refl _ _
    | 18, ho =>
      obtain rfl := Option.some.inj ho
      try dsimp only at hd
      have d15 : a'.tmps.getD 26 undef = .bool true := hd 15 (by rfl)
      refine wpOp_off (j := 15) (dj := 26) rfl rfl rfl d15 (by simp [undef]) ⟨undef, rfl, ?_, ?_⟩
      · exact (slots_put (ns := 40) (hsa.size.trans rfl) (by decide))
      · exact Below.refl _ _
    | 19, ho =>
      obtain rfl := Option.some.inj ho
      try dsimp only at hd
      have d15 : a'.tmps.getD 26 undef = .bool true := hd 15 (by rfl)
      refine wpOp_off (j := 15) (dj := 26) rfl rfl rfl d15 (by simp [undef]) ⟨undef, rfl, ?_, ?_⟩
      · exact (slots_put (ns := 40) (hsa.size.trans rfl) (by decide))
      · exact Below.refl _ _
    | 20, ho =>
      obtain rfl := Option.some.inj ho
      try dsimp only at hd
      have d15 : a'.tmps.getD 26 undef = .bool true := hd 15 (by rfl)
      refine wpOp_off (j := 15) (dj := 26) rfl rfl rfl d15 (by simp [undef]) ⟨undef, rfl, ?_, ?_⟩
      · exact (slots_put (ns := 40) (hsa.size.trans rfl) (by decide))
      · exact Below.refl _ _
    | 21, ho =>
      obtain rfl := Option.some.inj ho
      try dsimp only at hd
      have d15 : a'.tmps.getD 26 undef = .bool true := hd 15 (by rfl)
      refine wpOp_off (j := 15) (dj := 26) rfl rfl rfl d15 (by simp [undef]) ⟨undef, rfl, ?_, ?_⟩
      · exact (slots_put (ns := 40) (hsa.size.trans rfl) (by decide))
      · exact Below.refl _ _
    | 22, ho =>
      obtain rfl := Option.some.inj ho
      try dsimp only at hd
      have d15 : a'.tmps.getD 26 undef = .bool true := hd 15 (by rfl)
      have d21 : a'.tmps.getD 32 undef = undef := hd 21 (by rfl)
      refine wpOp_of rfl rfl ?_
      refine op_run (v := .bool true) (w' := w') ?_ ⟨_, rfl, ?_, ?_⟩
      · simp only [execOp, Act.eval, d15, d21]; first | (go_simp; done) | rfl
      · try dsimp only
        exact (slots_put (ns := 40) (hsa.size.trans rfl) (by decide))
      · exact Below.refl _ _
    | (n + 23), ho => exact absurd ho (by simp)
  case pdone =>
    intro a' w' hsa hb hd
    have d0 : a'.tmps.getD 11 undef = .bool true := hd 0 (by decide)
    have d1 : a'.tmps.getD 12 undef = .bool false := hd 1 (by decide)
    have d2 : a'.tmps.getD 13 undef = .bool false := hd 2 (by decide)
    have d3 : a'.tmps.getD 14 undef = .pointer (some ⟨sb, 1, none⟩) := hd 3 (by decide)
    have d4 : a'.tmps.getD 15 undef = .string xt := hd 4 (by decide)
    have d5 : a'.tmps.getD 16 undef = .pointer (some ⟨xb, 0, none⟩) := hd 5 (by decide)
    have d6 : a'.tmps.getD 17 undef = .pointer (some ⟨xb, 0, none⟩) := hd 6 (by decide)
    have d7 : a'.tmps.getD 18 undef = .pointer (some ⟨xb, 0, none⟩) := hd 7 (by decide)
    have d8 : a'.tmps.getD 19 undef = .string nm := hd 8 (by decide)
    have d9 : a'.tmps.getD 20 undef = .bool false := hd 9 (by decide)
    have d10 : a'.tmps.getD 21 undef = .bool false := hd 10 (by decide)
    have d11 : a'.tmps.getD 22 undef = .bool false := hd 11 (by decide)
    have d12 : a'.tmps.getD 23 undef = .int .i64 n := hd 12 (by decide)
    have d13 : a'.tmps.getD 24 undef = .bool true := hd 13 (by decide)
    have d14 : a'.tmps.getD 25 undef = .bool true := hd 14 (by decide)
    have d15 : a'.tmps.getD 26 undef = .bool true := hd 15 (by decide)
    have d16 : a'.tmps.getD 27 undef = undef := hd 16 (by decide)
    have d17 : a'.tmps.getD 28 undef = undef := hd 17 (by decide)
    have d18 : a'.tmps.getD 29 undef = undef := hd 18 (by decide)
    have d19 : a'.tmps.getD 30 undef = undef := hd 19 (by decide)
    have d20 : a'.tmps.getD 31 undef = undef := hd 20 (by decide)
    have d21 : a'.tmps.getD 32 undef = undef := hd 21 (by decide)
    have d22 : a'.tmps.getD 33 undef = .bool true := hd 22 (by decide)
    exact HQ.out _ _ ⟨hsa.size.trans rfl, hsa.defers.trans rfl, hsa.rest 0 (by rfl), hsa.rest 1 (by rfl), hsa.rest 2 (by rfl), hsa.rest 3 (by rfl), hsa.rest 6 (by rfl), hsa.rest 7 (by rfl), hsa.rest 8 (by rfl)⟩ d22 hb
set_option maxHeartbeats 8000000 in
set_option maxRecDepth 100000 in
theorem zs_r2c3 {K : Act → World → Prop} {c : Code} (hc : regOf (Try.f21.body.getD .skip) 2 = some c) (a : Act) {v : Vzs} {wq : World} {sb xb : Nat} {nm : ByteArray} {n fi : Int} {xn xt : ByteArray} {xc xx : Int} (hF : Fzs a v) (h1v : v.v1 = .pointer (some ⟨xb, 0, none⟩)) (h2v : v.v2 = .int .i64 n) (h3v : v.v3 = .pointer (some ⟨sb, 0, none⟩)) (h8v : v.v8 = .bool true) (hSs : wq.heap[sb]? = some (.cells #[.string xn, .string xt, .int .i64 xc, .int .i64 xx] 37 (0, 0))) (hlx : xb < wq.heap.size) (hx0 : wq.cell? ⟨xb, 0, none⟩ = some (.string nm)) (hx2 : wq.cell? ⟨xb, 2, none⟩ = some (.int .i64 fi)) (hn : (xt.toList == nm.toList) = true) (h2 : ¬ n < 0) (h3 : fi < n)
    (hQ : ∀ a' w', Fzs a' v → a'.tmps.getD 33 undef = .bool true → Below wq.heap.size wq w' → K a' w') :
    Code.wp Try.prog c (Exit.then K fun _ _ _ => False) a wq := by
  have HQ := hide hQ
  clear hQ
  obtain ⟨t', d'⟩ := a
  obtain ⟨v0, v1, v2, v3, v6, v7, v8⟩ := v
  simp only at h1v h2v h3v h8v HQ
  subst h1v h2v h3v h8v
  obtain ⟨hs1, hd1, q0, q1, q2, q3, q6, q7, q8⟩ := hF
  obtain ⟨u, hu⟩ := frame_zs t' hs1
  simp only at hd1 q0 q1 q2 q3 q6 q7 q8
  subst hu hd1
  have e0 : u 0 = v0 := q0
  have e1 : u 1 = .pointer (some ⟨xb, 0, none⟩) := q1
  have e2 : u 2 = .int .i64 n := q2
  have e3 : u 3 = .pointer (some ⟨sb, 0, none⟩) := q3
  have e6 : u 6 = v6 := q6
  have e7 : u 7 = v7 := q7
  have e8 : u 8 = .bool true := q8
  rw [e0, e1, e2, e3, e6, e7, e8]
  clear q0 e0 q1 e1 q2 e2 q3 e3 q6 e6 q7 e7 q8 e8 hs1
  simp only [Try.f21, Option.getD_some, regOf] at hc
  injection hc with hc
  subst hc
  have HSS := hide hSs
  have HLS := hide (heap_lt hSs)
  have HLX := hide hlx
  have HX0 := hide hx0
  have HX2 := hide hx2
  clear hSs hlx hx0 hx2
  have HN := hide hn
  clear hn
  have H2 := hide h2
  clear h2
  have H3 := hide h3
  have H3b : Hid (n > fi) := h3
  clear h3
  refine wp_region_phi (by kernel_rfl) (ns := 40) (uses := (fun i => match i with | 0 => [11] | 1 => [12] | 2 => [13] | 3 => [14] | 4 => [15] | 5 => [16] | 6 => [17] | 7 => [18] | 8 => [19] | 9 => [20] | 10 => [21] | 11 => [22] | 12 => [23] | 13 => [24] | 14 => [25] | 15 => [26] | 16 => [27] | 17 => [28] | 18 => [29] | 19 => [30] | 20 => [31] | 21 => [32] | 22 => [33] | _ => [])) (by kernel_rfl) (by kernel_rfl) (fun _ w w' => Below w.heap.size w w') (fun w => Below wq.heap.size wq w) (fun _ _ _ h r => h.trans (r.mono h.size)) ((Below.refl _ _).drew) (fun i => match i with | 0 => fun s w => s 11 = .bool true | 1 => fun s w => s 12 = .bool false | 2 => fun s w => s 13 = .bool false | 3 => fun s w => s 14 = .pointer (some ⟨sb, 1, none⟩) | 4 => fun s w => s 15 = .string xt | 5 => fun s w => s 16 = .pointer (some ⟨xb, 0, none⟩) | 6 => fun s w => s 17 = .pointer (some ⟨xb, 0, none⟩) | 7 => fun s w => s 18 = .pointer (some ⟨xb, 0, none⟩) | 8 => fun s w => s 19 = .string nm | 9 => fun s w => s 20 = .bool false | 10 => fun s w => s 21 = .bool false | 11 => fun s w => s 22 = .bool false | 12 => fun s w => s 23 = .int .i64 n | 13 => fun s w => s 24 = .bool false | 14 => fun s w => s 25 = .bool false | 15 => fun s w => s 26 = .bool false | 16 => fun s w => s 27 = .int .i64 n | 17 => fun s w => s 28 = .pointer (some ⟨xb, 0, none⟩) | 18 => fun s w => s 29 = .pointer (some ⟨xb, 0, none⟩) | 19 => fun s w => s 30 = .pointer (some ⟨xb, 2, none⟩) | 20 => fun s w => s 31 = .int .i64 fi | 21 => fun s w => s 32 = .bool true | 22 => fun s w => s 33 = .bool true | _ => fun _ _ => True) ?phc ?phh ?pstep ?pdone
  case phc =>
    intro i s s' w hx h
    match i, hx, h with
    | 0, hx, h => exact (hx 11 (by simp)).symm.trans h
    | 1, hx, h => exact (hx 12 (by simp)).symm.trans h
    | 2, hx, h => exact (hx 13 (by simp)).symm.trans h
    | 3, hx, h => exact (hx 14 (by simp)).symm.trans h
    | 4, hx, h => exact (hx 15 (by simp)).symm.trans h
    | 5, hx, h => exact (hx 16 (by simp)).symm.trans h
    | 6, hx, h => exact (hx 17 (by simp)).symm.trans h
    | 7, hx, h => exact (hx 18 (by simp)).symm.trans h
    | 8, hx, h => exact (hx 19 (by simp)).symm.trans h
    | 9, hx, h => exact (hx 20 (by simp)).symm.trans h
    | 10, hx, h => exact (hx 21 (by simp)).symm.trans h
    | 11, hx, h => exact (hx 22 (by simp)).symm.trans h
    | 12, hx, h => exact (hx 23 (by simp)).symm.trans h
    | 13, hx, h => exact (hx 24 (by simp)).symm.trans h
    | 14, hx, h => exact (hx 25 (by simp)).symm.trans h
    | 15, hx, h => exact (hx 26 (by simp)).symm.trans h
    | 16, hx, h => exact (hx 27 (by simp)).symm.trans h
    | 17, hx, h => exact (hx 28 (by simp)).symm.trans h
    | 18, hx, h => exact (hx 29 (by simp)).symm.trans h
    | 19, hx, h => exact (hx 30 (by simp)).symm.trans h
    | 20, hx, h => exact (hx 31 (by simp)).symm.trans h
    | 21, hx, h => exact (hx 32 (by simp)).symm.trans h
    | 22, hx, h => exact (hx 33 (by simp)).symm.trans h
    | (n + 23), _, h => exact h
  case phh =>
    intro i j s w w' hij h hb r
    match i, hij, h with
    | 0, hij, h =>
      exact h
    | 1, hij, h =>
      exact h
    | 2, hij, h =>
      exact h
    | 3, hij, h =>
      exact h
    | 4, hij, h =>
      exact h
    | 5, hij, h =>
      exact h
    | 6, hij, h =>
      exact h
    | 7, hij, h =>
      exact h
    | 8, hij, h =>
      exact h
    | 9, hij, h =>
      exact h
    | 10, hij, h =>
      exact h
    | 11, hij, h =>
      exact h
    | 12, hij, h =>
      exact h
    | 13, hij, h =>
      exact h
    | 14, hij, h =>
      exact h
    | 15, hij, h =>
      exact h
    | 16, hij, h =>
      exact h
    | 17, hij, h =>
      exact h
    | 18, hij, h =>
      exact h
    | 19, hij, h =>
      exact h
    | 20, hij, h =>
      exact h
    | 21, hij, h =>
      exact h
    | 22, hij, h =>
      exact h
    | (n + 23), _, h => exact h
  case pstep =>
    intro i o ho a' w' hsa hb hd
    match i, ho with
    | 0, ho =>
      obtain rfl := Option.some.inj ho
      try dsimp only at hd
      have g8 : a'.tmps.getD 8 undef = .bool true := hsa.rest 8 (by rfl)
      refine wpOp_of rfl rfl ?_
      refine op_run (v := .bool true) (w' := w') ?_ ⟨_, rfl, ?_, ?_⟩
      · simp only [execOp, Act.eval, g8]; first | (go_simp; done) | rfl
      · try dsimp only
        exact (slots_put (ns := 40) (hsa.size.trans rfl) (by decide))
      · exact Below.refl _ _
    | 1, ho =>
      obtain rfl := Option.some.inj ho
      try dsimp only at hd
      have d0 : a'.tmps.getD 11 undef = .bool true := hd 0 (by rfl)
      refine wpOp_of rfl rfl ?_
      refine op_run (v := .bool false) (w' := w') ?_ ⟨_, rfl, ?_, ?_⟩
      · simp only [execOp, Act.eval, d0]; first | (go_simp; done) | rfl
      · try dsimp only
        exact (slots_put (ns := 40) (hsa.size.trans rfl) (by decide))
      · exact Below.refl _ _
    | 2, ho =>
      obtain rfl := Option.some.inj ho
      try dsimp only at hd
      have d1 : a'.tmps.getD 12 undef = .bool false := hd 1 (by rfl)
      refine wpOp_of rfl rfl ?_
      refine op_run (v := .bool false) (w' := w') ?_ ⟨_, rfl, ?_, ?_⟩
      · simp only [execOp, Act.eval, d1]; first | (go_simp; done) | rfl
      · try dsimp only
        exact (slots_put (ns := 40) (hsa.size.trans rfl) (by decide))
      · exact Below.refl _ _
    | 3, ho =>
      obtain rfl := Option.some.inj ho
      try dsimp only at hd
      have d2 : a'.tmps.getD 13 undef = .bool false := hd 2 (by rfl)
      have g3 : a'.tmps.getD 3 undef = .pointer (some ⟨sb, 0, none⟩) := hsa.rest 3 (by rfl)
      refine wpOp_on (j := 2) (dj := 13) rfl rfl rfl d2 ?_
      refine op_run (v := .pointer (some ⟨sb, 1, none⟩)) (w' := w') ?_ ⟨_, rfl, ?_, ?_⟩
      · simp only [execOp, Act.eval, d2, g3]; first | (go_simp; done) | rfl
      · try dsimp only
        exact (slots_put (ns := 40) (hsa.size.trans rfl) (by decide))
      · exact Below.refl _ _
    | 4, ho =>
      obtain rfl := Option.some.inj ho
      try dsimp only at hd
      have d2 : a'.tmps.getD 13 undef = .bool false := hd 2 (by rfl)
      have d3 : a'.tmps.getD 14 undef = .pointer (some ⟨sb, 1, none⟩) := hd 3 (by rfl)
      have y : w'.cell? ⟨sb, 1, none⟩ = some (.string xt) := (hb.cell (p := ⟨sb, 1, none⟩) HLS.out).trans (box_cell HSS.out 1 rfl)
      refine wpOp_on (j := 2) (dj := 13) rfl rfl rfl d2 ?_
      refine op_run (v := .string xt) (w' := w') ?_ ⟨_, rfl, ?_, ?_⟩
      · simp only [execOp, Act.eval, d2, d3, y]; first | (go_simp; done) | rfl
      · try dsimp only
        exact (slots_put (ns := 40) (hsa.size.trans rfl) (by decide))
      · exact Below.refl _ _
    | 5, ho =>
      obtain rfl := Option.some.inj ho
      try dsimp only at hd
      have d2 : a'.tmps.getD 13 undef = .bool false := hd 2 (by rfl)
      have g1 : a'.tmps.getD 1 undef = .pointer (some ⟨xb, 0, none⟩) := hsa.rest 1 (by rfl)
      refine wpOp_on (j := 2) (dj := 13) rfl rfl rfl d2 ?_
      refine op_run (v := .pointer (some ⟨xb, 0, none⟩)) (w' := w') ?_ ⟨_, rfl, ?_, ?_⟩
      · simp only [execOp, Act.eval, d2, g1]; first | (go_simp; done) | rfl
      · try dsimp only
        exact (slots_put (ns := 40) (hsa.size.trans rfl) (by decide))
      · exact Below.refl _ _
    | 6, ho =>
      obtain rfl := Option.some.inj ho
      try dsimp only at hd
      have d2 : a'.tmps.getD 13 undef = .bool false := hd 2 (by rfl)
      have d5 : a'.tmps.getD 16 undef = .pointer (some ⟨xb, 0, none⟩) := hd 5 (by rfl)
      refine wpOp_on (j := 2) (dj := 13) rfl rfl rfl d2 ?_
      refine op_run (v := .pointer (some ⟨xb, 0, none⟩)) (w' := w') ?_ ⟨_, rfl, ?_, ?_⟩
      · simp only [execOp, Act.eval, d2, d5]; first | (go_simp; done) | rfl
      · try dsimp only
        exact (slots_put (ns := 40) (hsa.size.trans rfl) (by decide))
      · exact Below.refl _ _
    | 7, ho =>
      obtain rfl := Option.some.inj ho
      try dsimp only at hd
      have d2 : a'.tmps.getD 13 undef = .bool false := hd 2 (by rfl)
      have d6 : a'.tmps.getD 17 undef = .pointer (some ⟨xb, 0, none⟩) := hd 6 (by rfl)
      refine wpOp_on (j := 2) (dj := 13) rfl rfl rfl d2 ?_
      refine op_run (v := .pointer (some ⟨xb, 0, none⟩)) (w' := w') ?_ ⟨_, rfl, ?_, ?_⟩
      · simp only [execOp, Act.eval, d2, d6]; first | (go_simp; done) | rfl
      · try dsimp only
        exact (slots_put (ns := 40) (hsa.size.trans rfl) (by decide))
      · exact Below.refl _ _
    | 8, ho =>
      obtain rfl := Option.some.inj ho
      try dsimp only at hd
      have d2 : a'.tmps.getD 13 undef = .bool false := hd 2 (by rfl)
      have d7 : a'.tmps.getD 18 undef = .pointer (some ⟨xb, 0, none⟩) := hd 7 (by rfl)
      have y : w'.cell? ⟨xb, 0, none⟩ = some (.string nm) := (hb.cell (p := ⟨xb, 0, none⟩) HLX.out).trans HX0.out
      refine wpOp_on (j := 2) (dj := 13) rfl rfl rfl d2 ?_
      refine op_run (v := .string nm) (w' := w') ?_ ⟨_, rfl, ?_, ?_⟩
      · simp only [execOp, Act.eval, d2, d7, y]; first | (go_simp; done) | rfl
      · try dsimp only
        exact (slots_put (ns := 40) (hsa.size.trans rfl) (by decide))
      · exact Below.refl _ _
    | 9, ho =>
      obtain rfl := Option.some.inj ho
      try dsimp only at hd
      have d2 : a'.tmps.getD 13 undef = .bool false := hd 2 (by rfl)
      have d4 : a'.tmps.getD 15 undef = .string xt := hd 4 (by rfl)
      have d8 : a'.tmps.getD 19 undef = .string nm := hd 8 (by rfl)
      have y := HN.out
      refine wpOp_on (j := 2) (dj := 13) rfl rfl rfl d2 ?_
      refine op_run (v := .bool false) (w' := w') ?_ ⟨_, rfl, ?_, ?_⟩
      · simp only [execOp, Act.eval, d2, d4, d8, y]; first | (go_simp; done) | rfl
      · try dsimp only
        exact (slots_put (ns := 40) (hsa.size.trans rfl) (by decide))
      · exact Below.refl _ _
    | 10, ho =>
      obtain rfl := Option.some.inj ho
      try dsimp only at hd
      have d2 : a'.tmps.getD 13 undef = .bool false := hd 2 (by rfl)
      have d9 : a'.tmps.getD 20 undef = .bool false := hd 9 (by rfl)
      refine wpOp_of rfl rfl ?_
      refine op_run (v := .bool false) (w' := w') ?_ ⟨_, rfl, ?_, ?_⟩
      · simp only [execOp, Act.eval, d2, d9]; first | (go_simp; done) | rfl
      · try dsimp only
        exact (slots_put (ns := 40) (hsa.size.trans rfl) (by decide))
      · exact Below.refl _ _
    | 11, ho =>
      obtain rfl := Option.some.inj ho
      try dsimp only at hd
      have d10 : a'.tmps.getD 21 undef = .bool false := hd 10 (by rfl)
      refine wpOp_of rfl rfl ?_
      refine op_run (v := .bool false) (w' := w') ?_ ⟨_, rfl, ?_, ?_⟩
      · simp only [execOp, Act.eval, d10]; first | (go_simp; done) | rfl
      · try dsimp only
        exact (slots_put (ns := 40) (hsa.size.trans rfl) (by decide))
      · exact Below.refl _ _
    | 12, ho =>
      obtain rfl := Option.some.inj ho
      try dsimp only at hd
      have d11 : a'.tmps.getD 22 undef = .bool false := hd 11 (by rfl)
      have g2 : a'.tmps.getD 2 undef = .int .i64 n := hsa.rest 2 (by rfl)
      refine wpOp_on (j := 11) (dj := 22) rfl rfl rfl d11 ?_
      refine op_run (v := .int .i64 n) (w' := w') ?_ ⟨_, rfl, ?_, ?_⟩
      · simp only [execOp, Act.eval, d11, g2]; first | (go_simp; done) | rfl
      · try dsimp only
        exact (slots_put (ns := 40) (hsa.size.trans rfl) (by decide))
      · exact Below.refl _ _
    | 13, ho =>
      obtain rfl := Option.some.inj ho
      try dsimp only at hd
      have d11 : a'.tmps.getD 22 undef = .bool false := hd 11 (by rfl)
      have d12 : a'.tmps.getD 23 undef = .int .i64 n := hd 12 (by rfl)
      have y := H2.out
      refine wpOp_on (j := 11) (dj := 22) rfl rfl rfl d11 ?_
      refine op_run (v := .bool false) (w' := w') ?_ ⟨_, rfl, ?_, ?_⟩
      · simp only [execOp, Act.eval, d11, d12, y]; first | (go_simp; done) | rfl
      · try dsimp only
        exact (slots_put (ns := 40) (hsa.size.trans rfl) (by decide))
      · exact Below.refl _ _
    | 14, ho =>
      obtain rfl := Option.some.inj ho
      try dsimp only at hd
      have d11 : a'.tmps.getD 22 undef = .bool false := hd 11 (by rfl)
      have d13 : a'.tmps.getD 24 undef = .bool false := hd 13 (by rfl)
      refine wpOp_of rfl rfl ?_
      refine op_run (v := .bool false) (w' := w') ?_ ⟨_, rfl, ?_, ?_⟩
      · simp only [execOp, Act.eval, d11, d13]; first | (go_simp; done) | rfl
      · try dsimp only
        exact (slots_put (ns := 40) (hsa.size.trans rfl) (by decide))
      · exact Below.refl _ _
    | 15, ho =>
      obtain rfl := Option.some.inj ho
      try dsimp only at hd
      have d14 : a'.tmps.getD 25 undef = .bool false := hd 14 (by rfl)
      refine wpOp_of rfl rfl ?_
      refine op_run (v := .bool false) (w' := w') ?_ ⟨_, rfl, ?_, ?_⟩
      · simp only [execOp, Act.eval, d14]; first | (go_simp; done) | rfl
      · try dsimp only
        exact (slots_put (ns := 40) (hsa.size.trans rfl) (by decide))
      · exact Below.refl _ _
    | 16, ho =>
      obtain rfl := Option.some.inj ho
      try dsimp only at hd
      have d15 : a'.tmps.getD 26 undef = .bool false := hd 15 (by rfl)
      have g2 : a'.tmps.getD 2 undef = .int .i64 n := hsa.rest 2 (by rfl)
      refine wpOp_on (j := 15) (dj := 26) rfl rfl rfl d15 ?_
      refine op_run (v := .int .i64 n) (w' := w') ?_ ⟨_, rfl, ?_, ?_⟩
      · simp only [execOp, Act.eval, d15, g2]; first | (go_simp; done) | rfl
      · try dsimp only
        exact (slots_put (ns := 40) (hsa.size.trans rfl) (by decide))
      · exact Below.refl _ _
    | 17, ho =>
      obtain rfl := Option.some.inj ho
      try dsimp only at hd
      have d15 : a'.tmps.getD 26 undef = .bool false := hd 15 (by rfl)
      have g1 : a'.tmps.getD 1 undef = .pointer (some ⟨xb, 0, none⟩) := hsa.rest 1 (by rfl)
      refine wpOp_on (j := 15) (dj := 26) rfl rfl rfl d15 ?_
      refine op_run (v := .pointer (some ⟨xb, 0, none⟩)) (w' := w') ?_ ⟨_, rfl, ?_, ?_⟩
      · simp only [execOp, Act.eval, d15, g1]; first | (go_simp; done) | rfl
      · try dsimp only
        exact (slots_put (ns := 40) (hsa.size.trans rfl) (by decide))
      · exact Below.refl _ _
    | 18, ho =>
      obtain rfl := Option.some.inj ho
      try dsimp only at hd
      have d15 : a'.tmps.getD 26 undef = .bool false := hd 15 (by rfl)
      have d17 : a'.tmps.getD 28 undef = .pointer (some ⟨xb, 0, none⟩) := hd 17 (by rfl)
      refine wpOp_on (j := 15) (dj := 26) rfl rfl rfl d15 ?_
      refine op_run (v := .pointer (some ⟨xb, 0, none⟩)) (w' := w') ?_ ⟨_, rfl, ?_, ?_⟩
      · simp only [execOp, Act.eval, d15, d17]; first | (go_simp; done) | rfl
      · try dsimp only
        exact (slots_put (ns := 40) (hsa.size.trans rfl) (by decide))
      · exact Below.refl _ _
    | 19, ho =>
      obtain rfl := Option.some.inj ho
      try dsimp only at hd
      have d15 : a'.tmps.getD 26 undef = .bool false := hd 15 (by rfl)
      have d18 : a'.tmps.getD 29 undef = .pointer (some ⟨xb, 0, none⟩) := hd 18 (by rfl)
      refine wpOp_on (j := 15) (dj := 26) rfl rfl rfl d15 ?_
      refine op_run (v := .pointer (some ⟨xb, 2, none⟩)) (w' := w') ?_ ⟨_, rfl, ?_, ?_⟩
      · simp only [execOp, Act.eval, d15, d18]; first | (go_simp; done) | rfl
      · try dsimp only
        exact (slots_put (ns := 40) (hsa.size.trans rfl) (by decide))
      · exact Below.refl _ _
    | 20, ho =>
      obtain rfl := Option.some.inj ho
      try dsimp only at hd
      have d15 : a'.tmps.getD 26 undef = .bool false := hd 15 (by rfl)
      have d19 : a'.tmps.getD 30 undef = .pointer (some ⟨xb, 2, none⟩) := hd 19 (by rfl)
      have y : w'.cell? ⟨xb, 2, none⟩ = some (.int .i64 fi) := (hb.cell (p := ⟨xb, 2, none⟩) HLX.out).trans HX2.out
      refine wpOp_on (j := 15) (dj := 26) rfl rfl rfl d15 ?_
      refine op_run (v := .int .i64 fi) (w' := w') ?_ ⟨_, rfl, ?_, ?_⟩
      · simp only [execOp, Act.eval, d15, d19, y]; first | (go_simp; done) | rfl
      · try dsimp only
        exact (slots_put (ns := 40) (hsa.size.trans rfl) (by decide))
      · exact Below.refl _ _
    | 21, ho =>
      obtain rfl := Option.some.inj ho
      try dsimp only at hd
      have d15 : a'.tmps.getD 26 undef = .bool false := hd 15 (by rfl)
      have d16 : a'.tmps.getD 27 undef = .int .i64 n := hd 16 (by rfl)
      have d20 : a'.tmps.getD 31 undef = .int .i64 fi := hd 20 (by rfl)
      have y := H3.out
      have y2 := H3b.out
      refine wpOp_on (j := 15) (dj := 26) rfl rfl rfl d15 ?_
      refine op_run (v := .bool true) (w' := w') ?_ ⟨_, rfl, ?_, ?_⟩
      · simp only [execOp, Act.eval, d15, d16, d20, y, y2]; first | (go_simp; done) | rfl
      · try dsimp only
        exact (slots_put (ns := 40) (hsa.size.trans rfl) (by decide))
      · exact Below.refl _ _
    | 22, ho =>
      obtain rfl := Option.some.inj ho
      try dsimp only at hd
      have d15 : a'.tmps.getD 26 undef = .bool false := hd 15 (by rfl)
      have d21 : a'.tmps.getD 32 undef = .bool true := hd 21 (by rfl)
      refine wpOp_of rfl rfl ?_
      refine op_run (v := .bool true) (w' := w') ?_ ⟨_, rfl, ?_, ?_⟩
      · simp only [execOp, Act.eval, d15, d21]; first | (go_simp; done) | rfl
      · try dsimp only
        exact (slots_put (ns := 40) (hsa.size.trans rfl) (by decide))
      · exact Below.refl _ _
    | (n + 23), ho => exact absurd ho (by simp)
  case pdone =>
    intro a' w' hsa hb hd
    have d0 : a'.tmps.getD 11 undef = .bool true := hd 0 (by decide)
    have d1 : a'.tmps.getD 12 undef = .bool false := hd 1 (by decide)
    have d2 : a'.tmps.getD 13 undef = .bool false := hd 2 (by decide)
    have d3 : a'.tmps.getD 14 undef = .pointer (some ⟨sb, 1, none⟩) := hd 3 (by decide)
    have d4 : a'.tmps.getD 15 undef = .string xt := hd 4 (by decide)
    have d5 : a'.tmps.getD 16 undef = .pointer (some ⟨xb, 0, none⟩) := hd 5 (by decide)
    have d6 : a'.tmps.getD 17 undef = .pointer (some ⟨xb, 0, none⟩) := hd 6 (by decide)
    have d7 : a'.tmps.getD 18 undef = .pointer (some ⟨xb, 0, none⟩) := hd 7 (by decide)
    have d8 : a'.tmps.getD 19 undef = .string nm := hd 8 (by decide)
    have d9 : a'.tmps.getD 20 undef = .bool false := hd 9 (by decide)
    have d10 : a'.tmps.getD 21 undef = .bool false := hd 10 (by decide)
    have d11 : a'.tmps.getD 22 undef = .bool false := hd 11 (by decide)
    have d12 : a'.tmps.getD 23 undef = .int .i64 n := hd 12 (by decide)
    have d13 : a'.tmps.getD 24 undef = .bool false := hd 13 (by decide)
    have d14 : a'.tmps.getD 25 undef = .bool false := hd 14 (by decide)
    have d15 : a'.tmps.getD 26 undef = .bool false := hd 15 (by decide)
    have d16 : a'.tmps.getD 27 undef = .int .i64 n := hd 16 (by decide)
    have d17 : a'.tmps.getD 28 undef = .pointer (some ⟨xb, 0, none⟩) := hd 17 (by decide)
    have d18 : a'.tmps.getD 29 undef = .pointer (some ⟨xb, 0, none⟩) := hd 18 (by decide)
    have d19 : a'.tmps.getD 30 undef = .pointer (some ⟨xb, 2, none⟩) := hd 19 (by decide)
    have d20 : a'.tmps.getD 31 undef = .int .i64 fi := hd 20 (by decide)
    have d21 : a'.tmps.getD 32 undef = .bool true := hd 21 (by decide)
    have d22 : a'.tmps.getD 33 undef = .bool true := hd 22 (by decide)
    exact HQ.out _ _ ⟨hsa.size.trans rfl, hsa.defers.trans rfl, hsa.rest 0 (by rfl), hsa.rest 1 (by rfl), hsa.rest 2 (by rfl), hsa.rest 3 (by rfl), hsa.rest 6 (by rfl), hsa.rest 7 (by rfl), hsa.rest 8 (by rfl)⟩ d22 hb
set_option maxHeartbeats 8000000 in
set_option maxRecDepth 100000 in
theorem zs_r2c4 {K : Act → World → Prop} {c : Code} (hc : regOf (Try.f21.body.getD .skip) 2 = some c) (a : Act) {v : Vzs} {wq : World} {sb xb : Nat} {nm : ByteArray} {n fi : Int} {xn xt : ByteArray} {xc xx : Int} (hF : Fzs a v) (h1v : v.v1 = .pointer (some ⟨xb, 0, none⟩)) (h2v : v.v2 = .int .i64 n) (h3v : v.v3 = .pointer (some ⟨sb, 0, none⟩)) (h8v : v.v8 = .bool true) (hSs : wq.heap[sb]? = some (.cells #[.string xn, .string xt, .int .i64 xc, .int .i64 xx] 37 (0, 0))) (hlx : xb < wq.heap.size) (hx0 : wq.cell? ⟨xb, 0, none⟩ = some (.string nm)) (hx2 : wq.cell? ⟨xb, 2, none⟩ = some (.int .i64 fi)) (hn : (xt.toList == nm.toList) = true) (h2 : ¬ n < 0) (h3 : ¬ fi < n)
    (hQ : ∀ a' w', Fzs a' v → a'.tmps.getD 33 undef = .bool false → Below wq.heap.size wq w' → K a' w') :
    Code.wp Try.prog c (Exit.then K fun _ _ _ => False) a wq := by
  have HQ := hide hQ
  clear hQ
  obtain ⟨t', d'⟩ := a
  obtain ⟨v0, v1, v2, v3, v6, v7, v8⟩ := v
  simp only at h1v h2v h3v h8v HQ
  subst h1v h2v h3v h8v
  obtain ⟨hs1, hd1, q0, q1, q2, q3, q6, q7, q8⟩ := hF
  obtain ⟨u, hu⟩ := frame_zs t' hs1
  simp only at hd1 q0 q1 q2 q3 q6 q7 q8
  subst hu hd1
  have e0 : u 0 = v0 := q0
  have e1 : u 1 = .pointer (some ⟨xb, 0, none⟩) := q1
  have e2 : u 2 = .int .i64 n := q2
  have e3 : u 3 = .pointer (some ⟨sb, 0, none⟩) := q3
  have e6 : u 6 = v6 := q6
  have e7 : u 7 = v7 := q7
  have e8 : u 8 = .bool true := q8
  rw [e0, e1, e2, e3, e6, e7, e8]
  clear q0 e0 q1 e1 q2 e2 q3 e3 q6 e6 q7 e7 q8 e8 hs1
  simp only [Try.f21, Option.getD_some, regOf] at hc
  injection hc with hc
  subst hc
  have HSS := hide hSs
  have HLS := hide (heap_lt hSs)
  have HLX := hide hlx
  have HX0 := hide hx0
  have HX2 := hide hx2
  clear hSs hlx hx0 hx2
  have HN := hide hn
  clear hn
  have H2 := hide h2
  clear h2
  have H3 := hide h3
  have H3b : Hid (¬ n > fi) := h3
  clear h3
  refine wp_region_phi (by kernel_rfl) (ns := 40) (uses := (fun i => match i with | 0 => [11] | 1 => [12] | 2 => [13] | 3 => [14] | 4 => [15] | 5 => [16] | 6 => [17] | 7 => [18] | 8 => [19] | 9 => [20] | 10 => [21] | 11 => [22] | 12 => [23] | 13 => [24] | 14 => [25] | 15 => [26] | 16 => [27] | 17 => [28] | 18 => [29] | 19 => [30] | 20 => [31] | 21 => [32] | 22 => [33] | _ => [])) (by kernel_rfl) (by kernel_rfl) (fun _ w w' => Below w.heap.size w w') (fun w => Below wq.heap.size wq w) (fun _ _ _ h r => h.trans (r.mono h.size)) ((Below.refl _ _).drew) (fun i => match i with | 0 => fun s w => s 11 = .bool true | 1 => fun s w => s 12 = .bool false | 2 => fun s w => s 13 = .bool false | 3 => fun s w => s 14 = .pointer (some ⟨sb, 1, none⟩) | 4 => fun s w => s 15 = .string xt | 5 => fun s w => s 16 = .pointer (some ⟨xb, 0, none⟩) | 6 => fun s w => s 17 = .pointer (some ⟨xb, 0, none⟩) | 7 => fun s w => s 18 = .pointer (some ⟨xb, 0, none⟩) | 8 => fun s w => s 19 = .string nm | 9 => fun s w => s 20 = .bool false | 10 => fun s w => s 21 = .bool false | 11 => fun s w => s 22 = .bool false | 12 => fun s w => s 23 = .int .i64 n | 13 => fun s w => s 24 = .bool false | 14 => fun s w => s 25 = .bool false | 15 => fun s w => s 26 = .bool false | 16 => fun s w => s 27 = .int .i64 n | 17 => fun s w => s 28 = .pointer (some ⟨xb, 0, none⟩) | 18 => fun s w => s 29 = .pointer (some ⟨xb, 0, none⟩) | 19 => fun s w => s 30 = .pointer (some ⟨xb, 2, none⟩) | 20 => fun s w => s 31 = .int .i64 fi | 21 => fun s w => s 32 = .bool false | 22 => fun s w => s 33 = .bool false | _ => fun _ _ => True) ?phc ?phh ?pstep ?pdone
  case phc =>
    intro i s s' w hx h
    match i, hx, h with
    | 0, hx, h => exact (hx 11 (by simp)).symm.trans h
    | 1, hx, h => exact (hx 12 (by simp)).symm.trans h
    | 2, hx, h => exact (hx 13 (by simp)).symm.trans h
    | 3, hx, h => exact (hx 14 (by simp)).symm.trans h
    | 4, hx, h => exact (hx 15 (by simp)).symm.trans h
    | 5, hx, h => exact (hx 16 (by simp)).symm.trans h
    | 6, hx, h => exact (hx 17 (by simp)).symm.trans h
    | 7, hx, h => exact (hx 18 (by simp)).symm.trans h
    | 8, hx, h => exact (hx 19 (by simp)).symm.trans h
    | 9, hx, h => exact (hx 20 (by simp)).symm.trans h
    | 10, hx, h => exact (hx 21 (by simp)).symm.trans h
    | 11, hx, h => exact (hx 22 (by simp)).symm.trans h
    | 12, hx, h => exact (hx 23 (by simp)).symm.trans h
    | 13, hx, h => exact (hx 24 (by simp)).symm.trans h
    | 14, hx, h => exact (hx 25 (by simp)).symm.trans h
    | 15, hx, h => exact (hx 26 (by simp)).symm.trans h
    | 16, hx, h => exact (hx 27 (by simp)).symm.trans h
    | 17, hx, h => exact (hx 28 (by simp)).symm.trans h
    | 18, hx, h => exact (hx 29 (by simp)).symm.trans h
    | 19, hx, h => exact (hx 30 (by simp)).symm.trans h
    | 20, hx, h => exact (hx 31 (by simp)).symm.trans h
    | 21, hx, h => exact (hx 32 (by simp)).symm.trans h
    | 22, hx, h => exact (hx 33 (by simp)).symm.trans h
    | (n + 23), _, h => exact h
  case phh =>
    intro i j s w w' hij h hb r
    match i, hij, h with
    | 0, hij, h =>
      exact h
    | 1, hij, h =>
      exact h
    | 2, hij, h =>
      exact h
    | 3, hij, h =>
      exact h
    | 4, hij, h =>
      exact h
    | 5, hij, h =>
      exact h
    | 6, hij, h =>
      exact h
    | 7, hij, h =>
      exact h
    | 8, hij, h =>
      exact h
    | 9, hij, h =>
      exact h
    | 10, hij, h =>
      exact h
    | 11, hij, h =>
      exact h
    | 12, hij, h =>
      exact h
    | 13, hij, h =>
      exact h
    | 14, hij, h =>
      exact h
    | 15, hij, h =>
      exact h
    | 16, hij, h =>
      exact h
    | 17, hij, h =>
      exact h
    | 18, hij, h =>
      exact h
    | 19, hij, h =>
      exact h
    | 20, hij, h =>
      exact h
    | 21, hij, h =>
      exact h
    | 22, hij, h =>
      exact h
    | (n + 23), _, h => exact h
  case pstep =>
    intro i o ho a' w' hsa hb hd
    match i, ho with
    | 0, ho =>
      obtain rfl := Option.some.inj ho
      try dsimp only at hd
      have g8 : a'.tmps.getD 8 undef = .bool true := hsa.rest 8 (by rfl)
      refine wpOp_of rfl rfl ?_
      refine op_run (v := .bool true) (w' := w') ?_ ⟨_, rfl, ?_, ?_⟩
      · simp only [execOp, Act.eval, g8]; first | (go_simp; done) | rfl
      · try dsimp only
        exact (slots_put (ns := 40) (hsa.size.trans rfl) (by decide))
      · exact Below.refl _ _
    | 1, ho =>
      obtain rfl := Option.some.inj ho
      try dsimp only at hd
      have d0 : a'.tmps.getD 11 undef = .bool true := hd 0 (by rfl)
      refine wpOp_of rfl rfl ?_
      refine op_run (v := .bool false) (w' := w') ?_ ⟨_, rfl, ?_, ?_⟩
      · simp only [execOp, Act.eval, d0]; first | (go_simp; done) | rfl
      · try dsimp only
        exact (slots_put (ns := 40) (hsa.size.trans rfl) (by decide))
      · exact Below.refl _ _
    | 2, ho =>
      obtain rfl := Option.some.inj ho
      try dsimp only at hd
      have d1 : a'.tmps.getD 12 undef = .bool false := hd 1 (by rfl)
      refine wpOp_of rfl rfl ?_
      refine op_run (v := .bool false) (w' := w') ?_ ⟨_, rfl, ?_, ?_⟩
      · simp only [execOp, Act.eval, d1]; first | (go_simp; done) | rfl
      · try dsimp only
        exact (slots_put (ns := 40) (hsa.size.trans rfl) (by decide))
      · exact Below.refl _ _
    | 3, ho =>
      obtain rfl := Option.some.inj ho
      try dsimp only at hd
      have d2 : a'.tmps.getD 13 undef = .bool false := hd 2 (by rfl)
      have g3 : a'.tmps.getD 3 undef = .pointer (some ⟨sb, 0, none⟩) := hsa.rest 3 (by rfl)
      refine wpOp_on (j := 2) (dj := 13) rfl rfl rfl d2 ?_
      refine op_run (v := .pointer (some ⟨sb, 1, none⟩)) (w' := w') ?_ ⟨_, rfl, ?_, ?_⟩
      · simp only [execOp, Act.eval, d2, g3]; first | (go_simp; done) | rfl
      · try dsimp only
        exact (slots_put (ns := 40) (hsa.size.trans rfl) (by decide))
      · exact Below.refl _ _
    | 4, ho =>
      obtain rfl := Option.some.inj ho
      try dsimp only at hd
      have d2 : a'.tmps.getD 13 undef = .bool false := hd 2 (by rfl)
      have d3 : a'.tmps.getD 14 undef = .pointer (some ⟨sb, 1, none⟩) := hd 3 (by rfl)
      have y : w'.cell? ⟨sb, 1, none⟩ = some (.string xt) := (hb.cell (p := ⟨sb, 1, none⟩) HLS.out).trans (box_cell HSS.out 1 rfl)
      refine wpOp_on (j := 2) (dj := 13) rfl rfl rfl d2 ?_
      refine op_run (v := .string xt) (w' := w') ?_ ⟨_, rfl, ?_, ?_⟩
      · simp only [execOp, Act.eval, d2, d3, y]; first | (go_simp; done) | rfl
      · try dsimp only
        exact (slots_put (ns := 40) (hsa.size.trans rfl) (by decide))
      · exact Below.refl _ _
    | 5, ho =>
      obtain rfl := Option.some.inj ho
      try dsimp only at hd
      have d2 : a'.tmps.getD 13 undef = .bool false := hd 2 (by rfl)
      have g1 : a'.tmps.getD 1 undef = .pointer (some ⟨xb, 0, none⟩) := hsa.rest 1 (by rfl)
      refine wpOp_on (j := 2) (dj := 13) rfl rfl rfl d2 ?_
      refine op_run (v := .pointer (some ⟨xb, 0, none⟩)) (w' := w') ?_ ⟨_, rfl, ?_, ?_⟩
      · simp only [execOp, Act.eval, d2, g1]; first | (go_simp; done) | rfl
      · try dsimp only
        exact (slots_put (ns := 40) (hsa.size.trans rfl) (by decide))
      · exact Below.refl _ _
    | 6, ho =>
      obtain rfl := Option.some.inj ho
      try dsimp only at hd
      have d2 : a'.tmps.getD 13 undef = .bool false := hd 2 (by rfl)
      have d5 : a'.tmps.getD 16 undef = .pointer (some ⟨xb, 0, none⟩) := hd 5 (by rfl)
      refine wpOp_on (j := 2) (dj := 13) rfl rfl rfl d2 ?_
      refine op_run (v := .pointer (some ⟨xb, 0, none⟩)) (w' := w') ?_ ⟨_, rfl, ?_, ?_⟩
      · simp only [execOp, Act.eval, d2, d5]; first | (go_simp; done) | rfl
      · try dsimp only
        exact (slots_put (ns := 40) (hsa.size.trans rfl) (by decide))
      · exact Below.refl _ _
    | 7, ho =>
      obtain rfl := Option.some.inj ho
      try dsimp only at hd
      have d2 : a'.tmps.getD 13 undef = .bool false := hd 2 (by rfl)
      have d6 : a'.tmps.getD 17 undef = .pointer (some ⟨xb, 0, none⟩) := hd 6 (by rfl)
      refine wpOp_on (j := 2) (dj := 13) rfl rfl rfl d2 ?_
      refine op_run (v := .pointer (some ⟨xb, 0, none⟩)) (w' := w') ?_ ⟨_, rfl, ?_, ?_⟩
      · simp only [execOp, Act.eval, d2, d6]; first | (go_simp; done) | rfl
      · try dsimp only
        exact (slots_put (ns := 40) (hsa.size.trans rfl) (by decide))
      · exact Below.refl _ _
    | 8, ho =>
      obtain rfl := Option.some.inj ho
      try dsimp only at hd
      have d2 : a'.tmps.getD 13 undef = .bool false := hd 2 (by rfl)
      have d7 : a'.tmps.getD 18 undef = .pointer (some ⟨xb, 0, none⟩) := hd 7 (by rfl)
      have y : w'.cell? ⟨xb, 0, none⟩ = some (.string nm) := (hb.cell (p := ⟨xb, 0, none⟩) HLX.out).trans HX0.out
      refine wpOp_on (j := 2) (dj := 13) rfl rfl rfl d2 ?_
      refine op_run (v := .string nm) (w' := w') ?_ ⟨_, rfl, ?_, ?_⟩
      · simp only [execOp, Act.eval, d2, d7, y]; first | (go_simp; done) | rfl
      · try dsimp only
        exact (slots_put (ns := 40) (hsa.size.trans rfl) (by decide))
      · exact Below.refl _ _
    | 9, ho =>
      obtain rfl := Option.some.inj ho
      try dsimp only at hd
      have d2 : a'.tmps.getD 13 undef = .bool false := hd 2 (by rfl)
      have d4 : a'.tmps.getD 15 undef = .string xt := hd 4 (by rfl)
      have d8 : a'.tmps.getD 19 undef = .string nm := hd 8 (by rfl)
      have y := HN.out
      refine wpOp_on (j := 2) (dj := 13) rfl rfl rfl d2 ?_
      refine op_run (v := .bool false) (w' := w') ?_ ⟨_, rfl, ?_, ?_⟩
      · simp only [execOp, Act.eval, d2, d4, d8, y]; first | (go_simp; done) | rfl
      · try dsimp only
        exact (slots_put (ns := 40) (hsa.size.trans rfl) (by decide))
      · exact Below.refl _ _
    | 10, ho =>
      obtain rfl := Option.some.inj ho
      try dsimp only at hd
      have d2 : a'.tmps.getD 13 undef = .bool false := hd 2 (by rfl)
      have d9 : a'.tmps.getD 20 undef = .bool false := hd 9 (by rfl)
      refine wpOp_of rfl rfl ?_
      refine op_run (v := .bool false) (w' := w') ?_ ⟨_, rfl, ?_, ?_⟩
      · simp only [execOp, Act.eval, d2, d9]; first | (go_simp; done) | rfl
      · try dsimp only
        exact (slots_put (ns := 40) (hsa.size.trans rfl) (by decide))
      · exact Below.refl _ _
    | 11, ho =>
      obtain rfl := Option.some.inj ho
      try dsimp only at hd
      have d10 : a'.tmps.getD 21 undef = .bool false := hd 10 (by rfl)
      refine wpOp_of rfl rfl ?_
      refine op_run (v := .bool false) (w' := w') ?_ ⟨_, rfl, ?_, ?_⟩
      · simp only [execOp, Act.eval, d10]; first | (go_simp; done) | rfl
      · try dsimp only
        exact (slots_put (ns := 40) (hsa.size.trans rfl) (by decide))
      · exact Below.refl _ _
    | 12, ho =>
      obtain rfl := Option.some.inj ho
      try dsimp only at hd
      have d11 : a'.tmps.getD 22 undef = .bool false := hd 11 (by rfl)
      have g2 : a'.tmps.getD 2 undef = .int .i64 n := hsa.rest 2 (by rfl)
      refine wpOp_on (j := 11) (dj := 22) rfl rfl rfl d11 ?_
      refine op_run (v := .int .i64 n) (w' := w') ?_ ⟨_, rfl, ?_, ?_⟩
      · simp only [execOp, Act.eval, d11, g2]; first | (go_simp; done) | rfl
      · try dsimp only
        exact (slots_put (ns := 40) (hsa.size.trans rfl) (by decide))
      · exact Below.refl _ _
    | 13, ho =>
      obtain rfl := Option.some.inj ho
      try dsimp only at hd
      have d11 : a'.tmps.getD 22 undef = .bool false := hd 11 (by rfl)
      have d12 : a'.tmps.getD 23 undef = .int .i64 n := hd 12 (by rfl)
      have y := H2.out
      refine wpOp_on (j := 11) (dj := 22) rfl rfl rfl d11 ?_
      refine op_run (v := .bool false) (w' := w') ?_ ⟨_, rfl, ?_, ?_⟩
      · simp only [execOp, Act.eval, d11, d12, y]; first | (go_simp; done) | rfl
      · try dsimp only
        exact (slots_put (ns := 40) (hsa.size.trans rfl) (by decide))
      · exact Below.refl _ _
    | 14, ho =>
      obtain rfl := Option.some.inj ho
      try dsimp only at hd
      have d11 : a'.tmps.getD 22 undef = .bool false := hd 11 (by rfl)
      have d13 : a'.tmps.getD 24 undef = .bool false := hd 13 (by rfl)
      refine wpOp_of rfl rfl ?_
      refine op_run (v := .bool false) (w' := w') ?_ ⟨_, rfl, ?_, ?_⟩
      · simp only [execOp, Act.eval, d11, d13]; first | (go_simp; done) | rfl
      · try dsimp only
        exact (slots_put (ns := 40) (hsa.size.trans rfl) (by decide))
      · exact Below.refl _ _
    | 15, ho =>
      obtain rfl := Option.some.inj ho
      try dsimp only at hd
      have d14 : a'.tmps.getD 25 undef = .bool false := hd 14 (by rfl)
      refine wpOp_of rfl rfl ?_
      refine op_run (v := .bool false) (w' := w') ?_ ⟨_, rfl, ?_, ?_⟩
      · simp only [execOp, Act.eval, d14]; first | (go_simp; done) | rfl
      · try dsimp only
        exact (slots_put (ns := 40) (hsa.size.trans rfl) (by decide))
      · exact Below.refl _ _
    | 16, ho =>
      obtain rfl := Option.some.inj ho
      try dsimp only at hd
      have d15 : a'.tmps.getD 26 undef = .bool false := hd 15 (by rfl)
      have g2 : a'.tmps.getD 2 undef = .int .i64 n := hsa.rest 2 (by rfl)
      refine wpOp_on (j := 15) (dj := 26) rfl rfl rfl d15 ?_
      refine op_run (v := .int .i64 n) (w' := w') ?_ ⟨_, rfl, ?_, ?_⟩
      · simp only [execOp, Act.eval, d15, g2]; first | (go_simp; done) | rfl
      · try dsimp only
        exact (slots_put (ns := 40) (hsa.size.trans rfl) (by decide))
      · exact Below.refl _ _
    | 17, ho =>
      obtain rfl := Option.some.inj ho
      try dsimp only at hd
      have d15 : a'.tmps.getD 26 undef = .bool false := hd 15 (by rfl)
      have g1 : a'.tmps.getD 1 undef = .pointer (some ⟨xb, 0, none⟩) := hsa.rest 1 (by rfl)
      refine wpOp_on (j := 15) (dj := 26) rfl rfl rfl d15 ?_
      refine op_run (v := .pointer (some ⟨xb, 0, none⟩)) (w' := w') ?_ ⟨_, rfl, ?_, ?_⟩
      · simp only [execOp, Act.eval, d15, g1]; first | (go_simp; done) | rfl
      · try dsimp only
        exact (slots_put (ns := 40) (hsa.size.trans rfl) (by decide))
      · exact Below.refl _ _
    | 18, ho =>
      obtain rfl := Option.some.inj ho
      try dsimp only at hd
      have d15 : a'.tmps.getD 26 undef = .bool false := hd 15 (by rfl)
      have d17 : a'.tmps.getD 28 undef = .pointer (some ⟨xb, 0, none⟩) := hd 17 (by rfl)
      refine wpOp_on (j := 15) (dj := 26) rfl rfl rfl d15 ?_
      refine op_run (v := .pointer (some ⟨xb, 0, none⟩)) (w' := w') ?_ ⟨_, rfl, ?_, ?_⟩
      · simp only [execOp, Act.eval, d15, d17]; first | (go_simp; done) | rfl
      · try dsimp only
        exact (slots_put (ns := 40) (hsa.size.trans rfl) (by decide))
      · exact Below.refl _ _
    | 19, ho =>
      obtain rfl := Option.some.inj ho
      try dsimp only at hd
      have d15 : a'.tmps.getD 26 undef = .bool false := hd 15 (by rfl)
      have d18 : a'.tmps.getD 29 undef = .pointer (some ⟨xb, 0, none⟩) := hd 18 (by rfl)
      refine wpOp_on (j := 15) (dj := 26) rfl rfl rfl d15 ?_
      refine op_run (v := .pointer (some ⟨xb, 2, none⟩)) (w' := w') ?_ ⟨_, rfl, ?_, ?_⟩
      · simp only [execOp, Act.eval, d15, d18]; first | (go_simp; done) | rfl
      · try dsimp only
        exact (slots_put (ns := 40) (hsa.size.trans rfl) (by decide))
      · exact Below.refl _ _
    | 20, ho =>
      obtain rfl := Option.some.inj ho
      try dsimp only at hd
      have d15 : a'.tmps.getD 26 undef = .bool false := hd 15 (by rfl)
      have d19 : a'.tmps.getD 30 undef = .pointer (some ⟨xb, 2, none⟩) := hd 19 (by rfl)
      have y : w'.cell? ⟨xb, 2, none⟩ = some (.int .i64 fi) := (hb.cell (p := ⟨xb, 2, none⟩) HLX.out).trans HX2.out
      refine wpOp_on (j := 15) (dj := 26) rfl rfl rfl d15 ?_
      refine op_run (v := .int .i64 fi) (w' := w') ?_ ⟨_, rfl, ?_, ?_⟩
      · simp only [execOp, Act.eval, d15, d19, y]; first | (go_simp; done) | rfl
      · try dsimp only
        exact (slots_put (ns := 40) (hsa.size.trans rfl) (by decide))
      · exact Below.refl _ _
    | 21, ho =>
      obtain rfl := Option.some.inj ho
      try dsimp only at hd
      have d15 : a'.tmps.getD 26 undef = .bool false := hd 15 (by rfl)
      have d16 : a'.tmps.getD 27 undef = .int .i64 n := hd 16 (by rfl)
      have d20 : a'.tmps.getD 31 undef = .int .i64 fi := hd 20 (by rfl)
      have y := H3.out
      have y2 := H3b.out
      refine wpOp_on (j := 15) (dj := 26) rfl rfl rfl d15 ?_
      refine op_run (v := .bool false) (w' := w') ?_ ⟨_, rfl, ?_, ?_⟩
      · simp only [execOp, Act.eval, d15, d16, d20, y, y2]; first | (go_simp; done) | rfl
      · try dsimp only
        exact (slots_put (ns := 40) (hsa.size.trans rfl) (by decide))
      · exact Below.refl _ _
    | 22, ho =>
      obtain rfl := Option.some.inj ho
      try dsimp only at hd
      have d15 : a'.tmps.getD 26 undef = .bool false := hd 15 (by rfl)
      have d21 : a'.tmps.getD 32 undef = .bool false := hd 21 (by rfl)
      refine wpOp_of rfl rfl ?_
      refine op_run (v := .bool false) (w' := w') ?_ ⟨_, rfl, ?_, ?_⟩
      · simp only [execOp, Act.eval, d15, d21]; first | (go_simp; done) | rfl
      · try dsimp only
        exact (slots_put (ns := 40) (hsa.size.trans rfl) (by decide))
      · exact Below.refl _ _
    | (n + 23), ho => exact absurd ho (by simp)
  case pdone =>
    intro a' w' hsa hb hd
    have d0 : a'.tmps.getD 11 undef = .bool true := hd 0 (by decide)
    have d1 : a'.tmps.getD 12 undef = .bool false := hd 1 (by decide)
    have d2 : a'.tmps.getD 13 undef = .bool false := hd 2 (by decide)
    have d3 : a'.tmps.getD 14 undef = .pointer (some ⟨sb, 1, none⟩) := hd 3 (by decide)
    have d4 : a'.tmps.getD 15 undef = .string xt := hd 4 (by decide)
    have d5 : a'.tmps.getD 16 undef = .pointer (some ⟨xb, 0, none⟩) := hd 5 (by decide)
    have d6 : a'.tmps.getD 17 undef = .pointer (some ⟨xb, 0, none⟩) := hd 6 (by decide)
    have d7 : a'.tmps.getD 18 undef = .pointer (some ⟨xb, 0, none⟩) := hd 7 (by decide)
    have d8 : a'.tmps.getD 19 undef = .string nm := hd 8 (by decide)
    have d9 : a'.tmps.getD 20 undef = .bool false := hd 9 (by decide)
    have d10 : a'.tmps.getD 21 undef = .bool false := hd 10 (by decide)
    have d11 : a'.tmps.getD 22 undef = .bool false := hd 11 (by decide)
    have d12 : a'.tmps.getD 23 undef = .int .i64 n := hd 12 (by decide)
    have d13 : a'.tmps.getD 24 undef = .bool false := hd 13 (by decide)
    have d14 : a'.tmps.getD 25 undef = .bool false := hd 14 (by decide)
    have d15 : a'.tmps.getD 26 undef = .bool false := hd 15 (by decide)
    have d16 : a'.tmps.getD 27 undef = .int .i64 n := hd 16 (by decide)
    have d17 : a'.tmps.getD 28 undef = .pointer (some ⟨xb, 0, none⟩) := hd 17 (by decide)
    have d18 : a'.tmps.getD 29 undef = .pointer (some ⟨xb, 0, none⟩) := hd 18 (by decide)
    have d19 : a'.tmps.getD 30 undef = .pointer (some ⟨xb, 2, none⟩) := hd 19 (by decide)
    have d20 : a'.tmps.getD 31 undef = .int .i64 fi := hd 20 (by decide)
    have d21 : a'.tmps.getD 32 undef = .bool false := hd 21 (by decide)
    have d22 : a'.tmps.getD 33 undef = .bool false := hd 22 (by decide)
    exact HQ.out _ _ ⟨hsa.size.trans rfl, hsa.defers.trans rfl, hsa.rest 0 (by rfl), hsa.rest 1 (by rfl), hsa.rest 2 (by rfl), hsa.rest 3 (by rfl), hsa.rest 6 (by rfl), hsa.rest 7 (by rfl), hsa.rest 8 (by rfl)⟩ d22 hb
set_option maxHeartbeats 8000000 in
set_option maxRecDepth 100000 in
theorem zs_r3 {K : Act → World → Prop} {c : Code} (hc : regOf (Try.f21.body.getD .skip) 3 = some c) (a : Act) {v : Vzs} {wq : World} {sb rb : Nat} {y0 y1 y2 y3 : Value} {xn xt : ByteArray} {xc xx : Int} (hF : Fzs a v) (h3v : v.v3 = .pointer (some ⟨sb, 0, none⟩)) (h6v : v.v6 = .pointer (some ⟨rb, 0, none⟩)) (hSs : wq.heap[sb]? = some (.cells #[.string xn, .string xt, .int .i64 xc, .int .i64 xx] 37 (0, 0))) (hSr : wq.heap[rb]? = some (.cells #[y0, y1, y2, y3] 37 (0, 0)))
    (hQ : ∀ a', Fzs a' { v with v7 := .int .i64 7 } → K a' (set4 wq rb (.string xn) (.string xt) (.int .i64 xc) (.int .i64 xx))) :
    Code.wp Try.prog c (Exit.then K fun _ _ _ => False) a wq := by
  have HQ := hide hQ
  clear hQ
  obtain ⟨t', d'⟩ := a
  obtain ⟨v0, v1, v2, v3, v6, v7, v8⟩ := v
  simp only at h3v h6v HQ
  subst h3v h6v
  obtain ⟨hs1, hd1, q0, q1, q2, q3, q6, q7, q8⟩ := hF
  obtain ⟨u, hu⟩ := frame_zs t' hs1
  simp only at hd1 q0 q1 q2 q3 q6 q7 q8
  subst hu hd1
  have e0 : u 0 = v0 := q0
  have e1 : u 1 = v1 := q1
  have e2 : u 2 = v2 := q2
  have e3 : u 3 = .pointer (some ⟨sb, 0, none⟩) := q3
  have e6 : u 6 = .pointer (some ⟨rb, 0, none⟩) := q6
  have e7 : u 7 = v7 := q7
  have e8 : u 8 = v8 := q8
  rw [e0, e1, e2, e3, e6, e7, e8]
  clear q0 e0 q1 e1 q2 e2 q3 e3 q6 e6 q7 e7 q8 e8 hs1
  simp only [Try.f21, Option.getD_some, regOf] at hc
  injection hc with hc
  subst hc
  obtain ⟨⟨c0, c1, c2, c3⟩, _⟩ := box4 hSs
  obtain ⟨⟨d0, d1, d2, d3⟩, f0, f1, f2, f3⟩ := box4 hSr
  clear hSs hSr
  unfold set4 at HQ
  go_wp2
  exact HQ.out _ ⟨rfl, rfl, rfl, rfl, rfl, rfl, rfl, rfl, rfl⟩
set_option maxHeartbeats 8000000 in
set_option maxRecDepth 100000 in
theorem zs_r6 {K : Act → World → Prop} {c : Code} (hc : regOf (Try.f21.body.getD .skip) 6 = some c) (a : Act) {v : Vzs} {wq : World} {sb rb : Nat} {y0 y1 y2 y3 : Value} {xn xt : ByteArray} {xc xx : Int} (hF : Fzs a v) (h3v : v.v3 = .pointer (some ⟨sb, 0, none⟩)) (h6v : v.v6 = .pointer (some ⟨rb, 0, none⟩)) (hSs : wq.heap[sb]? = some (.cells #[.string xn, .string xt, .int .i64 xc, .int .i64 xx] 37 (0, 0))) (hSr : wq.heap[rb]? = some (.cells #[y0, y1, y2, y3] 37 (0, 0)))
    (hQ : ∀ a', Fzs a' { v with v7 := .int .i64 0 } → K a' (set4 wq rb (.string xn) (.string xt) (.int .i64 xc) (.int .i64 xx))) :
    Code.wp Try.prog c (Exit.then K fun _ _ _ => False) a wq := by
  have HQ := hide hQ
  clear hQ
  obtain ⟨t', d'⟩ := a
  obtain ⟨v0, v1, v2, v3, v6, v7, v8⟩ := v
  simp only at h3v h6v HQ
  subst h3v h6v
  obtain ⟨hs1, hd1, q0, q1, q2, q3, q6, q7, q8⟩ := hF
  obtain ⟨u, hu⟩ := frame_zs t' hs1
  simp only at hd1 q0 q1 q2 q3 q6 q7 q8
  subst hu hd1
  have e0 : u 0 = v0 := q0
  have e1 : u 1 = v1 := q1
  have e2 : u 2 = v2 := q2
  have e3 : u 3 = .pointer (some ⟨sb, 0, none⟩) := q3
  have e6 : u 6 = .pointer (some ⟨rb, 0, none⟩) := q6
  have e7 : u 7 = v7 := q7
  have e8 : u 8 = v8 := q8
  rw [e0, e1, e2, e3, e6, e7, e8]
  clear q0 e0 q1 e1 q2 e2 q3 e3 q6 e6 q7 e7 q8 e8 hs1
  simp only [Try.f21, Option.getD_some, regOf] at hc
  injection hc with hc
  subst hc
  obtain ⟨⟨c0, c1, c2, c3⟩, _⟩ := box4 hSs
  obtain ⟨⟨d0, d1, d2, d3⟩, f0, f1, f2, f3⟩ := box4 hSr
  clear hSs hSr
  unfold set4 at HQ
  go_wp2
  exact HQ.out _ ⟨rfl, rfl, rfl, rfl, rfl, rfl, rfl, rfl, rfl⟩
set_option maxHeartbeats 8000000 in
set_option maxRecDepth 100000 in
theorem zs_r4 {K : Act → World → Prop} {c : Code} (hc : regOf (Try.f21.body.getD .skip) 4 = some c) (a : Act) {v : Vzs} {wq : World} {sb : Nat} {n : Int} {xn xt : ByteArray} {xc xx : Int} (hF : Fzs a v) (h3v : v.v3 = .pointer (some ⟨sb, 0, none⟩)) (h2v : v.v2 = .int .i64 n) (hSs : wq.heap[sb]? = some (.cells #[.string xn, .string xt, .int .i64 xc, .int .i64 xx] 37 (0, 0)))
    (hQ : ∀ a', Fzs a' v → K a' (wq.setCell ⟨sb, 2, none⟩ (.int .i64 n))) :
    Code.wp Try.prog c (Exit.then K fun _ _ _ => False) a wq := by
  have HQ := hide hQ
  clear hQ
  obtain ⟨t', d'⟩ := a
  obtain ⟨v0, v1, v2, v3, v6, v7, v8⟩ := v
  simp only at h3v h2v HQ
  subst h3v h2v
  obtain ⟨hs1, hd1, q0, q1, q2, q3, q6, q7, q8⟩ := hF
  obtain ⟨u, hu⟩ := frame_zs t' hs1
  simp only at hd1 q0 q1 q2 q3 q6 q7 q8
  subst hu hd1
  have e0 : u 0 = v0 := q0
  have e1 : u 1 = v1 := q1
  have e2 : u 2 = .int .i64 n := q2
  have e3 : u 3 = .pointer (some ⟨sb, 0, none⟩) := q3
  have e6 : u 6 = v6 := q6
  have e7 : u 7 = v7 := q7
  have e8 : u 8 = v8 := q8
  rw [e0, e1, e2, e3, e6, e7, e8]
  clear q0 e0 q1 e1 q2 e2 q3 e3 q6 e6 q7 e7 q8 e8 hs1
  simp only [Try.f21, Option.getD_some, regOf] at hc
  injection hc with hc
  subst hc
  obtain ⟨⟨c0, c1, c2, c3⟩, f0, f1, f2, f3⟩ := box4 hSs
  clear hSs
  go_wp2
  exact HQ.out _ ⟨rfl, rfl, rfl, rfl, rfl, rfl, rfl, rfl, rfl⟩
set_option maxHeartbeats 8000000 in
set_option maxRecDepth 100000 in
theorem zs_r5 {K : Act → World → Prop} {c : Code} (hc : regOf (Try.f21.body.getD .skip) 5 = some c) (a : Act) {v : Vzs} {wq : World} {sb : Nat} {n : Int} {xn xt : ByteArray} {xc xx : Int} (hF : Fzs a v) (h3v : v.v3 = .pointer (some ⟨sb, 0, none⟩)) (h2v : v.v2 = .int .i64 n) (hSs : wq.heap[sb]? = some (.cells #[.string xn, .string xt, .int .i64 xc, .int .i64 xx] 37 (0, 0)))
    (hQ : ∀ a', Fzs a' v → K a' (wq.setCell ⟨sb, 3, none⟩ (.int .i64 n))) :
    Code.wp Try.prog c (Exit.then K fun _ _ _ => False) a wq := by
  have HQ := hide hQ
  clear hQ
  obtain ⟨t', d'⟩ := a
  obtain ⟨v0, v1, v2, v3, v6, v7, v8⟩ := v
  simp only at h3v h2v HQ
  subst h3v h2v
  obtain ⟨hs1, hd1, q0, q1, q2, q3, q6, q7, q8⟩ := hF
  obtain ⟨u, hu⟩ := frame_zs t' hs1
  simp only at hd1 q0 q1 q2 q3 q6 q7 q8
  subst hu hd1
  have e0 : u 0 = v0 := q0
  have e1 : u 1 = v1 := q1
  have e2 : u 2 = .int .i64 n := q2
  have e3 : u 3 = .pointer (some ⟨sb, 0, none⟩) := q3
  have e6 : u 6 = v6 := q6
  have e7 : u 7 = v7 := q7
  have e8 : u 8 = v8 := q8
  rw [e0, e1, e2, e3, e6, e7, e8]
  clear q0 e0 q1 e1 q2 e2 q3 e3 q6 e6 q7 e7 q8 e8 hs1
  simp only [Try.f21, Option.getD_some, regOf] at hc
  injection hc with hc
  subst hc
  obtain ⟨⟨c0, c1, c2, c3⟩, f0, f1, f2, f3⟩ := box4 hSs
  clear hSs
  go_wp2
  exact HQ.out _ ⟨rfl, rfl, rfl, rfl, rfl, rfl, rfl, rfl, rfl⟩
theorem zs_ret {W : World} {a : Act} {v : Vzs} {rb : Nat} {T : SB} {y0 : Int} {R : Ending → World → Prop} (hF : Fzs a v) (h0 : v.v6 = .pointer (some ⟨rb, 0, none⟩)) (hB : W.heap[rb]? = some (.cells #[.string T.name, .string T.top, .int .i64 T.cur, .int .i64 T.next] 37 (0, 0))) (hy0 : v.v7 = .int .i64 y0) (h : R (.returned (.tuple #[T.v, .int .i64 y0])) W) :
    bodyPost Try.prog Try.f21 R .ret a W := by
  have g0 := slot_get (hF.s6.trans h0)
  have gy0 := slot_get (hF.s7.trans hy0)
  obtain ⟨⟨e0, e1, e2, e3⟩, _⟩ := box4 hB
  refine bodyPost_ret (v := (.tuple #[T.v, .int .i64 y0])) ?_ hF.defers h
  simp [results, Try.results21, go_sem, g0, gy0, e0, e1, e2, e3, SB.v]
/-- What the document's Seek does. -/
def zseekF (S : SB) (nm : ByteArray) (fi n : Int) : SB × Int := if S.right = true ∧ (S.top.toList == nm.toList) = true ∧ ¬ n < 0 ∧ ¬ fi < n then ({ S with cur := n, next := n }, 0) else (S, 7)
set_option maxHeartbeats 4000000 in
set_option maxRecDepth 100000 in
theorem zseek {w : World} {xb : Nat} {nm : ByteArray} {fi : Int} (hlx0 : xb < w.heap.size) (hx00 : w.cell? ⟨xb, 0, none⟩ = some (.string nm)) (hx20 : w.cell? ⟨xb, 2, none⟩ = some (.int .i64 fi)) (S : SB) (hk : S.ok) (n : Int) : Calls Try.prog 21 #[S.v, .pointer (some ⟨xb, 0, none⟩), .int .i64 n] w fun e w' => e = .returned (.tuple #[SB.v (zseekF S nm fi n).1, .int .i64 (zseekF S nm fi n).2]) ∧ Below w.heap.size w w' := by
  obtain ⟨xn, xt, xc, xx⟩ := S
  unfold zseekF
  simp only [SB.v]
  obtain ⟨b1, x1, x2⟩ := two_boxes w (.string xn) (.string xt) (.int .i64 xc) (.int .i64 xx)
  go_enter Try.func21, Try.ntmps21
  refine wp_seq (reg_mono (zs_r0 (by kernel_rfl) _ (v := ⟨_, _, _, _, _, _, _⟩) ⟨rfl, rfl, rfl, rfl, rfl, rfl, rfl, rfl, rfl⟩ rfl ?_))
  intro a0 F0
  try dsimp only at F0
  generalize (w.alloc _).alloc _ = w1 at *
  have E1 := zright ⟨xn, xt, xc, xx⟩ hk w1
  simp only [SB.v] at E1
  refine wp_seq (reg_mono (zs_r1 (by kernel_rfl) _ F0 rfl x1 E1 ?_))
  intro a1 w2 F1 b2
  try dsimp only at F1
  have y1 := Below.at b2 x1
  have y2 := Below.at b2 x2
  have B2 := b1.trans (b2.mono b1.size)
  clear b1 b2 x1 x2 F0 E1
  have hlx : xb < w2.heap.size := Nat.lt_of_lt_of_le hlx0 B2.size
  have hx0 := (B2.cell (p := ⟨xb, 0, none⟩) hlx0).trans hx00
  have hx2 := (B2.cell (p := ⟨xb, 2, none⟩) hlx0).trans hx20
  clear hx00 hx20
  cases hr : SB.right ⟨xn, xt, xc, xx⟩ with
  | false =>
    rw [hr] at F1
    rw [if_neg (fun q => by cases q.1)]
    refine wp_seq (wp_seq (reg_mono (zs_r2c0 (by kernel_rfl) _ F1 rfl rfl rfl rfl y1 hlx hx0 hx2 ?_)))
    intro a2 w3 F2 g2 b2
    refine wp_cond_true g2 ?_
    refine wp_seq (reg_mono (zs_r3 (by kernel_rfl) _ F2 rfl rfl (Below.at b2 y1) (Below.at b2 y2) ?_))
    intro a3 F3
    try dsimp only at F3
    refine wp_ret ?_
    simp only [Exit.then]
    exact zs_ret (T := ⟨xn, xt, xc, xx⟩) F3 rfl (set4_box (Below.at b2 y2)) rfl ⟨rfl, set4_below (B2.trans (b2.mono B2.size)) (Nat.le_succ _)⟩
  | true =>
    rw [hr] at F1
    cases hn : (xt.toList == nm.toList) with
    | false =>
      rw [if_neg (fun q => by cases q.2.1)]
      refine wp_seq (wp_seq (reg_mono (zs_r2c1 (by kernel_rfl) _ F1 rfl rfl rfl rfl y1 hlx hx0 hx2 hn ?_)))
      intro a2 w3 F2 g2 b2
      refine wp_cond_true g2 ?_
      refine wp_seq (reg_mono (zs_r3 (by kernel_rfl) _ F2 rfl rfl (Below.at b2 y1) (Below.at b2 y2) ?_))
      intro a3 F3
      try dsimp only at F3
      refine wp_ret ?_
      simp only [Exit.then]
      exact zs_ret (T := ⟨xn, xt, xc, xx⟩) F3 rfl (set4_box (Below.at b2 y2)) rfl ⟨rfl, set4_below (B2.trans (b2.mono B2.size)) (Nat.le_succ _)⟩
    | true =>
      by_cases h2 : n < 0
      case pos =>
        rw [if_neg (fun q => q.2.2.1 h2)]
        refine wp_seq (wp_seq (reg_mono (zs_r2c2 (by kernel_rfl) _ F1 rfl rfl rfl rfl y1 hlx hx0 hx2 hn h2 ?_)))
        intro a2 w3 F2 g2 b2
        refine wp_cond_true g2 ?_
        refine wp_seq (reg_mono (zs_r3 (by kernel_rfl) _ F2 rfl rfl (Below.at b2 y1) (Below.at b2 y2) ?_))
        intro a3 F3
        try dsimp only at F3
        refine wp_ret ?_
        simp only [Exit.then]
        exact zs_ret (T := ⟨xn, xt, xc, xx⟩) F3 rfl (set4_box (Below.at b2 y2)) rfl ⟨rfl, set4_below (B2.trans (b2.mono B2.size)) (Nat.le_succ _)⟩
      by_cases h3 : fi < n
      case pos =>
        rw [if_neg (fun q => q.2.2.2 h3)]
        refine wp_seq (wp_seq (reg_mono (zs_r2c3 (by kernel_rfl) _ F1 rfl rfl rfl rfl y1 hlx hx0 hx2 hn h2 h3 ?_)))
        intro a2 w3 F2 g2 b2
        refine wp_cond_true g2 ?_
        refine wp_seq (reg_mono (zs_r3 (by kernel_rfl) _ F2 rfl rfl (Below.at b2 y1) (Below.at b2 y2) ?_))
        intro a3 F3
        try dsimp only at F3
        refine wp_ret ?_
        simp only [Exit.then]
        exact zs_ret (T := ⟨xn, xt, xc, xx⟩) F3 rfl (set4_box (Below.at b2 y2)) rfl ⟨rfl, set4_below (B2.trans (b2.mono B2.size)) (Nat.le_succ _)⟩
      rw [if_pos ⟨rfl, rfl, h2, h3⟩]
      refine wp_seq (wp_seq (reg_mono (zs_r2c4 (by kernel_rfl) _ F1 rfl rfl rfl rfl y1 hlx hx0 hx2 hn h2 h3 ?_)))
      intro a2 w3 F2 g2 b2
      refine wp_cond_false g2 (wp_skip ?_)
      show Code.wp _ _ _ _ _
      have u1 := Below.at b2 y1
      have u2 := Below.at b2 y2
      have B3 := B2.trans (b2.mono B2.size)
      refine wp_seq (reg_mono (zs_r4 (by kernel_rfl) _ F2 rfl rfl u1 ?_))
      intro a4 F4
      try dsimp only at F4
      have z1 : (w3.setCell ⟨w.heap.size, 2, none⟩ (.int .i64 n)).heap[w.heap.size]? = some (.cells #[.string xn, .string xt, .int .i64 n, .int .i64 xx] 37 (0, 0)) := by simp [World.setCell, Array.getElem?_modify, u1]
      have z2 := set_other (o := 2) (x := .int .i64 n) u2 (show w.heap.size ≠ w.heap.size + 1 by omega)
      have B4 : Below w.heap.size w (w3.setCell ⟨w.heap.size, 2, none⟩ (.int .i64 n)) := B3.setCell (Nat.le_refl _) _
      generalize w3.setCell _ _ = w4 at *
      refine wp_seq (reg_mono (zs_r5 (by kernel_rfl) _ F4 rfl rfl z1 ?_))
      intro a5 F5
      try dsimp only at F5
      have t1 : (w4.setCell ⟨w.heap.size, 3, none⟩ (.int .i64 n)).heap[w.heap.size]? = some (.cells #[.string xn, .string xt, .int .i64 n, .int .i64 n] 37 (0, 0)) := by simp [World.setCell, Array.getElem?_modify, z1]
      have t2 := set_other (o := 3) (x := .int .i64 n) z2 (show w.heap.size ≠ w.heap.size + 1 by omega)
      have B5 : Below w.heap.size w (w4.setCell ⟨w.heap.size, 3, none⟩ (.int .i64 n)) := B4.setCell (Nat.le_refl _) _
      generalize w4.setCell _ _ = w5 at *
      refine wp_seq (reg_mono (zs_r6 (by kernel_rfl) _ F5 rfl rfl t1 t2 ?_))
      intro a6 F6
      try dsimp only at F6
      exact wp_ret (zs_ret (T := ⟨xn, xt, n, n⟩) F6 rfl (set4_box t2) rfl ⟨rfl, set4_below B5 (Nat.le_succ _)⟩)
end Go.Proofs.Ytominplelmbecaa.Y
