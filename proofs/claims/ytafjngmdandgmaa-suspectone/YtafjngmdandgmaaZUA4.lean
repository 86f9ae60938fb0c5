/-
  The program's Alive: its regions (mkua.py).
-/
import Derived.Test.YtafjngmdandgmaaZUA1
import Derived.Laws.OwnMore
namespace Go.Proofs.Ytafjngmdandgmaa
open Go.RowKit

attribute [local go_sem ↓] Go.wp_at_zero Go.wp_at_succ
set_option linter.unusedSimpArgs false
set_option linter.unusedVariables false
theorem infoPM : (Try.prog.info? tMember).map (fun i => (i.zero, i.size, i.bytes)) = some (some (.agg #[.int .i64 0, .int .i64 0]), 2, 16) := by kernel_rfl
set_option maxRecDepth 100000 in
theorem frame_pa (t : Array Value) (h : t.size = 21) : ∃ u : Nat → Value, t = List.toArray (u 0 :: u 1 :: u 2 :: u 3 :: u 4 :: u 5 :: u 6 :: u 7 :: u 8 :: u 9 :: u 10 :: u 11 :: u 12 :: u 13 :: u 14 :: u 15 :: u 16 :: u 17 :: u 18 :: u 19 :: u 20 :: []) := by
  refine ⟨fun i => t.getD i undef, ?_⟩
  have e : (List.toArray ((fun i => t.getD i undef) 0 :: (fun i => t.getD i undef) 1 :: (fun i => t.getD i undef) 2 :: (fun i => t.getD i undef) 3 :: (fun i => t.getD i undef) 4 :: (fun i => t.getD i undef) 5 :: (fun i => t.getD i undef) 6 :: (fun i => t.getD i undef) 7 :: (fun i => t.getD i undef) 8 :: (fun i => t.getD i undef) 9 :: (fun i => t.getD i undef) 10 :: (fun i => t.getD i undef) 11 :: (fun i => t.getD i undef) 12 :: (fun i => t.getD i undef) 13 :: (fun i => t.getD i undef) 14 :: (fun i => t.getD i undef) 15 :: (fun i => t.getD i undef) 16 :: (fun i => t.getD i undef) 17 :: (fun i => t.getD i undef) 18 :: (fun i => t.getD i undef) 19 :: (fun i => t.getD i undef) 20 :: []) : Array Value) = ((List.range 21).map fun i => t.getD i undef).toArray := rfl
  refine Eq.trans ?_ e.symm
  apply Array.ext
  · simp [h]
  · intro k h1 h2
    simp [Array.getD, h1]
/-- The slots that matter. -/
structure Vpa where
  v0 : Value
  v2 : Value
  v3 : Value
  v4 : Value
  v5 : Value
  v6 : Value
structure Fpa (a : Act) (v : Vpa) : Prop where
  size : a.tmps.size = 21
  defers : a.defers = []
  s0 : a.tmps.getD 0 undef = v.v0
  s2 : a.tmps.getD 2 undef = v.v2
  s3 : a.tmps.getD 3 undef = v.v3
  s4 : a.tmps.getD 4 undef = v.v4
  s5 : a.tmps.getD 5 undef = v.v5
  s6 : a.tmps.getD 6 undef = v.v6
set_option maxHeartbeats 8000000 in
set_option maxRecDepth 100000 in
theorem pa_r1 {K : Act → World → Prop} {c : Code} (hc : regOf (Try.f13.body.getD .skip) 1 = some c) (a : Act) {v : Vpa} {wq : World}  (hF : Fpa a v) (hQ : ∀ a', Fpa a' { v with v3 := .slice none 0 0 } → K a' wq) :
    Code.wp Try.prog c (Exit.then K fun _ _ _ => False) a wq := by
  have HQ := hide hQ
  clear hQ
  obtain ⟨t', d'⟩ := a
  obtain ⟨v0, v2, v3, v4, v5, v6⟩ := v
  obtain ⟨hs1, hd1, q0, q2, q3, q4, q5, q6⟩ := hF
  obtain ⟨u, hu⟩ := frame_pa t' hs1
  simp only at hd1 q0 q2 q3 q4 q5 q6
  subst hu hd1
  have e0 : u 0 = v0 := q0
  have e2 : u 2 = v2 := q2
  have e3 : u 3 = v3 := q3
  have e4 : u 4 = v4 := q4
  have e5 : u 5 = v5 := q5
  have e6 : u 6 = v6 := q6
  rw [e0, e2, e3, e4, e5, e6]
  clear q0 e0 q2 e2 q3 e3 q4 e4 q5 e5 q6 e6 hs1
  simp only [Try.f13, Option.getD_some, regOf] at hc
  injection hc with hc
  subst hc
  generalize u 1 = u1
  generalize u 7 = u7
  generalize u 8 = u8
  generalize u 9 = u9
  generalize u 10 = u10
  generalize u 11 = u11
  generalize u 12 = u12
  generalize u 13 = u13
  generalize u 14 = u14
  generalize u 15 = u15
  generalize u 16 = u16
  generalize u 17 = u17
  generalize u 18 = u18
  generalize u 19 = u19
  generalize u 20 = u20
  clear u
  go_wp2
  exact HQ.out _ ⟨rfl, rfl, rfl, rfl, rfl, rfl, rfl, rfl⟩
set_option maxHeartbeats 8000000 in
set_option maxRecDepth 100000 in
theorem pa_r2 {K : Act → World → Prop} {c : Code} (hc : regOf (Try.f13.body.getD .skip) 2 = some c) (a : Act) {v : Vpa} {wq : World}  (hF : Fpa a v) (hQ : ∀ a', Fpa a' { v with v6 := .int .i64 ((0 : Nat) : Int) } → K a' wq) :
    Code.wp Try.prog c (Exit.then K fun _ _ _ => False) a wq := by
  have HQ := hide hQ
  clear hQ
  obtain ⟨t', d'⟩ := a
  obtain ⟨v0, v2, v3, v4, v5, v6⟩ := v
  obtain ⟨hs1, hd1, q0, q2, q3, q4, q5, q6⟩ := hF
  obtain ⟨u, hu⟩ := frame_pa t' hs1
  simp only at hd1 q0 q2 q3 q4 q5 q6
  subst hu hd1
  have e0 : u 0 = v0 := q0
  have e2 : u 2 = v2 := q2
  have e3 : u 3 = v3 := q3
  have e4 : u 4 = v4 := q4
  have e5 : u 5 = v5 := q5
  have e6 : u 6 = v6 := q6
  rw [e0, e2, e3, e4, e5, e6]
  clear q0 e0 q2 e2 q3 e3 q4 e4 q5 e5 q6 e6 hs1
  simp only [Try.f13, Option.getD_some, regOf] at hc
  injection hc with hc
  subst hc
  generalize u 1 = u1
  generalize u 7 = u7
  generalize u 8 = u8
  generalize u 9 = u9
  generalize u 10 = u10
  generalize u 11 = u11
  generalize u 12 = u12
  generalize u 13 = u13
  generalize u 14 = u14
  generalize u 15 = u15
  generalize u 16 = u16
  generalize u 17 = u17
  generalize u 18 = u18
  generalize u 19 = u19
  generalize u 20 = u20
  clear u
  go_wp2
  exact HQ.out _ ⟨rfl, rfl, rfl, rfl, rfl, rfl, rfl, rfl⟩
set_option maxHeartbeats 8000000 in
set_option maxRecDepth 100000 in
theorem pa_r3 {K : Act → World → Prop} {c : Code} (hc : regOf (Try.f13.body.getD .skip) 3 = some c) (a : Act) {v : Vpa} {wq : World} {i : Nat} (hF : Fpa a v) (h6v : v.v6 = .int .i64 (i : Int)) (hQ : ∀ a', Fpa a' v → a'.tmps.getD 7 undef = .bool (decide (i < 7)) → K a' wq) :
    Code.wp Try.prog c (Exit.then K fun _ _ _ => False) a wq := by
  have HQ := hide hQ
  clear hQ
  obtain ⟨t', d'⟩ := a
  obtain ⟨v0, v2, v3, v4, v5, v6⟩ := v
  simp only at h6v HQ
  subst h6v
  obtain ⟨hs1, hd1, q0, q2, q3, q4, q5, q6⟩ := hF
  obtain ⟨u, hu⟩ := frame_pa t' hs1
  simp only at hd1 q0 q2 q3 q4 q5 q6
  subst hu hd1
  have e0 : u 0 = v0 := q0
  have e2 : u 2 = v2 := q2
  have e3 : u 3 = v3 := q3
  have e4 : u 4 = v4 := q4
  have e5 : u 5 = v5 := q5
  have e6 : u 6 = .int .i64 (i : Int) := q6
  rw [e0, e2, e3, e4, e5, e6]
  clear q0 e0 q2 e2 q3 e3 q4 e4 q5 e5 q6 e6 hs1
  simp only [Try.f13, Option.getD_some, regOf] at hc
  injection hc with hc
  subst hc
  generalize u 1 = u1
  generalize u 7 = u7
  generalize u 8 = u8
  generalize u 9 = u9
  generalize u 10 = u10
  generalize u 11 = u11
  generalize u 12 = u12
  generalize u 13 = u13
  generalize u 14 = u14
  generalize u 15 = u15
  generalize u 16 = u16
  generalize u 17 = u17
  generalize u 18 = u18
  generalize u 19 = u19
  generalize u 20 = u20
  clear u
  by_cases h1 : i < 7
  · rw [decide_eq_true h1] at HQ
    have g : (i : Int) < 7 := by omega
    go_wp2
    exact HQ.out _ ⟨rfl, rfl, rfl, rfl, rfl, rfl, rfl, rfl⟩ (by first | rfl | (simp; done) | (simp; omega))
  · rw [decide_eq_false h1] at HQ
    have g : ¬ (i : Int) < 7 := by omega
    go_wp2
    exact HQ.out _ ⟨rfl, rfl, rfl, rfl, rfl, rfl, rfl, rfl⟩ (by first | rfl | (simp; done) | (simp; omega))
set_option maxHeartbeats 8000000 in
set_option maxRecDepth 100000 in
theorem pa_r4 {K : Act → World → Prop} {c : Code} (hc : regOf (Try.f13.body.getD .skip) 4 = some c) (a : Act) {v : Vpa} {wq : World} {i : Nat} (hF : Fpa a v) (h6v : v.v6 = .int .i64 (i : Int)) (hQ : ∀ a', Fpa a' { v with v4 := .int .i64 (i : Int) } → K a' wq) :
    Code.wp Try.prog c (Exit.then K fun _ _ _ => False) a wq := by
  have HQ := hide hQ
  clear hQ
  obtain ⟨t', d'⟩ := a
  obtain ⟨v0, v2, v3, v4, v5, v6⟩ := v
  simp only at h6v HQ
  subst h6v
  obtain ⟨hs1, hd1, q0, q2, q3, q4, q5, q6⟩ := hF
  obtain ⟨u, hu⟩ := frame_pa t' hs1
  simp only at hd1 q0 q2 q3 q4 q5 q6
  subst hu hd1
  have e0 : u 0 = v0 := q0
  have e2 : u 2 = v2 := q2
  have e3 : u 3 = v3 := q3
  have e4 : u 4 = v4 := q4
  have e5 : u 5 = v5 := q5
  have e6 : u 6 = .int .i64 (i : Int) := q6
  rw [e0, e2, e3, e4, e5, e6]
  clear q0 e0 q2 e2 q3 e3 q4 e4 q5 e5 q6 e6 hs1
  simp only [Try.f13, Option.getD_some, regOf] at hc
  injection hc with hc
  subst hc
  generalize u 1 = u1
  generalize u 7 = u7
  generalize u 8 = u8
  generalize u 9 = u9
  generalize u 10 = u10
  generalize u 11 = u11
  generalize u 12 = u12
  generalize u 13 = u13
  generalize u 14 = u14
  generalize u 15 = u15
  generalize u 16 = u16
  generalize u 17 = u17
  generalize u 18 = u18
  generalize u 19 = u19
  generalize u 20 = u20
  clear u
  go_wp2
  exact HQ.out _ ⟨rfl, rfl, rfl, rfl, rfl, rfl, rfl, rfl⟩
set_option maxHeartbeats 8000000 in
set_option maxRecDepth 100000 in
theorem pa_r5 {K : Act → World → Prop} {c : Code} (hc : regOf (Try.f13.body.getD .skip) 5 = some c) (a : Act) {v : Vpa} {wq : World} {b i : Nat} {m : MB} (hF : Fpa a v) (h0v : v.v0 = .pointer (some ⟨b, 0, none⟩)) (h4v : v.v4 = .int .i64 (i : Int)) (hE : Calls Try.prog 21 #[.pointer (some ⟨b, 0, none⟩), .int .i64 (i : Int)] wq fun e w' => e = .returned m.v ∧ Below wq.heap.size wq w')
    (hQ : ∀ a' w', Fpa a' { v with v5 := .pointer (some ⟨w'.heap.size, 0, none⟩) } → Below wq.heap.size wq w' → K a' (w'.alloc (.cells #[.int .i64 m.node, .int .i64 m.life] tMember))) :
    Code.wp Try.prog c (Exit.then K fun _ _ _ => False) a wq := by
  have HQ := hide hQ
  clear hQ
  obtain ⟨t', d'⟩ := a
  obtain ⟨v0, v2, v3, v4, v5, v6⟩ := v
  simp only at h0v h4v HQ
  subst h0v h4v
  obtain ⟨hs1, hd1, q0, q2, q3, q4, q5, q6⟩ := hF
  obtain ⟨u, hu⟩ := frame_pa t' hs1
  simp only at hd1 q0 q2 q3 q4 q5 q6
  subst hu hd1
  have e0 : u 0 = .pointer (some ⟨b, 0, none⟩) := q0
  have e2 : u 2 = v2 := q2
  have e3 : u 3 = v3 := q3
  have e4 : u 4 = .int .i64 (i : Int) := q4
  have e5 : u 5 = v5 := q5
  have e6 : u 6 = v6 := q6
  rw [e0, e2, e3, e4, e5, e6]
  clear q0 e0 q2 e2 q3 e3 q4 e4 q5 e5 q6 e6 hs1
  simp only [Try.f13, Option.getD_some, regOf] at hc
  injection hc with hc
  subst hc
  generalize u 1 = u1
  generalize u 7 = u7
  generalize u 8 = u8
  generalize u 9 = u9
  generalize u 10 = u10
  generalize u 11 = u11
  generalize u 12 = u12
  generalize u 13 = u13
  generalize u 14 = u14
  generalize u 15 = u15
  generalize u 16 = u16
  generalize u 17 = u17
  generalize u 18 = u18
  generalize u 19 = u19
  generalize u 20 = u20
  clear u
  have HE := hide hE
  clear hE
  unfold MB.v at HE
  go_wp2_with fail
  refine HE.out.mono ?_
  rintro e w1 ⟨rfl, b1⟩
  have B1 := hide b1
  clear b1 HE
  go_wp2
  exact HQ.out _ _ ⟨rfl, rfl, rfl, rfl, rfl, rfl, rfl, rfl⟩ B1.out
set_option maxHeartbeats 8000000 in
set_option maxRecDepth 100000 in
theorem pa_r6 {K : Act → World → Prop} {c : Code} (hc : regOf (Try.f13.body.getD .skip) 6 = some c) (a : Act) {v : Vpa} {wq : World} {b d : Nat} {m : MB} {r : Bool} (hF : Fpa a v) (h0v : v.v0 = .pointer (some ⟨b, 0, none⟩)) (h5v : v.v5 = .pointer (some ⟨d, 0, none⟩)) (hD : wq.heap[d]? = some (.cells #[.int .i64 m.node, .int .i64 m.life] tMember (0, 0))) (hE : Calls Try.prog 15 #[.pointer (some ⟨b, 0, none⟩), m.v] wq fun e w' => e = .returned (.bool r) ∧ Below wq.heap.size wq w')
    (hQ : ∀ a' w', Fpa a' v → a'.tmps.getD 14 undef = .bool r → Below wq.heap.size wq w' → K a' w') :
    Code.wp Try.prog c (Exit.then K fun _ _ _ => False) a wq := by
  have HQ := hide hQ
  clear hQ
  obtain ⟨t', d'⟩ := a
  obtain ⟨v0, v2, v3, v4, v5, v6⟩ := v
  simp only at h0v h5v HQ
  subst h0v h5v
  obtain ⟨hs1, hd1, q0, q2, q3, q4, q5, q6⟩ := hF
  obtain ⟨u, hu⟩ := frame_pa t' hs1
  simp only at hd1 q0 q2 q3 q4 q5 q6
  subst hu hd1
  have e0 : u 0 = .pointer (some ⟨b, 0, none⟩) := q0
  have e2 : u 2 = v2 := q2
  have e3 : u 3 = v3 := q3
  have e4 : u 4 = v4 := q4
  have e5 : u 5 = .pointer (some ⟨d, 0, none⟩) := q5
  have e6 : u 6 = v6 := q6
  rw [e0, e2, e3, e4, e5, e6]
  clear q0 e0 q2 e2 q3 e3 q4 e4 q5 e5 q6 e6 hs1
  simp only [Try.f13, Option.getD_some, regOf] at hc
  injection hc with hc
  subst hc
  generalize u 1 = u1
  generalize u 7 = u7
  generalize u 8 = u8
  generalize u 9 = u9
  generalize u 10 = u10
  generalize u 11 = u11
  generalize u 12 = u12
  generalize u 13 = u13
  generalize u 14 = u14
  generalize u 15 = u15
  generalize u 16 = u16
  generalize u 17 = u17
  generalize u 18 = u18
  generalize u 19 = u19
  generalize u 20 = u20
  clear u
  have HE := hide hE
  have c0 := box_cell hD 0 rfl
  have c1 := box_cell hD 1 rfl
  clear hD hE
  unfold MB.v at HE
  go_wp2_with fail
  refine HE.out.mono ?_
  rintro e w1 ⟨rfl, b1⟩
  have B1 := hide b1
  clear b1 HE
  go_wp2
  exact HQ.out _ _ ⟨rfl, rfl, rfl, rfl, rfl, rfl, rfl, rfl⟩ (by first | rfl | (simp; done)) B1.out
set_option maxHeartbeats 8000000 in
set_option maxRecDepth 100000 in
theorem pa_r7 {K : Act → World → Prop} {c : Code} (hc : regOf (Try.f13.body.getD .skip) 7 = some c) (a : Act) {v : Vpa} {wq : World} {d n oc B : Nat} {oo : Option Addr} {m : MB} {D : List MB} (hF : Fpa a v) (h3v : v.v3 = .slice oo n oc) (h5v : v.v5 = .pointer (some ⟨d, 0, none⟩)) (hD : wq.heap[d]? = some (.cells #[.int .i64 m.node, .int .i64 m.life] tMember (0, 0))) (hR : wq.ownsRow B tMember 2 (.slice oo n oc) n (mbCells D)) (hl : n ≤ 7) (hB : B ≤ wq.heap.size)
    (hQ : ∀ a' w' oo' oc', Fpa a' { v with v3 := .slice oo' (n + 1) oc' } → Touch (fun j => (Value.slice oo n oc).ownBlock = some j) wq w' → w'.ownsRow B tMember 2 (.slice oo' (n + 1) oc') (n + 1) (mbCells (D ++ [m])) → K a' w') :
    Code.wp Try.prog c (Exit.then K fun _ _ _ => False) a wq := by
  have HQ := hide hQ
  clear hQ
  obtain ⟨t', d'⟩ := a
  obtain ⟨v0, v2, v3, v4, v5, v6⟩ := v
  simp only at h3v h5v HQ
  subst h3v h5v
  obtain ⟨hs1, hd1, q0, q2, q3, q4, q5, q6⟩ := hF
  obtain ⟨u, hu⟩ := frame_pa t' hs1
  simp only at hd1 q0 q2 q3 q4 q5 q6
  subst hu hd1
  have e0 : u 0 = v0 := q0
  have e2 : u 2 = v2 := q2
  have e3 : u 3 = .slice oo n oc := q3
  have e4 : u 4 = v4 := q4
  have e5 : u 5 = .pointer (some ⟨d, 0, none⟩) := q5
  have e6 : u 6 = v6 := q6
  rw [e0, e2, e3, e4, e5, e6]
  clear q0 e0 q2 e2 q3 e3 q4 e4 q5 e5 q6 e6 hs1
  simp only [Try.f13, Option.getD_some, regOf] at hc
  injection hc with hc
  subst hc
  generalize u 1 = u1
  generalize u 7 = u7
  generalize u 8 = u8
  generalize u 9 = u9
  generalize u 10 = u10
  generalize u 11 = u11
  generalize u 12 = u12
  generalize u 13 = u13
  generalize u 14 = u14
  generalize u 15 = u15
  generalize u 16 = u16
  generalize u 17 = u17
  generalize u 18 = u18
  generalize u 19 = u19
  generalize u 20 = u20
  clear u
  obtain ⟨i0, hi0, hz0, hz1, hz2⟩ := info_parts infoPM
  have c0 := box_cell hD 0 rfl
  have c1 := box_cell hD 1 rfl
  have RO := hide hR
  clear hD hR
  go_wp2_with (first | (at_builtin; refine wpList_append_own_at _ rfl _ _ 35 rfl B tMember i0 _ 2 16 Try.underlying35 hi0 hz0 hz1 hz2 rfl (by omega) (.slice oo n oc) n (mbCells D) rfl (RO.out.alloc _) ⟨wq.heap.size, 0, none⟩ 1 1 [.int .i64 m.node, .int .i64 m.life] rfl rfl (World.news_of_block (cs := #[.int .i64 m.node, .int .i64 m.life]) (t := tMember) (fr := (0, 0)) (heap_alloc_new wq _)) (by simp [Value.oneCell']) (by unfold maxLen; omega) (by omega) (by simp; omega) ?_; intro v4 w4 hown4 hgrow4 hnil4 hloc4; obtain ⟨a4, c4, rfl⟩ := row_slice hown4) | go_in)
  exact HQ.out _ _ a4 c4 ⟨rfl, rfl, rfl, rfl, rfl, rfl, rfl, rfl⟩ (((Touch.refl _ wq).alloc _).grown hgrow4 fun j e _ => e) (by rw [mbCells_append]; exact hown4)
set_option maxHeartbeats 8000000 in
set_option maxRecDepth 100000 in
theorem pa_r8 {K : Act → World → Prop} {c : Code} (hc : regOf (Try.f13.body.getD .skip) 8 = some c) (a : Act) {v : Vpa} {wq : World} {i : Nat} (hF : Fpa a v) (h6v : v.v6 = .int .i64 (i : Int)) (hn : i ≤ 4611686018427387904) (hQ : ∀ a', Fpa a' { v with v6 := .int .i64 ((i + 1 : Nat) : Int) } → K a' wq) :
    Code.wp Try.prog c (Exit.then K fun _ _ _ => False) a wq := by
  have HQ := hide hQ
  clear hQ
  obtain ⟨t', d'⟩ := a
  obtain ⟨v0, v2, v3, v4, v5, v6⟩ := v
  simp only at h6v HQ
  subst h6v
  obtain ⟨hs1, hd1, q0, q2, q3, q4, q5, q6⟩ := hF
  obtain ⟨u, hu⟩ := frame_pa t' hs1
  simp only at hd1 q0 q2 q3 q4 q5 q6
  subst hu hd1
  have e0 : u 0 = v0 := q0
  have e2 : u 2 = v2 := q2
  have e3 : u 3 = v3 := q3
  have e4 : u 4 = v4 := q4
  have e5 : u 5 = v5 := q5
  have e6 : u 6 = .int .i64 (i : Int) := q6
  rw [e0, e2, e3, e4, e5, e6]
  clear q0 e0 q2 e2 q3 e3 q4 e4 q5 e5 q6 e6 hs1
  simp only [Try.f13, Option.getD_some, regOf] at hc
  injection hc with hc
  subst hc
  generalize u 1 = u1
  generalize u 7 = u7
  generalize u 8 = u8
  generalize u 9 = u9
  generalize u 10 = u10
  generalize u 11 = u11
  generalize u 12 = u12
  generalize u 13 = u13
  generalize u 14 = u14
  generalize u 15 = u15
  generalize u 16 = u16
  generalize u 17 = u17
  generalize u 18 = u18
  generalize u 19 = u19
  generalize u 20 = u20
  clear u
  have hj1 : ((i + 1 : Nat) : Int) = (i : Int) + 1 := by omega
  rw [hj1] at HQ
  clear hj1
  go_wp2
  exact HQ.out _ ⟨rfl, rfl, rfl, rfl, rfl, rfl, rfl, rfl⟩
set_option maxHeartbeats 8000000 in
set_option maxRecDepth 100000 in
theorem pa_r9 {K : Act → World → Prop} {c : Code} (hc : regOf (Try.f13.body.getD .skip) 9 = some c) (a : Act) {v : Vpa} {wq : World}  (hF : Fpa a v) (hQ : ∀ a', Fpa a' { v with v2 := v.v3 } → K a' wq) :
    Code.wp Try.prog c (Exit.then K fun _ _ _ => False) a wq := by
  have HQ := hide hQ
  clear hQ
  obtain ⟨t', d'⟩ := a
  obtain ⟨v0, v2, v3, v4, v5, v6⟩ := v
  obtain ⟨hs1, hd1, q0, q2, q3, q4, q5, q6⟩ := hF
  obtain ⟨u, hu⟩ := frame_pa t' hs1
  simp only at hd1 q0 q2 q3 q4 q5 q6
  subst hu hd1
  have e0 : u 0 = v0 := q0
  have e2 : u 2 = v2 := q2
  have e3 : u 3 = v3 := q3
  have e4 : u 4 = v4 := q4
  have e5 : u 5 = v5 := q5
  have e6 : u 6 = v6 := q6
  rw [e0, e2, e3, e4, e5, e6]
  clear q0 e0 q2 e2 q3 e3 q4 e4 q5 e5 q6 e6 hs1
  simp only [Try.f13, Option.getD_some, regOf] at hc
  injection hc with hc
  subst hc
  generalize u 1 = u1
  generalize u 7 = u7
  generalize u 8 = u8
  generalize u 9 = u9
  generalize u 10 = u10
  generalize u 11 = u11
  generalize u 12 = u12
  generalize u 13 = u13
  generalize u 14 = u14
  generalize u 15 = u15
  generalize u 16 = u16
  generalize u 17 = u17
  generalize u 18 = u18
  generalize u 19 = u19
  generalize u 20 = u20
  clear u
  go_wp2
  exact HQ.out _ ⟨rfl, rfl, rfl, rfl, rfl, rfl, rfl, rfl⟩
end Go.Proofs.Ytafjngmdandgmaa
