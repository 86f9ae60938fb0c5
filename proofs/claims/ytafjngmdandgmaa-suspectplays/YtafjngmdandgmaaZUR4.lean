/-
  carillonref13's New (mkur.py).
-/
import Derived.Test.YtafjngmdandgmaaZUR0
namespace Go.Proofs.Ytafjngmdandgmaa
open Go.RowKit

attribute [local go_sem ↓] Go.wp_at_zero Go.wp_at_succ
set_option linter.unusedSimpArgs false
set_option linter.unusedVariables false
def zeros7 : Array Value := (List.replicate 7 (Value.int .i64 0)).toArray
theorem zeros7_tab : zeros7 = tab fun _ => 0 := by
  unfold zeros7 tab
  rfl
theorem makeTab (w : World) : (Instr.makeSlice 38 (.int .i64 7) (.int .i64 7)).run Try.prog w = .ok (.slice (some ⟨w.heap.size, 0, none⟩) 7 7) (w.alloc (.cells zeros7 3)) := by kernel_rfl
theorem rnew_all (w : World) (m : MB) (b1 b2 : Nat) (h : b1 = w.heap.size ∧ b2 = w.heap.size + 1 ∨ b1 = w.heap.size + 1 ∧ b2 = w.heap.size) : RAt (((w.alloc (.cells zeros7 tInt)).alloc (.cells zeros7 tInt)).alloc (.cells #[.int .i64 m.node, .int .i64 m.life, .slice (some ⟨b1, 0, none⟩) 7 7, .slice (some ⟨b2, 0, none⟩) 7 7, .int .i64 0] tRef)) (w.heap.size + 1 + 1) b1 b2 (SU.new m) ∧ (∀ k, rOwn (w.heap.size + 1 + 1) b1 b2 k → w.heap.size ≤ k) ∧ Below w.heap.size w (((w.alloc (.cells zeros7 tInt)).alloc (.cells zeros7 tInt)).alloc (.cells #[.int .i64 m.node, .int .i64 m.life, .slice (some ⟨b1, 0, none⟩) 7 7, .slice (some ⟨b2, 0, none⟩) 7 7, .int .i64 0] tRef)) := by
  have h1 := heap_alloc_new w (.cells zeros7 tInt)
  have h2 := heap_alloc_new (w.alloc (.cells zeros7 tInt)) (.cells zeros7 tInt)
  have h3 := heap_alloc_new ((w.alloc (.cells zeros7 tInt)).alloc (.cells zeros7 tInt)) (.cells #[.int .i64 m.node, .int .i64 m.life, .slice (some ⟨b1, 0, none⟩) 7 7, .slice (some ⟨b2, 0, none⟩) 7 7, .int .i64 0] tRef)
  rw [World.size_alloc] at h2 h3
  rw [World.size_alloc] at h3
  have k1 := box_alloc (box_alloc h1 (.cells zeros7 tInt)) (.cells #[.int .i64 m.node, .int .i64 m.life, .slice (some ⟨b1, 0, none⟩) 7 7, .slice (some ⟨b2, 0, none⟩) 7 7, .int .i64 0] tRef)
  have k2 := box_alloc h2 (.cells #[.int .i64 m.node, .int .i64 m.life, .slice (some ⟨b1, 0, none⟩) 7 7, .slice (some ⟨b2, 0, none⟩) 7 7, .int .i64 0] tRef)
  refine ⟨⟨?_, ?_, ?_, ?_, fun k => Nat.le_refl _⟩, ?_, ?_⟩
  · exact h3
  · rcases h with ⟨rfl, rfl⟩ | ⟨rfl, rfl⟩
    · exact k1.trans (by rw [zeros7_tab]; rfl)
    · exact k2.trans (by rw [zeros7_tab]; rfl)
  · rcases h with ⟨rfl, rfl⟩ | ⟨rfl, rfl⟩
    · exact k2.trans (by rw [zeros7_tab]; rfl)
    · exact k1.trans (by rw [zeros7_tab]; rfl)
  · omega
  · rintro k (rfl | rfl | rfl) <;> omega
  · exact (((Below.refl w.heap.size w).alloc (Nat.le_refl _) _).alloc (by rw [World.size_alloc]; omega) _).alloc (by rw [World.size_alloc, World.size_alloc]; omega) _
set_option maxRecDepth 100000 in
theorem frame_rn (t : Array Value) (h : t.size = 13) : ∃ u : Nat → Value, t = List.toArray (u 0 :: u 1 :: u 2 :: u 3 :: u 4 :: u 5 :: u 6 :: u 7 :: u 8 :: u 9 :: u 10 :: u 11 :: u 12 :: []) := by
  refine ⟨fun i => t.getD i undef, ?_⟩
  have e : (List.toArray ((fun i => t.getD i undef) 0 :: (fun i => t.getD i undef) 1 :: (fun i => t.getD i undef) 2 :: (fun i => t.getD i undef) 3 :: (fun i => t.getD i undef) 4 :: (fun i => t.getD i undef) 5 :: (fun i => t.getD i undef) 6 :: (fun i => t.getD i undef) 7 :: (fun i => t.getD i undef) 8 :: (fun i => t.getD i undef) 9 :: (fun i => t.getD i undef) 10 :: (fun i => t.getD i undef) 11 :: (fun i => t.getD i undef) 12 :: []) : Array Value) = ((List.range 13).map fun i => t.getD i undef).toArray := rfl
  refine Eq.trans ?_ e.symm
  apply Array.ext
  · simp [h]
  · intro k h1 h2
    simp [Array.getD, h1]
/-- The slots that matter. -/
structure Vrn where
  v1 : Value
  v2 : Value
  v3 : Value
structure Frn (a : Act) (v : Vrn) : Prop where
  size : a.tmps.size = 13
  defers : a.defers = []
  s1 : a.tmps.getD 1 undef = v.v1
  s2 : a.tmps.getD 2 undef = v.v2
  s3 : a.tmps.getD 3 undef = v.v3
set_option maxHeartbeats 8000000 in
set_option maxRecDepth 100000 in
theorem rn_r1 {K : Act → World → Prop} {c : Code} (hc : regOf (Try.f8.body.getD .skip) 1 = some c) (a : Act) {v : Vrn} {wq : World} {d : Nat} {m : MB} (hF : Frn a v) (h1v : v.v1 = .pointer (some ⟨d, 0, none⟩)) (hD : wq.heap[d]? = some (.cells #[.int .i64 m.node, .int .i64 m.life] tMember (0, 0)))
    (hQ : ∀ a' w', Frn a' { v with v3 := .bool (decide m.right) } → Below wq.heap.size wq w' → K a' w') :
    Code.wp Try.prog c (Exit.then K fun _ _ _ => False) a wq := by
  have HQ := hide hQ
  clear hQ
  obtain ⟨t', d'⟩ := a
  obtain ⟨v1, v2, v3⟩ := v
  simp only at h1v HQ
  subst h1v
  obtain ⟨hs1, hd1, q1, q2, q3⟩ := hF
  obtain ⟨u, hu⟩ := frame_rn t' hs1
  simp only at hd1 q1 q2 q3
  subst hu hd1
  have e1 : u 1 = .pointer (some ⟨d, 0, none⟩) := q1
  have e2 : u 2 = v2 := q2
  have e3 : u 3 = v3 := q3
  rw [e1, e2, e3]
  clear q1 e1 q2 e2 q3 e3 hs1
  simp only [Try.f8, Option.getD_some, regOf] at hc
  injection hc with hc
  subst hc
  generalize u 0 = u0
  generalize u 4 = u4
  generalize u 5 = u5
  generalize u 6 = u6
  generalize u 7 = u7
  generalize u 8 = u8
  generalize u 9 = u9
  generalize u 10 = u10
  generalize u 11 = u11
  generalize u 12 = u12
  clear u
  have HE := hide (rmember m wq)
  have c0 := box_cell hD 0 rfl
  have c1 := box_cell hD 1 rfl
  clear hD
  unfold MB.v at HE
  go_wp2_with fail
  refine HE.out.mono ?_
  rintro e w1 ⟨rfl, b1⟩
  have B1 := hide b1
  clear b1 HE
  generalize decide m.right = r at *
  go_wp2
  exact HQ.out _ _ ⟨rfl, rfl, rfl, rfl, rfl⟩ B1.out
set_option maxHeartbeats 8000000 in
set_option maxRecDepth 100000 in
theorem rn_r2 {K : Act → World → Prop} {c : Code} (hc : regOf (Try.f8.body.getD .skip) 2 = some c) (a : Act) {v : Vrn} {wq : World} {r : Bool} (hF : Frn a v) (h3v : v.v3 = .bool r) (hQ : ∀ a', Frn a' v → a'.tmps.getD 7 undef = .bool (!r) → K a' wq) :
    Code.wp Try.prog c (Exit.then K fun _ _ _ => False) a wq := by
  have HQ := hide hQ
  clear hQ
  obtain ⟨t', d'⟩ := a
  obtain ⟨v1, v2, v3⟩ := v
  simp only at h3v HQ
  subst h3v
  obtain ⟨hs1, hd1, q1, q2, q3⟩ := hF
  obtain ⟨u, hu⟩ := frame_rn t' hs1
  simp only at hd1 q1 q2 q3
  subst hu hd1
  have e1 : u 1 = v1 := q1
  have e2 : u 2 = v2 := q2
  have e3 : u 3 = .bool r := q3
  rw [e1, e2, e3]
  clear q1 e1 q2 e2 q3 e3 hs1
  simp only [Try.f8, Option.getD_some, regOf] at hc
  injection hc with hc
  subst hc
  generalize u 0 = u0
  generalize u 4 = u4
  generalize u 5 = u5
  generalize u 6 = u6
  generalize u 7 = u7
  generalize u 8 = u8
  generalize u 9 = u9
  generalize u 10 = u10
  generalize u 11 = u11
  generalize u 12 = u12
  clear u
  go_wp2
  exact HQ.out _ ⟨rfl, rfl, rfl, rfl, rfl⟩ (by first | rfl | (simp; done))
set_option maxHeartbeats 8000000 in
set_option maxRecDepth 100000 in
theorem rn_r3 {K : Act → World → Prop} {c : Code} (hc : regOf (Try.f8.body.getD .skip) 3 = some c) (a : Act) {v : Vrn} {wq : World}  (hF : Frn a v) (hQ : ∀ a', Frn a' { v with v2 := .pointer none } → K a' wq) :
    Code.wp Try.prog c (Exit.then K fun _ _ _ => False) a wq := by
  have HQ := hide hQ
  clear hQ
  obtain ⟨t', d'⟩ := a
  obtain ⟨v1, v2, v3⟩ := v
  obtain ⟨hs1, hd1, q1, q2, q3⟩ := hF
  obtain ⟨u, hu⟩ := frame_rn t' hs1
  simp only at hd1 q1 q2 q3
  subst hu hd1
  have e1 : u 1 = v1 := q1
  have e2 : u 2 = v2 := q2
  have e3 : u 3 = v3 := q3
  rw [e1, e2, e3]
  clear q1 e1 q2 e2 q3 e3 hs1
  simp only [Try.f8, Option.getD_some, regOf] at hc
  injection hc with hc
  subst hc
  generalize u 0 = u0
  generalize u 4 = u4
  generalize u 5 = u5
  generalize u 6 = u6
  generalize u 7 = u7
  generalize u 8 = u8
  generalize u 9 = u9
  generalize u 10 = u10
  generalize u 11 = u11
  generalize u 12 = u12
  clear u
  go_wp2
  exact HQ.out _ ⟨rfl, rfl, rfl, rfl, rfl⟩
set_option maxHeartbeats 8000000 in
set_option maxRecDepth 100000 in
theorem rn_r4 {K : Act → World → Prop} {c : Code} (hc : regOf (Try.f8.body.getD .skip) 4 = some c) (a : Act) {v : Vrn} {wq : World} {d : Nat} {m : MB} (hF : Frn a v) (h1v : v.v1 = .pointer (some ⟨d, 0, none⟩)) (hD : wq.heap[d]? = some (.cells #[.int .i64 m.node, .int .i64 m.life] tMember (0, 0)))
    (hQ : ∀ a' w' b b1 b2, Frn a' { v with v2 := .pointer (some ⟨b, 0, none⟩) } → RAt w' b b1 b2 (SU.new m) → (∀ k, rOwn b b1 b2 k → wq.heap.size ≤ k) → Below wq.heap.size wq w' → K a' w') :
    Code.wp Try.prog c (Exit.then K fun _ _ _ => False) a wq := by
  have HQ := hide hQ
  clear hQ
  obtain ⟨t', d'⟩ := a
  obtain ⟨v1, v2, v3⟩ := v
  simp only at h1v HQ
  subst h1v
  obtain ⟨hs1, hd1, q1, q2, q3⟩ := hF
  obtain ⟨u, hu⟩ := frame_rn t' hs1
  simp only at hd1 q1 q2 q3
  subst hu hd1
  have e1 : u 1 = .pointer (some ⟨d, 0, none⟩) := q1
  have e2 : u 2 = v2 := q2
  have e3 : u 3 = v3 := q3
  rw [e1, e2, e3]
  clear q1 e1 q2 e2 q3 e3 hs1
  simp only [Try.f8, Option.getD_some, regOf] at hc
  injection hc with hc
  subst hc
  generalize u 0 = u0
  generalize u 4 = u4
  generalize u 5 = u5
  generalize u 6 = u6
  generalize u 7 = u7
  generalize u 8 = u8
  generalize u 9 = u9
  generalize u 10 = u10
  generalize u 11 = u11
  generalize u 12 = u12
  clear u
  have c0 := box_cell hD 0 rfl
  have c1 := box_cell hD 1 rfl
  have hd := heap_lt hD
  have k1 := box_alloc hD (.cells zeros7 3)
  have k2 := box_alloc k1 (.cells zeros7 3)
  have d0 := box_cell k1 0 rfl
  have d1 := box_cell k1 1 rfl
  have e0 := box_cell k2 0 rfl
  have e1 := box_cell k2 1 rfl
  clear k1 k2 hd
  have hmk : ∀ w, (Instr.makeSlice 38 (.int .i64 7) (.int .i64 7)).run Try.prog w = .ok (.slice (some ⟨w.heap.size, 0, none⟩) 7 7) (w.alloc (.cells zeros7 3)) := makeTab
  clear hD
  go_region
  all_goals
    clear hmk c0 c1 d0 d1 e0 e1
    go_wp2
    first
      | exact HQ.out _ _ _ _ _ ⟨rfl, rfl, rfl, rfl, rfl⟩ ((rnew_all wq m _ _ (.inl ⟨rfl, rfl⟩)).1.keep fun _ _ => rfl) (rnew_all wq m _ _ (.inl ⟨rfl, rfl⟩)).2.1 (rnew_all wq m _ _ (.inl ⟨rfl, rfl⟩)).2.2.drew
      | exact HQ.out _ _ _ _ _ ⟨rfl, rfl, rfl, rfl, rfl⟩ ((rnew_all wq m _ _ (.inr ⟨rfl, rfl⟩)).1.keep fun _ _ => rfl) (rnew_all wq m _ _ (.inr ⟨rfl, rfl⟩)).2.1 (rnew_all wq m _ _ (.inr ⟨rfl, rfl⟩)).2.2.drew
def RNew (m : MB) (w : World) (e : Ending) (w' : World) : Prop := (m.right → ∃ b b1 b2, e = .returned (.pointer (some ⟨b, 0, none⟩)) ∧ RAt w' b b1 b2 (SU.new m) ∧ ∀ k, rOwn b b1 b2 k → w.heap.size ≤ k) ∧ (¬ m.right → e = .returned (.pointer none)) ∧ Below w.heap.size w w'
theorem rn_ret {W : World} {a : Act} {v : Vrn} {x : Value} {R : Ending → World → Prop} (hF : Frn a v) (h2 : v.v2 = x) (hB : R (.returned x) W) : bodyPost Try.prog Try.f8 R .ret a W := by
  have g2 := slot_get (hF.s2.trans h2)
  refine bodyPost_ret (v := x) ?_ hF.defers hB
  simp [results, Try.results8, go_sem, g2]
set_option maxHeartbeats 4000000 in
set_option maxRecDepth 100000 in
theorem rnew (m : MB) (w : World) : Calls Try.prog 8 #[m.v] w (RNew m w) := by
  have X0 := hide (heap_alloc_new w (.cells #[.int .i64 m.node, .int .i64 m.life] tMember))
  have HB := hide ((Below.refl w.heap.size w).alloc (Nat.le_refl _) (.cells #[.int .i64 m.node, .int .i64 m.life] tMember))
  simp only [MB.v]
  go_enter Try.func8, Try.ntmps8
  go_upto_region 1 with fail
  rename_i Ko hKo
  generalize w.alloc (.cells #[.int .i64 m.node, .int .i64 m.life] tMember) = w1 at *
  refine reg_mono (rn_r1 (by kernel_rfl) _ (v := ⟨_, _, _⟩) ⟨rfl, rfl, rfl, rfl, rfl⟩ rfl X0.out ?_)
  intro a2 w2 F2 b2'
  refine hKo _ _ ?_
  have D2 := (b2'.block _ (heap_lt X0.out)).trans X0.out
  have B2 := HB.out.trans (b2'.mono HB.out.size)
  refine wp_seq (wp_seq (reg_mono (rn_r2 (by kernel_rfl) _ F2 rfl ?_)))
  intro a3 F3 h7
  by_cases hm : m.right
  case neg =>
    rw [decide_eq_false hm] at h7
    refine wp_cond_true h7 (wp_seq (reg_mono (rn_r3 (by kernel_rfl) _ F3 ?_)))
    intro a4 F4
    exact wp_ret (rn_ret (R := RNew m w) F4 rfl ⟨fun e => absurd e hm, fun _ => rfl, B2⟩)
  rw [decide_eq_true hm] at h7
  refine wp_cond_false h7 (wp_skip ?_)
  show Code.wp _ _ _ _ _
  refine wp_seq (reg_mono (rn_r4 (by kernel_rfl) _ F3 rfl D2 ?_))
  intro a4 w4 b b1 b2 F4 R4 o4 b4
  exact wp_ret (rn_ret (R := RNew m w) F4 rfl ⟨fun _ => ⟨b, b1, b2, rfl, R4, fun k hk => Nat.le_trans B2.size (o4 k hk)⟩, fun e => absurd hm e, B2.trans (b4.mono B2.size)⟩)
end Go.Proofs.Ytafjngmdandgmaa
