/-
  The regions of the program's Next (mkpn.py)
-/
import Derived.Test.YtjnbfopipmglgaaZHE
import Derived.Test.YtjnbfopipmglgaaZHB
namespace Go.Proofs.Ytjnbfopipmglgaa
open Go.RowKit

attribute [local go_sem ↓] Go.wp_at_zero Go.wp_at_succ
set_option linter.unusedSimpArgs false
set_option linter.unusedVariables false
/-- Two cells of a block. -/
theorem grownBy_set2 (w : World) (b : Nat) (x y : Value) : w.grownBy ((w.setCell ⟨b, 0, none⟩ x).setCell ⟨b, 1, none⟩ y) (some b) :=
  ⟨rfl, rfl, rfl, ((KeepsWalks.setCell w _ x).trans (KeepsWalks.setCell _ _ y)).size, fun k _ hk => (Below.heap_setCell _ _ _ k (fun e => hk (by rw [e]))).trans (Below.heap_setCell _ _ _ k (fun e => hk (by rw [e])))⟩
theorem ownsRow_base {W : World} {base base' : Nat} {e : TypeId} {size : Nat} {v : Value} {k : Nat} {xs : List Value} (h : W.ownsRow base e size v k xs) (hb : base' ≤ base) : W.ownsRow base' e size v k xs := by
  refine ⟨h.1, ?_⟩
  rcases h.2 with hn | ⟨g, cap, cur, hv, hbg, rest⟩
  · exact .inl hn
  · exact .inr ⟨g, cap, cur, hv, Nat.le_trans hb hbg, rest⟩
theorem row_not_view {w : World} {B n : Nat} {v : Value} {xs : List Value} {ob : Nat} {cs : Array Value} (h : w.ownsRow B tMember 2 v n xs) (hv : w.heap[ob]? = some (.cells cs tView (0, 0))) : v.ownBlock = none ∨ v.ownBlock ≠ some ob := by
  rcases h.2 with ⟨rfl, _⟩ | ⟨g, cap, cur, rfl, _, hgb, _⟩
  · exact .inl rfl
  · refine .inr fun e' => ?_
    have : g = ob := by simpa [Value.ownBlock] using e'
    exact mem_view hgb hv this
set_option maxRecDepth 100000 in
theorem frame_pn (t : Array Value) (h : t.size = 39) : ∃ u : Nat → Value, t = List.toArray (u 0 :: u 1 :: u 2 :: u 3 :: u 4 :: u 5 :: u 6 :: u 7 :: u 8 :: u 9 :: u 10 :: u 11 :: u 12 :: u 13 :: u 14 :: u 15 :: u 16 :: u 17 :: u 18 :: u 19 :: u 20 :: u 21 :: u 22 :: u 23 :: u 24 :: u 25 :: u 26 :: u 27 :: u 28 :: u 29 :: u 30 :: u 31 :: u 32 :: u 33 :: u 34 :: u 35 :: u 36 :: u 37 :: u 38 :: []) := by
  refine ⟨fun i => t.getD i undef, ?_⟩
  have e : (List.toArray ((fun i => t.getD i undef) 0 :: (fun i => t.getD i undef) 1 :: (fun i => t.getD i undef) 2 :: (fun i => t.getD i undef) 3 :: (fun i => t.getD i undef) 4 :: (fun i => t.getD i undef) 5 :: (fun i => t.getD i undef) 6 :: (fun i => t.getD i undef) 7 :: (fun i => t.getD i undef) 8 :: (fun i => t.getD i undef) 9 :: (fun i => t.getD i undef) 10 :: (fun i => t.getD i undef) 11 :: (fun i => t.getD i undef) 12 :: (fun i => t.getD i undef) 13 :: (fun i => t.getD i undef) 14 :: (fun i => t.getD i undef) 15 :: (fun i => t.getD i undef) 16 :: (fun i => t.getD i undef) 17 :: (fun i => t.getD i undef) 18 :: (fun i => t.getD i undef) 19 :: (fun i => t.getD i undef) 20 :: (fun i => t.getD i undef) 21 :: (fun i => t.getD i undef) 22 :: (fun i => t.getD i undef) 23 :: (fun i => t.getD i undef) 24 :: (fun i => t.getD i undef) 25 :: (fun i => t.getD i undef) 26 :: (fun i => t.getD i undef) 27 :: (fun i => t.getD i undef) 28 :: (fun i => t.getD i undef) 29 :: (fun i => t.getD i undef) 30 :: (fun i => t.getD i undef) 31 :: (fun i => t.getD i undef) 32 :: (fun i => t.getD i undef) 33 :: (fun i => t.getD i undef) 34 :: (fun i => t.getD i undef) 35 :: (fun i => t.getD i undef) 36 :: (fun i => t.getD i undef) 37 :: (fun i => t.getD i undef) 38 :: []) : Array Value) = ((List.range 39).map fun i => t.getD i undef).toArray := rfl
  refine Eq.trans ?_ e.symm
  apply Array.ext
  · simp [h]
  · intro k h1 h2
    simp [Array.getD, h1]
/-- The slots that matter. -/
structure Vpn where
  v1 : Value
  v2 : Value
  v3 : Value
  v6 : Value
  v7 : Value
  v8 : Value
structure Fpn (a : Act) (v : Vpn) : Prop where
  size : a.tmps.size = 39
  defers : a.defers = []
  s1 : a.tmps.getD 1 undef = v.v1
  s2 : a.tmps.getD 2 undef = v.v2
  s3 : a.tmps.getD 3 undef = v.v3
  s6 : a.tmps.getD 6 undef = v.v6
  s7 : a.tmps.getD 7 undef = v.v7
  s8 : a.tmps.getD 8 undef = v.v8
set_option maxHeartbeats 8000000 in
set_option maxRecDepth 100000 in
theorem pn_r1 {K : Act → World → Prop} {c : Code} (hc : regOf (Try.f12.body.getD .skip) 1 = some c) (a : Act) {v : Vpn} {wq : World} {d n cp na ca : Nat} {num : Int} {ao aa : Option Addr} {r q : Bool} (hF : Fpn a v) (h1v : v.v1 = .slice aa na ca) (h3v : v.v3 = .pointer (some ⟨d, 0, none⟩)) (hD : wq.heap[d]? = some (.cells #[.int .i64 num, .slice ao n cp] tView (0, 0))) (hR : Calls Try.prog 17 #[.agg #[.int .i64 num, .slice ao n cp]] wq fun e w' => e = .returned (.bool r) ∧ Below wq.heap.size wq w') (hA : ∀ W, Below wq.heap.size wq W → Calls Try.prog 25 #[.slice aa na ca] W fun e w' => e = .returned (.bool q) ∧ Below W.heap.size W w')
    (hQ : ∀ a' w', Fpn a' v → a'.tmps.getD 21 undef = .bool (!r || num == big || !q) → Below wq.heap.size wq w' → K a' w') :
    Code.wp Try.prog c (Exit.then K fun _ _ _ => False) a wq := by
  have HQ := hide hQ
  clear hQ
  obtain ⟨t', d'⟩ := a
  obtain ⟨v1, v2, v3, v6, v7, v8⟩ := v
  simp only at h1v h3v HQ
  subst h1v h3v
  obtain ⟨hs1, hd1, q1, q2, q3, q6, q7, q8⟩ := hF
  obtain ⟨u, hu⟩ := frame_pn t' hs1
  simp only at hd1 q1 q2 q3 q6 q7 q8
  subst hu hd1
  have e1 : u 1 = .slice aa na ca := q1
  have e2 : u 2 = v2 := q2
  have e3 : u 3 = .pointer (some ⟨d, 0, none⟩) := q3
  have e6 : u 6 = v6 := q6
  have e7 : u 7 = v7 := q7
  have e8 : u 8 = v8 := q8
  rw [e1, e2, e3, e6, e7, e8]
  clear q1 e1 q2 e2 q3 e3 q6 e6 q7 e7 q8 e8 hs1
  simp only [Try.f12, Option.getD_some, regOf] at hc
  injection hc with hc
  subst hc
  generalize u 0 = u0
  generalize u 4 = u4
  generalize u 5 = u5
  generalize u 9 = u9
  generalize u 10 = u10
  generalize u 11 = u11
  generalize u 12 = u12
  generalize u 13 = u13
  generalize u 14 = u14
  generalize u 15 = u15
  generalize u 16 = u16
  generalize u 17 = u17
  generalize u 18 = u18
  generalize u 19 = u19
  generalize u 20 = u20
  generalize u 21 = u21
  generalize u 22 = u22
  generalize u 23 = u23
  generalize u 24 = u24
  generalize u 25 = u25
  generalize u 26 = u26
  generalize u 27 = u27
  generalize u 28 = u28
  generalize u 29 = u29
  generalize u 30 = u30
  generalize u 31 = u31
  generalize u 32 = u32
  generalize u 33 = u33
  generalize u 34 = u34
  generalize u 35 = u35
  generalize u 36 = u36
  generalize u 37 = u37
  generalize u 38 = u38
  clear u
  have c0 := box_cell hD 0 rfl
  have c1 := box_cell hD 1 rfl
  have hd := heap_lt hD
  have HR := hide hR
  have HA := hide hA
  clear hD hR hA
  cases r
  · go_wp2_with (first | (go_at_call 17; refine HR.out.mono ?_; rintro e w1 ⟨rfl, b1⟩; have B1 : Hid (Below wq.heap.size wq w1) := b1; have c2 := (b1.cell (p := ⟨d, 0, none⟩) hd).trans c0; clear b1) | (go_at_call 25; refine (HA.out _ B1.out).mono ?_; rintro e w2 ⟨rfl, b2⟩; have B2 : Hid (Below wq.heap.size wq w2) := B1.out.trans (b2.mono B1.out.size); clear b2))
    exact HQ.out _ _ ⟨rfl, rfl, rfl, rfl, rfl, rfl, rfl, rfl⟩ (by simp) B1.out
  · by_cases hb : num = 9007199254740991
    · subst hb
      go_wp2_with (first | (go_at_call 17; refine HR.out.mono ?_; rintro e w1 ⟨rfl, b1⟩; have B1 : Hid (Below wq.heap.size wq w1) := b1; have c2 := (b1.cell (p := ⟨d, 0, none⟩) hd).trans c0; clear b1) | (go_at_call 25; refine (HA.out _ B1.out).mono ?_; rintro e w2 ⟨rfl, b2⟩; have B2 : Hid (Below wq.heap.size wq w2) := B1.out.trans (b2.mono B1.out.size); clear b2))
      exact HQ.out _ _ ⟨rfl, rfl, rfl, rfl, rfl, rfl, rfl, rfl⟩ (by simp) B1.out
    · have hb2 : (num == big) = false := by rw [beq_eq_false_iff_ne]; exact hb
      rw [hb2] at HQ
      clear hb2
      go_wp2_with (first | (go_at_call 17; refine HR.out.mono ?_; rintro e w1 ⟨rfl, b1⟩; have B1 : Hid (Below wq.heap.size wq w1) := b1; have c2 := (b1.cell (p := ⟨d, 0, none⟩) hd).trans c0; clear b1) | (go_at_call 25; refine (HA.out _ B1.out).mono ?_; rintro e w2 ⟨rfl, b2⟩; have B2 : Hid (Below wq.heap.size wq w2) := B1.out.trans (b2.mono B1.out.size); clear b2))
      cases q
      all_goals exact HQ.out _ _ ⟨rfl, rfl, rfl, rfl, rfl, rfl, rfl, rfl⟩ (by simp [hb]) B2.out
set_option maxHeartbeats 8000000 in
set_option maxRecDepth 100000 in
theorem pn_r2 {K : Act → World → Prop} {c : Code} (hc : regOf (Try.f12.body.getD .skip) 2 = some c) (a : Act) {v : Vpn} {wq : World} {rb : Nat} {z0 z1 : Value} (hF : Fpn a v) (h6v : v.v6 = .pointer (some ⟨rb, 0, none⟩)) (hR : wq.heap[rb]? = some (.cells #[z0, z1] tView (0, 0)))
    (hQ : ∀ a' w', Fpn a' { v with v7 := .int .i64 1 } → Touch (fun j => j = rb) wq w' → w'.heap[rb]? = some (.cells #[.int .i64 0, .slice none 0 0] tView (0, 0)) → K a' w') :
    Code.wp Try.prog c (Exit.then K fun _ _ _ => False) a wq := by
  have HQ := hide hQ
  clear hQ
  obtain ⟨t', d'⟩ := a
  obtain ⟨v1, v2, v3, v6, v7, v8⟩ := v
  simp only at h6v HQ
  subst h6v
  obtain ⟨hs1, hd1, q1, q2, q3, q6, q7, q8⟩ := hF
  obtain ⟨u, hu⟩ := frame_pn t' hs1
  simp only at hd1 q1 q2 q3 q6 q7 q8
  subst hu hd1
  have e1 : u 1 = v1 := q1
  have e2 : u 2 = v2 := q2
  have e3 : u 3 = v3 := q3
  have e6 : u 6 = .pointer (some ⟨rb, 0, none⟩) := q6
  have e7 : u 7 = v7 := q7
  have e8 : u 8 = v8 := q8
  rw [e1, e2, e3, e6, e7, e8]
  clear q1 e1 q2 e2 q3 e3 q6 e6 q7 e7 q8 e8 hs1
  simp only [Try.f12, Option.getD_some, regOf] at hc
  injection hc with hc
  subst hc
  generalize u 0 = u0
  generalize u 4 = u4
  generalize u 5 = u5
  generalize u 9 = u9
  generalize u 10 = u10
  generalize u 11 = u11
  generalize u 12 = u12
  generalize u 13 = u13
  generalize u 14 = u14
  generalize u 15 = u15
  generalize u 16 = u16
  generalize u 17 = u17
  generalize u 18 = u18
  generalize u 19 = u19
  generalize u 20 = u20
  generalize u 21 = u21
  generalize u 22 = u22
  generalize u 23 = u23
  generalize u 24 = u24
  generalize u 25 = u25
  generalize u 26 = u26
  generalize u 27 = u27
  generalize u 28 = u28
  generalize u 29 = u29
  generalize u 30 = u30
  generalize u 31 = u31
  generalize u 32 = u32
  generalize u 33 = u33
  generalize u 34 = u34
  generalize u 35 = u35
  generalize u 36 = u36
  generalize u 37 = u37
  generalize u 38 = u38
  clear u
  have f0 := box_free hR 0
  have f1 := box_free hR 1
  have c0 := box_cell hR 0 rfl
  have c1 := box_cell hR 1 rfl
  have HR := hide hR
  clear hR
  go_wp2
  refine HQ.out _ _ ⟨rfl, rfl, rfl, rfl, rfl, rfl, rfl, rfl⟩ ?_ ?_
  · repeat refine Touch.setCell ?_ _ _ (fun _ => rfl)
    exact Touch.refl _ wq
  · have h1 := box_set (box_set HR.out 0 (.int .i64 0)) 1 (.slice none 0 0)
    simpa using h1
set_option maxHeartbeats 8000000 in
set_option maxRecDepth 100000 in
theorem pn_r5 {K : Act → World → Prop} {c : Code} (hc : regOf (Try.f12.body.getD .skip) 5 = some c) (a : Act) {v : Vpn} {wq : World} {rb : Nat} {z0 z1 : Value} (hF : Fpn a v) (h6v : v.v6 = .pointer (some ⟨rb, 0, none⟩)) (hR : wq.heap[rb]? = some (.cells #[z0, z1] tView (0, 0)))
    (hQ : ∀ a' w', Fpn a' { v with v7 := .int .i64 12 } → Touch (fun j => j = rb) wq w' → w'.heap[rb]? = some (.cells #[.int .i64 0, .slice none 0 0] tView (0, 0)) → K a' w') :
    Code.wp Try.prog c (Exit.then K fun _ _ _ => False) a wq := by
  have HQ := hide hQ
  clear hQ
  obtain ⟨t', d'⟩ := a
  obtain ⟨v1, v2, v3, v6, v7, v8⟩ := v
  simp only at h6v HQ
  subst h6v
  obtain ⟨hs1, hd1, q1, q2, q3, q6, q7, q8⟩ := hF
  obtain ⟨u, hu⟩ := frame_pn t' hs1
  simp only at hd1 q1 q2 q3 q6 q7 q8
  subst hu hd1
  have e1 : u 1 = v1 := q1
  have e2 : u 2 = v2 := q2
  have e3 : u 3 = v3 := q3
  have e6 : u 6 = .pointer (some ⟨rb, 0, none⟩) := q6
  have e7 : u 7 = v7 := q7
  have e8 : u 8 = v8 := q8
  rw [e1, e2, e3, e6, e7, e8]
  clear q1 e1 q2 e2 q3 e3 q6 e6 q7 e7 q8 e8 hs1
  simp only [Try.f12, Option.getD_some, regOf] at hc
  injection hc with hc
  subst hc
  generalize u 0 = u0
  generalize u 4 = u4
  generalize u 5 = u5
  generalize u 9 = u9
  generalize u 10 = u10
  generalize u 11 = u11
  generalize u 12 = u12
  generalize u 13 = u13
  generalize u 14 = u14
  generalize u 15 = u15
  generalize u 16 = u16
  generalize u 17 = u17
  generalize u 18 = u18
  generalize u 19 = u19
  generalize u 20 = u20
  generalize u 21 = u21
  generalize u 22 = u22
  generalize u 23 = u23
  generalize u 24 = u24
  generalize u 25 = u25
  generalize u 26 = u26
  generalize u 27 = u27
  generalize u 28 = u28
  generalize u 29 = u29
  generalize u 30 = u30
  generalize u 31 = u31
  generalize u 32 = u32
  generalize u 33 = u33
  generalize u 34 = u34
  generalize u 35 = u35
  generalize u 36 = u36
  generalize u 37 = u37
  generalize u 38 = u38
  clear u
  have f0 := box_free hR 0
  have f1 := box_free hR 1
  have c0 := box_cell hR 0 rfl
  have c1 := box_cell hR 1 rfl
  have HR := hide hR
  clear hR
  go_wp2
  refine HQ.out _ _ ⟨rfl, rfl, rfl, rfl, rfl, rfl, rfl, rfl⟩ ?_ ?_
  · repeat refine Touch.setCell ?_ _ _ (fun _ => rfl)
    exact Touch.refl _ wq
  · have h1 := box_set (box_set HR.out 0 (.int .i64 0)) 1 (.slice none 0 0)
    simpa using h1
set_option maxHeartbeats 8000000 in
set_option maxRecDepth 100000 in
theorem pn_r3 {K : Act → World → Prop} {c : Code} (hc : regOf (Try.f12.body.getD .skip) 3 = some c) (a : Act) {v : Vpn} {wq : World} {d n cp na ca nw cw m : Nat} {num : Int} {ao aa aw : Option Addr} {L : List MB} (hF : Fpn a v) (h1v : v.v1 = .slice aa na ca) (h2v : v.v2 = .slice aw nw cw) (h3v : v.v3 = .pointer (some ⟨d, 0, none⟩)) (hD : wq.heap[d]? = some (.cells #[.int .i64 num, .slice ao n cp] tView (0, 0))) (hnum : 1 ≤ num ∧ num < big) (hm : L.length = m) (hC : ∀ W Ba Bw, Below wq.heap.size wq W → W.heap[Ba]? = some (.cells #[.slice aa na ca] 22 (0, 0)) → W.heap[Bw]? = some (.cells #[.slice aw nw cw] 41 (0, 0)) → Calls Try.prog 26 #[.func (.func 44) #[] #[.pointer (some ⟨Ba, 0, none⟩), .pointer (some ⟨Bw, 0, none⟩)]] W fun e w' => ∃ ro rc, e = .returned (.slice ro m rc) ∧ w'.ownsRow wq.heap.size tMember 2 (.slice ro m rc) m (mbCells L) ∧ Below W.heap.size W w')
    (hQ : ∀ a' w' ob ro rc, Fpn a' { v with v8 := .pointer (some ⟨ob, 0, none⟩) } → w'.heap[ob]? = some (.cells #[.int .i64 (num + 1), .slice ro m rc] tView (0, 0)) → w'.ownsRow wq.heap.size tMember 2 (.slice ro m rc) m (mbCells L) → Below wq.heap.size wq w' → K a' w') :
    Code.wp Try.prog c (Exit.then K fun _ _ _ => False) a wq := by
  have HQ := hide hQ
  clear hQ
  obtain ⟨t', d'⟩ := a
  obtain ⟨v1, v2, v3, v6, v7, v8⟩ := v
  simp only at h1v h2v h3v HQ
  subst h1v h2v h3v
  obtain ⟨hs1, hd1, q1, q2, q3, q6, q7, q8⟩ := hF
  obtain ⟨u, hu⟩ := frame_pn t' hs1
  simp only at hd1 q1 q2 q3 q6 q7 q8
  subst hu hd1
  have e1 : u 1 = .slice aa na ca := q1
  have e2 : u 2 = .slice aw nw cw := q2
  have e3 : u 3 = .pointer (some ⟨d, 0, none⟩) := q3
  have e6 : u 6 = v6 := q6
  have e7 : u 7 = v7 := q7
  have e8 : u 8 = v8 := q8
  rw [e1, e2, e3, e6, e7, e8]
  clear q1 e1 q2 e2 q3 e3 q6 e6 q7 e7 q8 e8 hs1
  simp only [Try.f12, Option.getD_some, regOf] at hc
  injection hc with hc
  subst hc
  generalize u 0 = u0
  generalize u 4 = u4
  generalize u 5 = u5
  generalize u 9 = u9
  generalize u 10 = u10
  generalize u 11 = u11
  generalize u 12 = u12
  generalize u 13 = u13
  generalize u 14 = u14
  generalize u 15 = u15
  generalize u 16 = u16
  generalize u 17 = u17
  generalize u 18 = u18
  generalize u 19 = u19
  generalize u 20 = u20
  generalize u 21 = u21
  generalize u 22 = u22
  generalize u 23 = u23
  generalize u 24 = u24
  generalize u 25 = u25
  generalize u 26 = u26
  generalize u 27 = u27
  generalize u 28 = u28
  generalize u 29 = u29
  generalize u 30 = u30
  generalize u 31 = u31
  generalize u 32 = u32
  generalize u 33 = u33
  generalize u 34 = u34
  generalize u 35 = u35
  generalize u 36 = u36
  generalize u 37 = u37
  generalize u 38 = u38
  clear u
  have c0 := box_cell hD 0 rfl
  have hd0 := heap_lt hD
  have h1 : -9223372036854775808 ≤ num + 1 := by have := hnum.1; omega
  have h2 : num + 1 ≤ 9223372036854775807 := by have := hnum.2; have hbig : big = 9007199254740991 := rfl; omega
  have HC := hide hC
  have HE := hide (fun W : World => enext_in aa aw na nw ca cw W)
  have KE := hide (enters_of Try.func27 (by kernel_rfl) rfl)
  have KC := hide (enters_of Try.func26 (by kernel_rfl) rfl)
  clear hD hC hnum
  refine wp_region_last 9 rfl (by kernel_rfl) rfl rfl (by kernel_rfl) ?_
  intro ops' hops'
  simp only [idle, List.setIfInBounds_toArray, List.set_cons_succ, List.set_cons_zero] at hops'
  subst hops'
  refine wpAny_phi (ns := 39) (uses := (fun i => match i with | 0 => [23] | 1 => [24] | 2 => [25] | 3 => [26] | 4 => [27] | 5 => [28] | 6 => [29] | 7 => [30] | 8 => [8] | 9 => [] | _ => [])) (by kernel_rfl) (by kernel_rfl) (fun _ w w' => Below w.heap.size w w') (fun w => Below wq.heap.size wq w) (fun _ _ _ h r => h.trans (r.mono h.size)) ((Below.refl _ _).drew) (fun i => match i with | 0 => fun s w => s 23 = .pointer (some ⟨d, 0, none⟩) | 1 => fun s w => s 24 = .int .i64 num | 2 => fun s w => s 25 = .int .i64 (num + 1) | 3 => fun s w => s 26 = .slice aa na ca | 4 => fun s w => s 27 = .slice aw nw cw | 5 => fun s w => ∃ Ba Bw, s 28 = .func (.func 44) #[] #[.pointer (some ⟨Ba, 0, none⟩), .pointer (some ⟨Bw, 0, none⟩)] ∧ w.heap[Ba]? = some (.cells #[.slice aa na ca] 22 (0, 0)) ∧ w.heap[Bw]? = some (.cells #[.slice aw nw cw] 41 (0, 0)) | 6 => fun s w => ∃ ro rc, s 29 = .slice ro m rc ∧ w.ownsRow wq.heap.size tMember 2 (.slice ro m rc) m (mbCells L) | 7 => fun s w => ∃ ro rc, s 30 = .agg #[.int .i64 (num + 1), .slice ro m rc] ∧ w.ownsRow wq.heap.size tMember 2 (.slice ro m rc) m (mbCells L) | 8 => fun s w => ∃ ob, s 8 = .pointer (some ⟨ob, 0, none⟩) ∧ wq.heap.size ≤ ob ∧ w.heap[ob]? = some (.cells #[.int .i64 0, .slice none 0 0] tView (0, 0)) | 9 => fun s w => True | _ => fun _ _ => True) ?hc ?hh ?step ?done
  case hc =>
    intro i s s' w hx h
    match i, hx, h with
    | 0, hx, h =>
      have e23 := hx 23 (by simp)
      first | exact (show _ from by simp only [← e23] at *; exact h) | (simp only [e23] at h; exact h)
    | 1, hx, h =>
      have e24 := hx 24 (by simp)
      first | exact (show _ from by simp only [← e24] at *; exact h) | (simp only [e24] at h; exact h)
    | 2, hx, h =>
      have e25 := hx 25 (by simp)
      first | exact (show _ from by simp only [← e25] at *; exact h) | (simp only [e25] at h; exact h)
    | 3, hx, h =>
      have e26 := hx 26 (by simp)
      first | exact (show _ from by simp only [← e26] at *; exact h) | (simp only [e26] at h; exact h)
    | 4, hx, h =>
      have e27 := hx 27 (by simp)
      first | exact (show _ from by simp only [← e27] at *; exact h) | (simp only [e27] at h; exact h)
    | 5, hx, h =>
      have e28 := hx 28 (by simp)
      first | exact (show _ from by simp only [← e28] at *; exact h) | (simp only [e28] at h; exact h)
    | 6, hx, h =>
      have e29 := hx 29 (by simp)
      first | exact (show _ from by simp only [← e29] at *; exact h) | (simp only [e29] at h; exact h)
    | 7, hx, h =>
      have e30 := hx 30 (by simp)
      first | exact (show _ from by simp only [← e30] at *; exact h) | (simp only [e30] at h; exact h)
    | 8, hx, h =>
      have e8 := hx 8 (by simp)
      first | exact (show _ from by simp only [← e8] at *; exact h) | (simp only [e8] at h; exact h)
    | 9, hx, h =>
      exact h
    | (n + 10), _, h => exact h
  case hh =>
    intro i j s w w' hij h hb r
    match i, hij, h with
    | 0, hij, h =>
      exact h
    | 1, hij, h =>
      exact h
    | 2, hij, h =>
      exact h
    | 3, hij, h =>
      exact h
    | 4, hij, h =>
      exact h
    | 5, hij, h =>
      obtain ⟨Ba, Bw, h1, h2, h3⟩ := h
      exact ⟨Ba, Bw, h1, (r.block _ (heap_lt h2)).trans h2, (r.block _ (heap_lt h3)).trans h3⟩
    | 6, hij, h =>
      obtain ⟨ro, rc, h1, h2⟩ := h
      exact ⟨ro, rc, h1, below_row r h2⟩
    | 7, hij, h =>
      obtain ⟨ro, rc, h1, h2⟩ := h
      exact ⟨ro, rc, h1, below_row r h2⟩
    | 8, hij, h =>
      obtain ⟨ob, h1, h2, h3⟩ := h
      exact ⟨ob, h1, h2, (r.block _ (heap_lt h3)).trans h3⟩
    | 9, hij, h =>
      exact h
    | (n + 10), _, h => exact h
  case step =>
    intro i o ho a' w' hsa hb hd
    match i, ho with
    | 0, ho =>
      obtain rfl := Option.some.inj ho
      try dsimp only at hd
      have g3 : a'.tmps.getD 3 undef = .pointer (some ⟨d, 0, none⟩) := hsa.rest 3 (by rfl)
      refine wpOp_of rfl rfl ?_
      refine op_run (v := .pointer (some ⟨d, 0, none⟩)) (w' := w') ?_ ⟨_, rfl, ?_, ?_⟩
      · simp only [execOp, Act.eval, List.map_toArray, List.map_cons, List.map_nil, g3]; first | (go_simp; done) | rfl
      · try dsimp only
        exact (slots_put (ns := 39) (hsa.size.trans rfl) (by decide))
      · exact Below.refl _ _
    | 1, ho =>
      obtain rfl := Option.some.inj ho
      try dsimp only at hd
      have d0 : a'.tmps.getD 23 undef = .pointer (some ⟨d, 0, none⟩) := hd 0 (by rfl)
      have c1 : w'.cell? ⟨d, 0, none⟩ = some (.int .i64 num) := (hb.cell (p := ⟨d, 0, none⟩) hd0).trans c0
      refine wpOp_of rfl rfl ?_
      refine op_run (v := .int .i64 num) (w' := w') ?_ ⟨_, rfl, ?_, ?_⟩
      · simp only [execOp, Act.eval, List.map_toArray, List.map_cons, List.map_nil, d0, c1]; first | (go_simp; done) | rfl
      · try dsimp only
        exact (slots_put (ns := 39) (hsa.size.trans rfl) (by decide))
      · exact Below.refl _ _
    | 2, ho =>
      obtain rfl := Option.some.inj ho
      try dsimp only at hd
      have d1 : a'.tmps.getD 24 undef = .int .i64 num := hd 1 (by rfl)
      refine wpOp_of rfl rfl ?_
      refine op_run (v := .int .i64 (num + 1)) (w' := w') ?_ ⟨_, rfl, ?_, ?_⟩
      · simp only [execOp, Act.eval, d1]; go_simp; rw [IntKind.wrap_i64]; omega
      · try dsimp only
        exact (slots_put (ns := 39) (hsa.size.trans rfl) (by decide))
      · exact Below.refl _ _
    | 3, ho =>
      obtain rfl := Option.some.inj ho
      try dsimp only at hd
      have g1 : a'.tmps.getD 1 undef = .slice aa na ca := hsa.rest 1 (by rfl)
      refine wpOp_of rfl rfl ?_
      refine op_run (v := .slice aa na ca) (w' := w') ?_ ⟨_, rfl, ?_, ?_⟩
      · simp only [execOp, Act.eval, List.map_toArray, List.map_cons, List.map_nil, g1]; first | (go_simp; done) | rfl
      · try dsimp only
        exact (slots_put (ns := 39) (hsa.size.trans rfl) (by decide))
      · exact Below.refl _ _
    | 4, ho =>
      obtain rfl := Option.some.inj ho
      try dsimp only at hd
      have g2 : a'.tmps.getD 2 undef = .slice aw nw cw := hsa.rest 2 (by rfl)
      refine wpOp_of rfl rfl ?_
      refine op_run (v := .slice aw nw cw) (w' := w') ?_ ⟨_, rfl, ?_, ?_⟩
      · simp only [execOp, Act.eval, List.map_toArray, List.map_cons, List.map_nil, g2]; first | (go_simp; done) | rfl
      · try dsimp only
        exact (slots_put (ns := 39) (hsa.size.trans rfl) (by decide))
      · exact Below.refl _ _
    | 5, ho =>
      obtain rfl := Option.some.inj ho
      try dsimp only at hd
      have d3 : a'.tmps.getD 26 undef = .slice aa na ca := hd 3 (by rfl)
      have d4 : a'.tmps.getD 27 undef = .slice aw nw cw := hd 4 (by rfl)
      refine wpOp_of rfl rfl ?_
      refine op_call 27 _ _ rfl KE.out [.slice aa na ca, .slice aw nw cw] (by simp only [List.map, Act.eval, d3, d4]) (HE.out w') ?_
      rintro e w'' ⟨rfl, rfl⟩
      refine ⟨_, rfl, _, rfl, ?_, ?_⟩
      · try dsimp only
        exact ⟨w'.heap.size, w'.heap.size + 1, (slots_put (ns := 39) (hsa.size.trans rfl) (by decide)), heap_up (World.alloc_heap_new _ _), by rw [show w'.heap.size + 1 = (w'.alloc (.cells #[.slice aa na ca] 22)).heap.size by simp]; exact World.alloc_heap_new _ _⟩
      · exact ((Below.refl _ _).alloc (Nat.le_refl _) _).alloc (by simp) _
    | 6, ho =>
      obtain rfl := Option.some.inj ho
      try dsimp only at hd
      have d5 : ∃ Ba Bw, a'.tmps.getD 28 undef = .func (.func 44) #[] #[.pointer (some ⟨Ba, 0, none⟩), .pointer (some ⟨Bw, 0, none⟩)] ∧ w'.heap[Ba]? = some (.cells #[.slice aa na ca] 22 (0, 0)) ∧ w'.heap[Bw]? = some (.cells #[.slice aw nw cw] 41 (0, 0)) := hd 5 (by rfl)
      obtain ⟨Ba, Bw, d5, h2, h3⟩ := d5
      refine wpOp_of rfl rfl ?_
      refine op_call 26 _ _ rfl KC.out [.func (.func 44) #[] #[.pointer (some ⟨Ba, 0, none⟩), .pointer (some ⟨Bw, 0, none⟩)]] (by simp only [List.map, Act.eval, d5]) (HC.out w' Ba Bw hb h2 h3) ?_
      rintro e w'' ⟨ro, rc, rfl, h4, h5⟩
      refine ⟨_, rfl, _, rfl, ?_, ?_⟩
      · try dsimp only
        exact ⟨ro, rc, (slots_put (ns := 39) (hsa.size.trans rfl) (by decide)), h4⟩
      · exact h5
    | 7, ho =>
      obtain rfl := Option.some.inj ho
      try dsimp only at hd
      have d2 : a'.tmps.getD 25 undef = .int .i64 (num + 1) := hd 2 (by rfl)
      have d6 : ∃ ro rc, a'.tmps.getD 29 undef = .slice ro m rc ∧ w'.ownsRow wq.heap.size tMember 2 (.slice ro m rc) m (mbCells L) := hd 6 (by rfl)
      obtain ⟨ro, rc, d6, h4⟩ := d6
      refine wpOp_of rfl rfl ?_
      refine op_run (v := .agg #[.int .i64 (num + 1), .slice ro m rc]) (w' := w') ?_ ⟨_, rfl, ?_, ?_⟩
      · simp only [execOp, Act.eval, List.map_toArray, List.map_cons, List.map_nil, d2, d6]; first | (go_simp; done) | rfl
      · try dsimp only
        exact ⟨ro, rc, (slots_put (ns := 39) (hsa.size.trans rfl) (by decide)), h4⟩
      · exact Below.refl _ _
    | 8, ho =>
      obtain rfl := Option.some.inj ho
      try dsimp only at hd
      refine wpOp_of rfl rfl ?_
      refine op_run (v := Value.pointer (some ⟨w'.heap.size, 0, none⟩)) (w' := w'.alloc (.cells #[.int .i64 0, .slice none 0 0] tView)) ?_ ⟨_, rfl, ?_, ?_⟩
      · simp only [execOp, Act.eval, List.map_toArray, List.map_cons, List.map_nil]; first | (go_simp; done) | rfl
      · try dsimp only
        exact ⟨w'.heap.size, (slots_put (ns := 39) (hsa.size.trans rfl) (by decide)), hb.size, World.alloc_heap_new _ _⟩
      · exact (Below.refl _ _).alloc (Nat.le_refl _) _
    | 9, ho =>
      obtain rfl := Option.some.inj ho
      try dsimp only at hd
      refine wpOp_of rfl rfl ?_
      refine op_run (v := undef) (w' := w') ?_ ⟨_, rfl, ?_, ?_⟩
      · rfl
      · try dsimp only
        trivial
      · exact Below.refl _ _
    | (n + 10), ho => exact absurd ho (by simp)
  case done =>
    intro a' w' hsa hb hd
    have d0 : a'.tmps.getD 23 undef = .pointer (some ⟨d, 0, none⟩) := hd 0 (by decide)
    have d1 : a'.tmps.getD 24 undef = .int .i64 num := hd 1 (by decide)
    have d2 : a'.tmps.getD 25 undef = .int .i64 (num + 1) := hd 2 (by decide)
    have d3 : a'.tmps.getD 26 undef = .slice aa na ca := hd 3 (by decide)
    have d4 : a'.tmps.getD 27 undef = .slice aw nw cw := hd 4 (by decide)
    have d5 : ∃ Ba Bw, a'.tmps.getD 28 undef = .func (.func 44) #[] #[.pointer (some ⟨Ba, 0, none⟩), .pointer (some ⟨Bw, 0, none⟩)] ∧ w'.heap[Ba]? = some (.cells #[.slice aa na ca] 22 (0, 0)) ∧ w'.heap[Bw]? = some (.cells #[.slice aw nw cw] 41 (0, 0)) := hd 5 (by decide)
    have d6 : ∃ ro rc, a'.tmps.getD 29 undef = .slice ro m rc ∧ w'.ownsRow wq.heap.size tMember 2 (.slice ro m rc) m (mbCells L) := hd 6 (by decide)
    have d7 : ∃ ro rc, a'.tmps.getD 30 undef = .agg #[.int .i64 (num + 1), .slice ro m rc] ∧ w'.ownsRow wq.heap.size tMember 2 (.slice ro m rc) m (mbCells L) := hd 7 (by decide)
    have d8 : ∃ ob, a'.tmps.getD 8 undef = .pointer (some ⟨ob, 0, none⟩) ∧ wq.heap.size ≤ ob ∧ w'.heap[ob]? = some (.cells #[.int .i64 0, .slice none 0 0] tView (0, 0)) := hd 8 (by decide)
    have d9 : True := hd 9 (by decide)
    obtain ⟨ro, rc, d7, h4⟩ := d7
    obtain ⟨ob, d8, h5, h6⟩ := d8
    intro K2 hK2
    have q0 := box_cell h6 0 rfl
    have q1 := box_cell h6 1 rfl
    have f0 := box_free h6 0
    have f1 := box_free h6 1
    refine op_skip (w' := (w'.setCell ⟨ob, 0, none⟩ (.int .i64 (num + 1))).setCell ⟨ob, 1, none⟩ (.slice ro m rc)) ?_ (hK2 _ _ ?_)
    · simp only [execOp, Act.eval, d7, d8]
      first | (go_simp; done) | (go_simp; rfl)
    refine HQ.out _ _ ob ro rc ⟨hsa.size.trans rfl, hsa.defers.trans rfl, hsa.rest 1 (by rfl), hsa.rest 2 (by rfl), hsa.rest 3 (by rfl), hsa.rest 6 (by rfl), hsa.rest 7 (by rfl), d8⟩ ?_ ?_ ?_
    · have h1 := box_set (box_set h6 0 (.int .i64 (num + 1))) 1 (.slice ro m rc)
      simpa using h1
    · refine h4.kept (grownBy_set2 _ _ _ _) (row_not_view h4 h6)
    · exact (hb.setCell (p := ⟨ob, 0, none⟩) h5 _).setCell (p := ⟨ob, 1, none⟩) h5 _
set_option maxHeartbeats 8000000 in
set_option maxRecDepth 100000 in
theorem pn_r4 {K : Act → World → Prop} {c : Code} (hc : regOf (Try.f12.body.getD .skip) 4 = some c) (a : Act) {v : Vpn} {wq : World} {d n cp ob k oc cc mj : Nat} {num num2 : Int} {ao oo : Option Addr} (hF : Fpn a v) (h3v : v.v3 = .pointer (some ⟨d, 0, none⟩)) (h8v : v.v8 = .pointer (some ⟨ob, 0, none⟩)) (hD : wq.heap[d]? = some (.cells #[.int .i64 num, .slice ao n cp] tView (0, 0))) (hO : wq.heap[ob]? = some (.cells #[.int .i64 num2, .slice oo k oc] tView (0, 0))) (hC : ∀ W, Below wq.heap.size wq W → Calls Try.prog 15 #[.agg #[.int .i64 num, .slice ao n cp], .agg #[.int .i64 num2, .slice oo k oc]] W fun e w' => e = .returned (.int .i64 (cc : Nat)) ∧ Below W.heap.size W w') (hJ : ∀ W : World, Calls Try.prog 14 #[.agg #[.int .i64 num, .slice ao n cp]] W fun e w' => e = .returned (.int .i64 (mj : Nat)) ∧ Below W.heap.size W w')
    (hQ : ∀ a' w', Fpn a' v → a'.tmps.getD 36 undef = .bool (decide (cc < mj)) → Below wq.heap.size wq w' → K a' w') :
    Code.wp Try.prog c (Exit.then K fun _ _ _ => False) a wq := by
  have HQ := hide hQ
  clear hQ
  obtain ⟨t', d'⟩ := a
  obtain ⟨v1, v2, v3, v6, v7, v8⟩ := v
  simp only at h3v h8v HQ
  subst h3v h8v
  obtain ⟨hs1, hd1, q1, q2, q3, q6, q7, q8⟩ := hF
  obtain ⟨u, hu⟩ := frame_pn t' hs1
  simp only at hd1 q1 q2 q3 q6 q7 q8
  subst hu hd1
  have e1 : u 1 = v1 := q1
  have e2 : u 2 = v2 := q2
  have e3 : u 3 = .pointer (some ⟨d, 0, none⟩) := q3
  have e6 : u 6 = v6 := q6
  have e7 : u 7 = v7 := q7
  have e8 : u 8 = .pointer (some ⟨ob, 0, none⟩) := q8
  rw [e1, e2, e3, e6, e7, e8]
  clear q1 e1 q2 e2 q3 e3 q6 e6 q7 e7 q8 e8 hs1
  simp only [Try.f12, Option.getD_some, regOf] at hc
  injection hc with hc
  subst hc
  generalize u 0 = u0
  generalize u 4 = u4
  generalize u 5 = u5
  generalize u 9 = u9
  generalize u 10 = u10
  generalize u 11 = u11
  generalize u 12 = u12
  generalize u 13 = u13
  generalize u 14 = u14
  generalize u 15 = u15
  generalize u 16 = u16
  generalize u 17 = u17
  generalize u 18 = u18
  generalize u 19 = u19
  generalize u 20 = u20
  generalize u 21 = u21
  generalize u 22 = u22
  generalize u 23 = u23
  generalize u 24 = u24
  generalize u 25 = u25
  generalize u 26 = u26
  generalize u 27 = u27
  generalize u 28 = u28
  generalize u 29 = u29
  generalize u 30 = u30
  generalize u 31 = u31
  generalize u 32 = u32
  generalize u 33 = u33
  generalize u 34 = u34
  generalize u 35 = u35
  generalize u 36 = u36
  generalize u 37 = u37
  generalize u 38 = u38
  clear u
  have c0 := box_cell hD 0 rfl
  have c1 := box_cell hD 1 rfl
  have c2 := box_cell hO 0 rfl
  have c3 := box_cell hO 1 rfl
  have CS : Hid (∀ W : World, Below wq.heap.size wq W → (W.cell? ⟨d, 0, none⟩ = some (.int .i64 num) ∧ W.cell? ⟨d, 1, none⟩ = some (.slice ao n cp) ∧ W.cell? ⟨ob, 0, none⟩ = some (.int .i64 num2) ∧ W.cell? ⟨ob, 1, none⟩ = some (.slice oo k oc))) := fun W h => ⟨(h.cell (p := ⟨d, 0, none⟩) (heap_lt hD)).trans c0, (h.cell (p := ⟨d, 1, none⟩) (heap_lt hD)).trans c1, (h.cell (p := ⟨ob, 0, none⟩) (heap_lt hO)).trans c2, (h.cell (p := ⟨ob, 1, none⟩) (heap_lt hO)).trans c3⟩
  have BD := hide ((Below.refl wq.heap.size wq).drew)
  have HC := hide hC
  have HJ := hide hJ
  have KK1 := hide (enters_of Try.func15 (by kernel_rfl) rfl)
  have KK2 := hide (enters_of Try.func14 (by kernel_rfl) rfl)
  clear hD hO hC hJ
  by_cases hlt : cc < mj
  · rw [decide_eq_true hlt] at HQ
    have g : (cc : Int) < (mj : Int) := by omega
    clear hlt
    go_region_held_law (fun W => W.cell? ⟨d, 0, none⟩ = some (.int .i64 num) ∧ W.cell? ⟨d, 1, none⟩ = some (.slice ao n cp) ∧ W.cell? ⟨ob, 0, none⟩ = some (.int .i64 num2) ∧ W.cell? ⟨ob, 1, none⟩ = some (.slice oo k oc)) (first | exact CS.out _ B2.out | exact CS.out _ B1.out | exact CS.out _ BD.out) ((first
      | (refine step_fn_d (by rfl) 35 (by rfl) 14 _ _ (by rfl) KK2.out [.agg #[.int .i64 num, .slice ao n cp]] rfl (HJ.out w1) ?_; rintro e w2 ⟨rfl, b2⟩; refine ⟨_, rfl, ?_⟩; have B2 : Hid (Below wq.heap.size wq w2) := B1.out.trans (b2.mono B1.out.size); clear b2)
      | (refine step_fn_d (by rfl) 33 (by rfl) 15 _ _ (by rfl) KK1.out [.agg #[.int .i64 num, .slice ao n cp], .agg #[.int .i64 num2, .slice oo k oc]] rfl (HC.out w1 B1.out) ?_; rintro e w2 ⟨rfl, b2⟩; refine ⟨_, rfl, ?_⟩; have B2 : Hid (Below wq.heap.size wq w2) := B1.out.trans (b2.mono B1.out.size); clear b2)
      | (refine step_fn_d (by rfl) 33 (by rfl) 15 _ _ (by rfl) KK1.out [.agg #[.int .i64 num, .slice ao n cp], .agg #[.int .i64 num2, .slice oo k oc]] rfl (HC.out _ BD.out) ?_; rintro e w1 ⟨rfl, b1⟩; refine ⟨_, rfl, ?_⟩; have B1 : Hid (Below wq.heap.size wq w1) := BD.out.trans b1; clear b1)
      | (refine step_fn_d (by rfl) 35 (by rfl) 14 _ _ (by rfl) KK2.out [.agg #[.int .i64 num, .slice ao n cp]] rfl (HJ.out _) ?_; rintro e w1 ⟨rfl, b1⟩; refine ⟨_, rfl, ?_⟩; have B1 : Hid (Below wq.heap.size wq w1) := BD.out.trans b1; clear b1)))
    all_goals exact HQ.out _ _ ⟨rfl, rfl, rfl, rfl, rfl, rfl, rfl, rfl⟩ (by first | rfl | simp) B2.out
  · rw [decide_eq_false hlt] at HQ
    have g : ¬ (cc : Int) < (mj : Int) := by omega
    clear hlt
    go_region_held_law (fun W => W.cell? ⟨d, 0, none⟩ = some (.int .i64 num) ∧ W.cell? ⟨d, 1, none⟩ = some (.slice ao n cp) ∧ W.cell? ⟨ob, 0, none⟩ = some (.int .i64 num2) ∧ W.cell? ⟨ob, 1, none⟩ = some (.slice oo k oc)) (first | exact CS.out _ B2.out | exact CS.out _ B1.out | exact CS.out _ BD.out) ((first
      | (refine step_fn_d (by rfl) 35 (by rfl) 14 _ _ (by rfl) KK2.out [.agg #[.int .i64 num, .slice ao n cp]] rfl (HJ.out w1) ?_; rintro e w2 ⟨rfl, b2⟩; refine ⟨_, rfl, ?_⟩; have B2 : Hid (Below wq.heap.size wq w2) := B1.out.trans (b2.mono B1.out.size); clear b2)
      | (refine step_fn_d (by rfl) 33 (by rfl) 15 _ _ (by rfl) KK1.out [.agg #[.int .i64 num, .slice ao n cp], .agg #[.int .i64 num2, .slice oo k oc]] rfl (HC.out w1 B1.out) ?_; rintro e w2 ⟨rfl, b2⟩; refine ⟨_, rfl, ?_⟩; have B2 : Hid (Below wq.heap.size wq w2) := B1.out.trans (b2.mono B1.out.size); clear b2)
      | (refine step_fn_d (by rfl) 33 (by rfl) 15 _ _ (by rfl) KK1.out [.agg #[.int .i64 num, .slice ao n cp], .agg #[.int .i64 num2, .slice oo k oc]] rfl (HC.out _ BD.out) ?_; rintro e w1 ⟨rfl, b1⟩; refine ⟨_, rfl, ?_⟩; have B1 : Hid (Below wq.heap.size wq w1) := BD.out.trans b1; clear b1)
      | (refine step_fn_d (by rfl) 35 (by rfl) 14 _ _ (by rfl) KK2.out [.agg #[.int .i64 num, .slice ao n cp]] rfl (HJ.out _) ?_; rintro e w1 ⟨rfl, b1⟩; refine ⟨_, rfl, ?_⟩; have B1 : Hid (Below wq.heap.size wq w1) := BD.out.trans b1; clear b1)))
    all_goals exact HQ.out _ _ ⟨rfl, rfl, rfl, rfl, rfl, rfl, rfl, rfl⟩ (by first | rfl | simp) B2.out
set_option maxHeartbeats 8000000 in
set_option maxRecDepth 100000 in
theorem pn_r6 {K : Act → World → Prop} {c : Code} (hc : regOf (Try.f12.body.getD .skip) 6 = some c) (a : Act) {v : Vpn} {wq : World} {ob rb k oc : Nat} {num2 : Int} {oo : Option Addr} {z0 z1 : Value} (hF : Fpn a v) (h6v : v.v6 = .pointer (some ⟨rb, 0, none⟩)) (h8v : v.v8 = .pointer (some ⟨ob, 0, none⟩)) (hO : wq.heap[ob]? = some (.cells #[.int .i64 num2, .slice oo k oc] tView (0, 0))) (hR : wq.heap[rb]? = some (.cells #[z0, z1] tView (0, 0)))
    (hQ : ∀ a' w', Fpn a' { v with v7 := .int .i64 0 } → Touch (fun j => j = rb) wq w' → w'.heap[rb]? = some (.cells #[.int .i64 num2, .slice oo k oc] tView (0, 0)) → K a' w') :
    Code.wp Try.prog c (Exit.then K fun _ _ _ => False) a wq := by
  have HQ := hide hQ
  clear hQ
  obtain ⟨t', d'⟩ := a
  obtain ⟨v1, v2, v3, v6, v7, v8⟩ := v
  simp only at h6v h8v HQ
  subst h6v h8v
  obtain ⟨hs1, hd1, q1, q2, q3, q6, q7, q8⟩ := hF
  obtain ⟨u, hu⟩ := frame_pn t' hs1
  simp only at hd1 q1 q2 q3 q6 q7 q8
  subst hu hd1
  have e1 : u 1 = v1 := q1
  have e2 : u 2 = v2 := q2
  have e3 : u 3 = v3 := q3
  have e6 : u 6 = .pointer (some ⟨rb, 0, none⟩) := q6
  have e7 : u 7 = v7 := q7
  have e8 : u 8 = .pointer (some ⟨ob, 0, none⟩) := q8
  rw [e1, e2, e3, e6, e7, e8]
  clear q1 e1 q2 e2 q3 e3 q6 e6 q7 e7 q8 e8 hs1
  simp only [Try.f12, Option.getD_some, regOf] at hc
  injection hc with hc
  subst hc
  generalize u 0 = u0
  generalize u 4 = u4
  generalize u 5 = u5
  generalize u 9 = u9
  generalize u 10 = u10
  generalize u 11 = u11
  generalize u 12 = u12
  generalize u 13 = u13
  generalize u 14 = u14
  generalize u 15 = u15
  generalize u 16 = u16
  generalize u 17 = u17
  generalize u 18 = u18
  generalize u 19 = u19
  generalize u 20 = u20
  generalize u 21 = u21
  generalize u 22 = u22
  generalize u 23 = u23
  generalize u 24 = u24
  generalize u 25 = u25
  generalize u 26 = u26
  generalize u 27 = u27
  generalize u 28 = u28
  generalize u 29 = u29
  generalize u 30 = u30
  generalize u 31 = u31
  generalize u 32 = u32
  generalize u 33 = u33
  generalize u 34 = u34
  generalize u 35 = u35
  generalize u 36 = u36
  generalize u 37 = u37
  generalize u 38 = u38
  clear u
  have f0 := box_free hR 0
  have f1 := box_free hR 1
  have c0 := box_cell hR 0 rfl
  have c1 := box_cell hR 1 rfl
  have d0 := box_cell hO 0 rfl
  have d1 := box_cell hO 1 rfl
  have HR := hide hR
  clear hR hO
  go_wp2
  refine HQ.out _ _ ⟨rfl, rfl, rfl, rfl, rfl, rfl, rfl, rfl⟩ ?_ ?_
  · repeat refine Touch.setCell ?_ _ _ (fun _ => rfl)
    exact Touch.refl _ wq
  · have h1 := box_set (box_set HR.out 0 (.int .i64 num2)) 1 (.slice oo k oc)
    simpa using h1
end Go.Proofs.Ytjnbfopipmglgaa
