/-
  carillonref12's Right: its region 7 (mkvr.py).
-/
import Derived.Test.YtbkglpbkbfopjaaZVR1
namespace Go.Proofs.Ytbkglpbkbfopjaa
open Go.RowKit

attribute [local go_sem ↓] Go.wp_at_zero Go.wp_at_succ
set_option linter.unusedSimpArgs false
set_option linter.unusedVariables false
set_option maxHeartbeats 8000000 in
set_option maxRecDepth 100000 in
theorem vr_r7a {K : Act → World → Prop} {c : Code} (hc : regOf (Try.f9.body.getD .skip) 7 = some c) (a : Act) {v : Vvr} {wq : World}  (hF : Fvr a v) (h4v : v.v4 = .bool false)  (hQ : ∀ a' w', Fvr a' v → a'.tmps.getD 59 undef = .bool true → Below wq.heap.size wq w' → K a' w') :
    Code.wp Try.prog c (Exit.then K fun _ _ _ => False) a wq := by
  have HQ := hide hQ
  clear hQ
  obtain ⟨t', d'⟩ := a
  obtain ⟨v1, v2, v3, v4⟩ := v
  simp only at h4v HQ
  subst h4v
  obtain ⟨hs1, hd1, q1, q2, q3, q4⟩ := hF
  obtain ⟨u, hu⟩ := frame_vr t' hs1
  simp only at hd1 q1 q2 q3 q4
  subst hu hd1
  have e1 : u 1 = v1 := q1
  have e2 : u 2 = v2 := q2
  have e3 : u 3 = v3 := q3
  have e4 : u 4 = .bool false := q4
  rw [e1, e2, e3, e4]
  clear q1 e1 q2 e2 q3 e3 q4 e4 hs1
  simp only [Try.f9, Option.getD_some, regOf] at hc
  injection hc with hc
  subst hc
  generalize u 0 = u0
  generalize u 5 = u5
  generalize u 6 = u6
  generalize u 7 = u7
  generalize u 8 = u8
  generalize u 9 = u9
  generalize u 10 = u10
  generalize u 11 = u11
  generalize u 12 = u12
  generalize u 13 = u13
  generalize u 14 = u14
  generalize u 15 = u15
  generalize u 16 = u16
  generalize u 17 = u17
  generalize u 18 = u18
  generalize u 19 = u19
  generalize u 20 = u20
  generalize u 21 = u21
  generalize u 22 = u22
  generalize u 23 = u23
  generalize u 24 = u24
  generalize u 25 = u25
  generalize u 26 = u26
  generalize u 27 = u27
  generalize u 28 = u28
  generalize u 29 = u29
  generalize u 30 = u30
  generalize u 31 = u31
  generalize u 32 = u32
  generalize u 33 = u33
  generalize u 34 = u34
  generalize u 35 = u35
  generalize u 36 = u36
  generalize u 37 = u37
  generalize u 38 = u38
  generalize u 39 = u39
  generalize u 40 = u40
  generalize u 41 = u41
  generalize u 42 = u42
  generalize u 43 = u43
  generalize u 44 = u44
  generalize u 45 = u45
  generalize u 46 = u46
  generalize u 47 = u47
  generalize u 48 = u48
  generalize u 49 = u49
  generalize u 50 = u50
  generalize u 51 = u51
  generalize u 52 = u52
  generalize u 53 = u53
  generalize u 54 = u54
  generalize u 55 = u55
  generalize u 56 = u56
  generalize u 57 = u57
  generalize u 58 = u58
  generalize u 59 = u59
  clear u
  go_region
  go_wp2
  exact HQ.out _ _ ⟨rfl, rfl, rfl, rfl, rfl, rfl⟩ (by first | rfl | simp) (below_drewN (Below.refl _ _) _)
set_option maxHeartbeats 8000000 in
set_option maxRecDepth 100000 in
theorem vr_r7b {K : Act → World → Prop} {c : Code} (hc : regOf (Try.f9.body.getD .skip) 7 = some c) (a : Act) {v : Vvr} {wq : World}  (hF : Fvr a v) (h3v : v.v3 = .int .i64 ((0 : Nat) : Int)) (h4v : v.v4 = .bool true)  (hQ : ∀ a' w', Fvr a' v → a'.tmps.getD 59 undef = .bool false → Below wq.heap.size wq w' → K a' w') :
    Code.wp Try.prog c (Exit.then K fun _ _ _ => False) a wq := by
  have HQ := hide hQ
  clear hQ
  obtain ⟨t', d'⟩ := a
  obtain ⟨v1, v2, v3, v4⟩ := v
  simp only at h3v h4v HQ
  subst h3v h4v
  obtain ⟨hs1, hd1, q1, q2, q3, q4⟩ := hF
  obtain ⟨u, hu⟩ := frame_vr t' hs1
  simp only at hd1 q1 q2 q3 q4
  subst hu hd1
  have e1 : u 1 = v1 := q1
  have e2 : u 2 = v2 := q2
  have e3 : u 3 = .int .i64 ((0 : Nat) : Int) := q3
  have e4 : u 4 = .bool true := q4
  rw [e1, e2, e3, e4]
  clear q1 e1 q2 e2 q3 e3 q4 e4 hs1
  simp only [Try.f9, Option.getD_some, regOf] at hc
  injection hc with hc
  subst hc
  generalize u 0 = u0
  generalize u 5 = u5
  generalize u 6 = u6
  generalize u 7 = u7
  generalize u 8 = u8
  generalize u 9 = u9
  generalize u 10 = u10
  generalize u 11 = u11
  generalize u 12 = u12
  generalize u 13 = u13
  generalize u 14 = u14
  generalize u 15 = u15
  generalize u 16 = u16
  generalize u 17 = u17
  generalize u 18 = u18
  generalize u 19 = u19
  generalize u 20 = u20
  generalize u 21 = u21
  generalize u 22 = u22
  generalize u 23 = u23
  generalize u 24 = u24
  generalize u 25 = u25
  generalize u 26 = u26
  generalize u 27 = u27
  generalize u 28 = u28
  generalize u 29 = u29
  generalize u 30 = u30
  generalize u 31 = u31
  generalize u 32 = u32
  generalize u 33 = u33
  generalize u 34 = u34
  generalize u 35 = u35
  generalize u 36 = u36
  generalize u 37 = u37
  generalize u 38 = u38
  generalize u 39 = u39
  generalize u 40 = u40
  generalize u 41 = u41
  generalize u 42 = u42
  generalize u 43 = u43
  generalize u 44 = u44
  generalize u 45 = u45
  generalize u 46 = u46
  generalize u 47 = u47
  generalize u 48 = u48
  generalize u 49 = u49
  generalize u 50 = u50
  generalize u 51 = u51
  generalize u 52 = u52
  generalize u 53 = u53
  generalize u 54 = u54
  generalize u 55 = u55
  generalize u 56 = u56
  generalize u 57 = u57
  generalize u 58 = u58
  generalize u 59 = u59
  clear u
  go_region
  go_wp2
  exact HQ.out _ _ ⟨rfl, rfl, rfl, rfl, rfl, rfl⟩ (by first | rfl | simp) (below_drewN (Below.refl _ _) _)
set_option maxHeartbeats 8000000 in
set_option maxRecDepth 100000 in
theorem vr_r7c {K : Act → World → Prop} {c : Code} (hc : regOf (Try.f9.body.getD .skip) 7 = some c) (a : Act) {v : Vvr} {wq : World} {d n cp b off j : Nat} {num n1 n2 : Int} (hF : Fvr a v) (h1v : v.v1 = .pointer (some ⟨d, 0, none⟩)) (h3v : v.v3 = .int .i64 ((j + 1 : Nat) : Int)) (h4v : v.v4 = .bool true) (hD : wq.heap[d]? = some (.cells #[.int .i64 num, .slice (some ⟨b, off, none⟩) n cp] tView (0, 0))) (hj : j + 1 < n) (hn7 : n ≤ 1000000) (y0 : wq.cell? ⟨b, off + (j + 1) * 2, none⟩ = some (.int .i64 n1)) (z0 : wq.cell? ⟨b, off + j * 2, none⟩ = some (.int .i64 n2)) (hQ : ∀ a' w', Fvr a' v → a'.tmps.getD 59 undef = .bool (decide (n1 ≤ n2)) → Below wq.heap.size wq w' → K a' w') :
    Code.wp Try.prog c (Exit.then K fun _ _ _ => False) a wq := by
  have HQ := hide hQ
  clear hQ
  obtain ⟨t', d'⟩ := a
  obtain ⟨v1, v2, v3, v4⟩ := v
  simp only at h1v h3v h4v HQ
  subst h1v h3v h4v
  obtain ⟨hs1, hd1, q1, q2, q3, q4⟩ := hF
  obtain ⟨u, hu⟩ := frame_vr t' hs1
  simp only at hd1 q1 q2 q3 q4
  subst hu hd1
  have e1 : u 1 = .pointer (some ⟨d, 0, none⟩) := q1
  have e2 : u 2 = v2 := q2
  have e3 : u 3 = .int .i64 ((j + 1 : Nat) : Int) := q3
  have e4 : u 4 = .bool true := q4
  rw [e1, e2, e3, e4]
  clear q1 e1 q2 e2 q3 e3 q4 e4 hs1
  simp only [Try.f9, Option.getD_some, regOf] at hc
  injection hc with hc
  subst hc
  generalize u 0 = u0
  generalize u 5 = u5
  generalize u 6 = u6
  generalize u 7 = u7
  generalize u 8 = u8
  generalize u 9 = u9
  generalize u 10 = u10
  generalize u 11 = u11
  generalize u 12 = u12
  generalize u 13 = u13
  generalize u 14 = u14
  generalize u 15 = u15
  generalize u 16 = u16
  generalize u 17 = u17
  generalize u 18 = u18
  generalize u 19 = u19
  generalize u 20 = u20
  generalize u 21 = u21
  generalize u 22 = u22
  generalize u 23 = u23
  generalize u 24 = u24
  generalize u 25 = u25
  generalize u 26 = u26
  generalize u 27 = u27
  generalize u 28 = u28
  generalize u 29 = u29
  generalize u 30 = u30
  generalize u 31 = u31
  generalize u 32 = u32
  generalize u 33 = u33
  generalize u 34 = u34
  generalize u 35 = u35
  generalize u 36 = u36
  generalize u 37 = u37
  generalize u 38 = u38
  generalize u 39 = u39
  generalize u 40 = u40
  generalize u 41 = u41
  generalize u 42 = u42
  generalize u 43 = u43
  generalize u 44 = u44
  generalize u 45 = u45
  generalize u 46 = u46
  generalize u 47 = u47
  generalize u 48 = u48
  generalize u 49 = u49
  generalize u 50 = u50
  generalize u 51 = u51
  generalize u 52 = u52
  generalize u 53 = u53
  generalize u 54 = u54
  generalize u 55 = u55
  generalize u 56 = u56
  generalize u 57 = u57
  generalize u 58 = u58
  generalize u 59 = u59
  clear u
  have c1 := box_cell hD 1 rfl
  clear hD
  obtain ⟨i, hi⟩ : ∃ i, j + 1 = i := ⟨_, rfl⟩
  rw [hi] at y0 hj HQ ⊢
  have hg : (i : Int) - 1 = (j : Int) := by omega
  have hj0 : (0 : Int) ≤ (j : Int) := by omega
  have hj1 : (j : Int) < (n : Int) := by omega
  have hi0 : (0 : Int) ≤ (i : Int) := by omega
  have hi1 : (i : Int) < (n : Int) := by omega
  have g2 : (i : Int) > 0 := by omega
  have g3 : decide ((i : Int) > 0) = true := decide_eq_true g2
  have g4 : decide ((0 : Int) < (i : Int)) = true := g3
  have g7 : decide (0 < i) = true := decide_eq_true (by omega)
  clear hi
  have hw : IntKind.i64.wrap (j : Int) = (j : Int) := by rw [IntKind.wrap_i64]; omega
  by_cases h3 : n1 ≤ n2
  · rw [decide_eq_true h3] at HQ
    have g5 := decide_eq_true h3
    go_quiet (fail)
    go_wp2
    exact HQ.out _ _ ⟨rfl, rfl, rfl, rfl, rfl, rfl⟩ (by first | rfl | simp) (below_drewN (Below.refl _ _) _)
  · rw [decide_eq_false h3] at HQ
    have g5 := decide_eq_false h3
    go_quiet (fail)
    go_wp2
    exact HQ.out _ _ ⟨rfl, rfl, rfl, rfl, rfl, rfl⟩ (by first | rfl | simp) (below_drewN (Below.refl _ _) _)
theorem vr_r7 {K : Act → World → Prop} {c : Code} (hc : regOf (Try.f9.body.getD .skip) 7 = some c) (a : Act) {v : Vvr} {wq : World} {d cp : Nat} {num : Int} {ao : Option Addr} {L : List MB} {i : Nat} (hF : Fvr a v) (h1v : v.v1 = .pointer (some ⟨d, 0, none⟩)) (h3v : v.v3 = .int .i64 (i : Int)) (hD : wq.heap[d]? = some (.cells #[.int .i64 num, .slice ao L.length cp] tView (0, 0))) (hM : MemsAt wq ao L) (hi : i < L.length) (hn7 : L.length ≤ 1000000) (h4v : v.v4 = .bool (decide L[i].right))
    (hQ : ∀ a' w', Fvr a' v → a'.tmps.getD 59 undef = .bool (decide (¬ okAt L i)) → Below wq.heap.size wq w' → K a' w') :
    Code.wp Try.prog c (Exit.then K fun _ _ _ => False) a wq := by
  have hok : okAt L i ↔ L[i].right ∧ ∀ k, 0 < i → L[i - 1]? = some k → k.node < L[i].node := by
    unfold okAt
    rw [List.getElem?_eq_getElem hi]
    exact ⟨fun h => h _ rfl, fun h m e => by cases e; exact h⟩
  by_cases h1 : L[i].right
  · rw [decide_eq_true h1] at h4v
    cases i with
    | zero =>
      refine vr_r7b hc a hF h3v h4v fun a' w' F' h b => hQ a' w' F' ?_ b
      rw [h, decide_eq_false (show ¬ ¬ okAt L 0 from fun e => e (hok.2 ⟨h1, fun k e2 => absurd e2 (by omega)⟩))]
    | succ j =>
      obtain ⟨b, off, rfl, _, y0, _⟩ := hM (j + 1) hi
      obtain ⟨b2, off2, hbo, _, z0, _⟩ := hM j (by omega)
      injection hbo with hbo
      injection hbo with e1 e2 _
      subst e1 e2
      refine vr_r7c hc a hF h1v h3v h4v hD hi hn7 y0 z0 fun a' w' F' h b => hQ a' w' F' ?_ b
      rw [h]
      congr 1
      rw [decide_eq_decide, hok]
      constructor
      · intro h3 h4
        have := h4.2 _ (by omega) (List.getElem?_eq_getElem (by omega))
        simp only [Nat.add_sub_cancel] at this
        omega
      · intro h3
        refine Decidable.not_not.1 fun h4 => h3 ⟨h1, fun k _ e => ?_⟩
        simp only [Nat.add_sub_cancel] at e
        rw [List.getElem?_eq_getElem (by omega)] at e
        cases e
        omega
  · rw [decide_eq_false h1] at h4v
    refine vr_r7a hc a hF h4v fun a' w' F' h b => hQ a' w' F' ?_ b
    rw [h, decide_eq_true (show ¬ okAt L i from fun e => h1 (hok.1 e).1)]
end Go.Proofs.Ytbkglpbkbfopjaa
