/-
  carillonref12's Right, as it runs (mkvr.py).
-/
import Derived.Test.YtfcpclpaalekiaaZVM
import Derived.Test.YtfcpclpaalekiaaProg
namespace Go.Proofs.Ytfcpclpaalekiaa
open Go.RowKit
set_option maxHeartbeats 4000000
attribute [local go_sem ↓] Go.wp_at_zero Go.wp_at_succ
set_option linter.unusedSimpArgs false
set_option linter.unusedVariables false
theorem rmember (m : MB) (w : World) : Calls Try.prog 63 #[m.v] w fun e w' => e = .returned (.bool (decide m.right)) ∧ Below w.heap.size w w' := by
  obtain ⟨n, l⟩ := m
  simp only [MB.v]
  have B0 := hide ((Below.refl w.heap.size w).alloc (Nat.le_refl _) (.cells #[.int .i64 n, .int .i64 l] tMember))
  by_cases h : (MB.mk n l).right
  · rw [decide_eq_true h]
    obtain ⟨h1, h2, h3, h4⟩ := h
    simp only at h1 h2 h3 h4
    go_enter Try.func63, Try.ntmps63
    go_wp2
    go_ret
    exact ⟨rfl, B0.out⟩
  · rw [decide_eq_false h]
    by_cases h1 : 0 ≤ n
    · by_cases h2 : n < 7
      · by_cases h3 : 1 ≤ l
        · have h4 : ¬ l ≤ 9007199254740991 := fun e => h ⟨h1, h2, h3, e⟩
          clear h
          go_enter Try.func63, Try.ntmps63
          go_wp2
          go_ret
          exact ⟨rfl, B0.out⟩
        · clear h
          go_enter Try.func63, Try.ntmps63
          go_wp2
          go_ret
          exact ⟨rfl, B0.out⟩
      · clear h
        go_enter Try.func63, Try.ntmps63
        go_wp2
        go_ret
        exact ⟨rfl, B0.out⟩
    · clear h
      go_enter Try.func63, Try.ntmps63
      go_wp2
      go_ret
      exact ⟨rfl, B0.out⟩
end Go.Proofs.Ytfcpclpaalekiaa
namespace Go.Proofs.Ytfcpclpaalekiaa
open Go.RowKit
set_option maxHeartbeats 8000000
set_option maxRecDepth 100000
attribute [local go_sem ↓] Go.wp_at_zero Go.wp_at_succ
set_option linter.unusedSimpArgs false
set_option linter.unusedVariables false
theorem frame_vr (t : Array Value) (h : t.size = 60) : ∃ u : Nat → Value, t = List.toArray (u 0 :: u 1 :: u 2 :: u 3 :: u 4 :: u 5 :: u 6 :: u 7 :: u 8 :: u 9 :: u 10 :: u 11 :: u 12 :: u 13 :: u 14 :: u 15 :: u 16 :: u 17 :: u 18 :: u 19 :: u 20 :: u 21 :: u 22 :: u 23 :: u 24 :: u 25 :: u 26 :: u 27 :: u 28 :: u 29 :: u 30 :: u 31 :: u 32 :: u 33 :: u 34 :: u 35 :: u 36 :: u 37 :: u 38 :: u 39 :: u 40 :: u 41 :: u 42 :: u 43 :: u 44 :: u 45 :: u 46 :: u 47 :: u 48 :: u 49 :: u 50 :: u 51 :: u 52 :: u 53 :: u 54 :: u 55 :: u 56 :: u 57 :: u 58 :: u 59 :: []) := by
  refine ⟨fun i => t.getD i undef, ?_⟩
  refine Eq.trans (b := ((List.range 60).map fun i => t.getD i undef).toArray) ?_ rfl
  apply Array.ext
  · simp [h]
  · intro k h1 h2
    simp [Array.getD, h1]
structure Vvr where
  v1 : Value
  v2 : Value
  v3 : Value
  v4 : Value
structure Fvr (a : Act) (v : Vvr) : Prop where
  size : a.tmps.size = 60
  defers : a.defers = []
  s1 : a.tmps.getD 1 undef = v.v1
  s2 : a.tmps.getD 2 undef = v.v2
  s3 : a.tmps.getD 3 undef = v.v3
  s4 : a.tmps.getD 4 undef = v.v4
theorem frx_vr {a : Act} {v1 v2 v3 v4 : Value} (h : Fvr a ⟨v1, v2, v3, v4⟩) : ∃ u : Nat → Value, a = ⟨List.toArray (u 0 :: v1 :: v2 :: v3 :: v4 :: u 5 :: u 6 :: u 7 :: u 8 :: u 9 :: u 10 :: u 11 :: u 12 :: u 13 :: u 14 :: u 15 :: u 16 :: u 17 :: u 18 :: u 19 :: u 20 :: u 21 :: u 22 :: u 23 :: u 24 :: u 25 :: u 26 :: u 27 :: u 28 :: u 29 :: u 30 :: u 31 :: u 32 :: u 33 :: u 34 :: u 35 :: u 36 :: u 37 :: u 38 :: u 39 :: u 40 :: u 41 :: u 42 :: u 43 :: u 44 :: u 45 :: u 46 :: u 47 :: u 48 :: u 49 :: u 50 :: u 51 :: u 52 :: u 53 :: u 54 :: u 55 :: u 56 :: u 57 :: u 58 :: u 59 :: []), []⟩ := by
  obtain ⟨t', d'⟩ := a
  obtain ⟨hs, hd, q1, q2, q3, q4⟩ := h
  obtain ⟨u, hu⟩ := frame_vr t' hs
  simp only at hd q1 q2 q3 q4
  subst hu hd
  have e1 : u 1 = v1 := q1
  have e2 : u 2 = v2 := q2
  have e3 : u 3 = v3 := q3
  have e4 : u 4 = v4 := q4
  refine ⟨u, ?_⟩
  rw [e1, e2, e3, e4]
theorem vr_r1 {K : Act → World → Prop} {c : Code} (hc : regOf (Try.f46.body.getD .skip) 1 = some c) (a : Act) {v : Vvr} {wq : World} {d n cp : Nat} {num : Int} {ao : Option Addr} (hF : Fvr a v) (h1v : v.v1 = .pointer (some ⟨d, 0, none⟩)) (hD : wq.heap[d]? = some (.cells #[.int .i64 num, .slice ao n cp] tView (0, 0)))
    (hQ : ∀ a', Fvr a' v → a'.tmps.getD 24 undef = .bool (decide (num < 1 ∨ big < num ∨ n < 1 ∨ 7 < n)) → K a' wq) :
    Code.wp Try.prog c (Exit.then K fun _ _ _ => False) a wq := by
  have HQ := hide hQ
  clear hQ
  obtain ⟨v1, v2, v3, v4⟩ := v
  simp only at h1v HQ
  subst h1v
  obtain ⟨u, rfl⟩ := frx_vr hF
  clear hF
  simp only [Try.f46, Option.getD_some, regOf] at hc
  injection hc with hc
  subst hc
  have c0 := box_cell hD 0 rfl
  have c1 := box_cell hD 1 rfl
  clear hD
  by_cases h1 : num < 1
  · rw [decide_eq_true (.inl h1)] at HQ
    go_wp2
    exact HQ.out _ ⟨rfl, rfl, rfl, rfl, rfl, rfl⟩ rfl
  · by_cases h2 : num > 9007199254740991
    · rw [decide_eq_true (.inr (.inl h2))] at HQ
      go_wp2
      exact HQ.out _ ⟨rfl, rfl, rfl, rfl, rfl, rfl⟩ rfl
    · by_cases h3 : n < 1
      · rw [decide_eq_true (.inr (.inr (.inl h3)))] at HQ
        have g3 : (n : Int) < 1 := by omega
        go_wp2
        exact HQ.out _ ⟨rfl, rfl, rfl, rfl, rfl, rfl⟩ rfl
      · have g3 : ¬ (n : Int) < 1 := by omega
        by_cases h4 : 7 < n
        · rw [decide_eq_true (.inr (.inr (.inr h4)))] at HQ
          have g4 : (n : Int) > 7 := by omega
          go_wp2
          exact HQ.out _ ⟨rfl, rfl, rfl, rfl, rfl, rfl⟩ rfl
        · rw [decide_eq_false (fun e => by rcases e with e | e | e | e; exact h1 e; exact h2 e; exact h3 e; exact h4 e)] at HQ
          have g4 : ¬ (n : Int) > 7 := by omega
          go_wp2
          exact HQ.out _ ⟨rfl, rfl, rfl, rfl, rfl, rfl⟩ rfl
theorem vr_r2 {K : Act → World → Prop} {c : Code} (hc : regOf (Try.f46.body.getD .skip) 2 = some c) (a : Act) {v : Vvr} {wq : World}  (hF : Fvr a v) (hQ : ∀ a', Fvr a' { v with v2 := .bool false } → K a' wq) :
    Code.wp Try.prog c (Exit.then K fun _ _ _ => False) a wq := by
  have HQ := hide hQ
  clear hQ
  obtain ⟨v1, v2, v3, v4⟩ := v
  obtain ⟨u, rfl⟩ := frx_vr hF
  clear hF
  simp only [Try.f46, Option.getD_some, regOf] at hc
  injection hc with hc
  subst hc
  go_wp2
  exact HQ.out _ ⟨rfl, rfl, rfl, rfl, rfl, rfl⟩
theorem vr_r8 {K : Act → World → Prop} {c : Code} (hc : regOf (Try.f46.body.getD .skip) 8 = some c) (a : Act) {v : Vvr} {wq : World}  (hF : Fvr a v) (hQ : ∀ a', Fvr a' { v with v2 := .bool false } → K a' wq) :
    Code.wp Try.prog c (Exit.then K fun _ _ _ => False) a wq := by
  have HQ := hide hQ
  clear hQ
  obtain ⟨v1, v2, v3, v4⟩ := v
  obtain ⟨u, rfl⟩ := frx_vr hF
  clear hF
  simp only [Try.f46, Option.getD_some, regOf] at hc
  injection hc with hc
  subst hc
  go_wp2
  exact HQ.out _ ⟨rfl, rfl, rfl, rfl, rfl, rfl⟩
theorem vr_r9 {K : Act → World → Prop} {c : Code} (hc : regOf (Try.f46.body.getD .skip) 9 = some c) (a : Act) {v : Vvr} {wq : World}  (hF : Fvr a v) (hQ : ∀ a', Fvr a' { v with v2 := .bool true } → K a' wq) :
    Code.wp Try.prog c (Exit.then K fun _ _ _ => False) a wq := by
  have HQ := hide hQ
  clear hQ
  obtain ⟨v1, v2, v3, v4⟩ := v
  obtain ⟨u, rfl⟩ := frx_vr hF
  clear hF
  simp only [Try.f46, Option.getD_some, regOf] at hc
  injection hc with hc
  subst hc
  go_wp2
  exact HQ.out _ ⟨rfl, rfl, rfl, rfl, rfl, rfl⟩
theorem vr_r3 {K : Act → World → Prop} {c : Code} (hc : regOf (Try.f46.body.getD .skip) 3 = some c) (a : Act) {v : Vvr} {wq : World}  (hF : Fvr a v) (hQ : ∀ a', Fvr a' { v with v3 := .int .i64 ((0 : Nat) : Int) } → K a' wq) :
    Code.wp Try.prog c (Exit.then K fun _ _ _ => False) a wq := by
  have HQ := hide hQ
  clear hQ
  obtain ⟨v1, v2, v3, v4⟩ := v
  obtain ⟨u, rfl⟩ := frx_vr hF
  clear hF
  simp only [Try.f46, Option.getD_some, regOf] at hc
  injection hc with hc
  subst hc
  go_wp2
  exact HQ.out _ ⟨rfl, rfl, rfl, rfl, rfl, rfl⟩
theorem vr_r5 {K : Act → World → Prop} {c : Code} (hc : regOf (Try.f46.body.getD .skip) 5 = some c) (a : Act) {v : Vvr} {wq : World} {i : Nat} (hF : Fvr a v) (h3v : v.v3 = .int .i64 (i : Int)) (hn : i ≤ 1000000) (hQ : ∀ a', Fvr a' { v with v3 := .int .i64 ((i + 1 : Nat) : Int) } → K a' wq) :
    Code.wp Try.prog c (Exit.then K fun _ _ _ => False) a wq := by
  have HQ := hide hQ
  clear hQ
  obtain ⟨v1, v2, v3, v4⟩ := v
  simp only at h3v HQ
  subst h3v
  obtain ⟨u, rfl⟩ := frx_vr hF
  clear hF
  simp only [Try.f46, Option.getD_some, regOf] at hc
  injection hc with hc
  subst hc
  have hj1 : ((i + 1 : Nat) : Int) = (i : Int) + 1 := by omega
  rw [hj1] at HQ
  clear hj1
  go_wp2
  exact HQ.out _ ⟨rfl, rfl, rfl, rfl, rfl, rfl⟩
theorem vr_r4 {K : Act → World → Prop} {c : Code} (hc : regOf (Try.f46.body.getD .skip) 4 = some c) (a : Act) {v : Vvr} {wq : World} {d n cp : Nat} {num : Int} {ao : Option Addr} {i : Nat} (hF : Fvr a v) (h1v : v.v1 = .pointer (some ⟨d, 0, none⟩)) (h3v : v.v3 = .int .i64 (i : Int)) (hD : wq.heap[d]? = some (.cells #[.int .i64 num, .slice ao n cp] tView (0, 0)))
    (hQ : ∀ a', Fvr a' v → a'.tmps.getD 29 undef = .bool (decide (i < n)) → K a' wq) :
    Code.wp Try.prog c (Exit.then K fun _ _ _ => False) a wq := by
  have HQ := hide hQ
  clear hQ
  obtain ⟨v1, v2, v3, v4⟩ := v
  simp only at h1v h3v HQ
  subst h1v h3v
  obtain ⟨u, rfl⟩ := frx_vr hF
  clear hF
  simp only [Try.f46, Option.getD_some, regOf] at hc
  injection hc with hc
  subst hc
  have c1 := box_cell hD 1 rfl
  clear hD
  by_cases h1 : i < n
  · rw [decide_eq_true h1] at HQ
    have g : (i : Int) < (n : Int) := by omega
    go_wp2
    exact HQ.out _ ⟨rfl, rfl, rfl, rfl, rfl, rfl⟩ rfl
  · rw [decide_eq_false h1] at HQ
    have g : ¬ (i : Int) < (n : Int) := by omega
    go_wp2
    exact HQ.out _ ⟨rfl, rfl, rfl, rfl, rfl, rfl⟩ rfl
theorem vr_r6 {K : Act → World → Prop} {c : Code} (hc : regOf (Try.f46.body.getD .skip) 6 = some c) (a : Act) {v : Vvr} {wq : World} {d cp : Nat} {num : Int} {ao : Option Addr} {L : List MB} {i : Nat} (hF : Fvr a v) (h1v : v.v1 = .pointer (some ⟨d, 0, none⟩)) (h3v : v.v3 = .int .i64 (i : Int)) (hD : wq.heap[d]? = some (.cells #[.int .i64 num, .slice ao L.length cp] tView (0, 0))) (hM : MemsAt wq ao L) (hi : i < L.length)
    (hQ : ∀ a' w', Fvr a' { v with v4 := .bool (decide L[i].right) } → Below wq.heap.size wq w' → K a' w') :
    Code.wp Try.prog c (Exit.then K fun _ _ _ => False) a wq := by
  have HQ := hide hQ
  clear hQ
  obtain ⟨v1, v2, v3, v4⟩ := v
  simp only at h1v h3v HQ
  subst h1v h3v
  obtain ⟨u, rfl⟩ := frx_vr hF
  clear hF
  simp only [Try.f46, Option.getD_some, regOf] at hc
  injection hc with hc
  subst hc
  obtain ⟨b, off, rfl, hb, y0, y1⟩ := hM i hi
  have c1 := box_cell hD 1 rfl
  have hi0 : (0 : Int) ≤ (i : Int) := by omega
  have hi1 : (i : Int) < (L.length : Int) := by omega
  have HR := hide (rmember L[i] wq)
  generalize L[i] = m at *
  obtain ⟨mn, ml⟩ := m
  simp only [MB.v] at *
  generalize L.length = n at *
  clear hD hM hi
  go_wp2_with fail
  refine HR.out.mono ?_
  rintro e w1 ⟨rfl, b1⟩
  have B1 := hide b1
  clear b1 HR
  go_wp2
  exact HQ.out _ _ ⟨rfl, rfl, rfl, rfl, rfl, rfl⟩ B1.out
end Go.Proofs.Ytfcpclpaalekiaa
namespace Go.Proofs.Ytfcpclpaalekiaa
open Go.RowKit
set_option maxHeartbeats 8000000
set_option maxRecDepth 100000
attribute [local go_sem ↓] Go.wp_at_zero Go.wp_at_succ
set_option linter.unusedSimpArgs false
set_option linter.unusedVariables false
theorem vr_r7a {K : Act → World → Prop} {c : Code} (hc : regOf (Try.f46.body.getD .skip) 7 = some c) (a : Act) {v : Vvr} {wq : World}  (hF : Fvr a v) (h4v : v.v4 = .bool false)  (hQ : ∀ a' w', Fvr a' v → a'.tmps.getD 59 undef = .bool true → Below wq.heap.size wq w' → K a' w') :
    Code.wp Try.prog c (Exit.then K fun _ _ _ => False) a wq := by
  have HQ := hide hQ
  clear hQ
  obtain ⟨v1, v2, v3, v4⟩ := v
  simp only at h4v HQ
  subst h4v
  obtain ⟨u, rfl⟩ := frx_vr hF
  clear hF
  simp only [Try.f46, Option.getD_some, regOf] at hc
  injection hc with hc
  subst hc
  go_region
  go_wp2
  exact HQ.out _ _ ⟨rfl, rfl, rfl, rfl, rfl, rfl⟩ (by first | rfl | simp) (below_drewN (Below.refl _ _) _)
theorem vr_r7b {K : Act → World → Prop} {c : Code} (hc : regOf (Try.f46.body.getD .skip) 7 = some c) (a : Act) {v : Vvr} {wq : World}  (hF : Fvr a v) (h3v : v.v3 = .int .i64 ((0 : Nat) : Int)) (h4v : v.v4 = .bool true)  (hQ : ∀ a' w', Fvr a' v → a'.tmps.getD 59 undef = .bool false → Below wq.heap.size wq w' → K a' w') :
    Code.wp Try.prog c (Exit.then K fun _ _ _ => False) a wq := by
  have HQ := hide hQ
  clear hQ
  obtain ⟨v1, v2, v3, v4⟩ := v
  simp only at h3v h4v HQ
  subst h3v h4v
  obtain ⟨u, rfl⟩ := frx_vr hF
  clear hF
  simp only [Try.f46, Option.getD_some, regOf] at hc
  injection hc with hc
  subst hc
  go_region
  go_wp2
  exact HQ.out _ _ ⟨rfl, rfl, rfl, rfl, rfl, rfl⟩ (by first | rfl | simp) (below_drewN (Below.refl _ _) _)
theorem vr_r7c {K : Act → World → Prop} {c : Code} (hc : regOf (Try.f46.body.getD .skip) 7 = some c) (a : Act) {v : Vvr} {wq : World} {d n cp b off j : Nat} {num n1 n2 : Int} (hF : Fvr a v) (h1v : v.v1 = .pointer (some ⟨d, 0, none⟩)) (h3v : v.v3 = .int .i64 ((j + 1 : Nat) : Int)) (h4v : v.v4 = .bool true) (hD : wq.heap[d]? = some (.cells #[.int .i64 num, .slice (some ⟨b, off, none⟩) n cp] tView (0, 0))) (hj : j + 1 < n) (hn7 : n ≤ 1000000) (y0 : wq.cell? ⟨b, off + (j + 1) * 2, none⟩ = some (.int .i64 n1)) (z0 : wq.cell? ⟨b, off + j * 2, none⟩ = some (.int .i64 n2)) (hQ : ∀ a' w', Fvr a' v → a'.tmps.getD 59 undef = .bool (decide (n1 ≤ n2)) → Below wq.heap.size wq w' → K a' w') :
    Code.wp Try.prog c (Exit.then K fun _ _ _ => False) a wq := by
  have HQ := hide hQ
  clear hQ
  obtain ⟨v1, v2, v3, v4⟩ := v
  simp only at h1v h3v h4v HQ
  subst h1v h3v h4v
  obtain ⟨u, rfl⟩ := frx_vr hF
  clear hF
  simp only [Try.f46, Option.getD_some, regOf] at hc
  injection hc with hc
  subst hc
  have c1 := box_cell hD 1 rfl
  clear hD
  obtain ⟨i, hi⟩ : ∃ i, j + 1 = i := ⟨_, rfl⟩
  rw [hi] at y0 hj HQ ⊢
  have hg : (i : Int) - 1 = (j : Int) := by omega
  have hj0 : (0 : Int) ≤ (j : Int) := by omega
  have hj1 : (j : Int) < (n : Int) := by omega
  have hi0 : (0 : Int) ≤ (i : Int) := by omega
  have hi1 : (i : Int) < (n : Int) := by omega
  have g2 : (i : Int) > 0 := by omega
  have g3 : decide ((i : Int) > 0) = true := decide_eq_true g2
  have g4 : decide ((0 : Int) < (i : Int)) = true := g3
  have g7 : decide (0 < i) = true := decide_eq_true (by omega)
  clear hi
  have hw : IntKind.i64.wrap (j : Int) = (j : Int) := by rw [IntKind.wrap_i64]; omega
  by_cases h3 : n1 ≤ n2
  · rw [decide_eq_true h3] at HQ
    have g5 := decide_eq_true h3
    go_quiet (fail)
    go_wp2
    exact HQ.out _ _ ⟨rfl, rfl, rfl, rfl, rfl, rfl⟩ (by first | rfl | simp) (below_drewN (Below.refl _ _) _)
  · rw [decide_eq_false h3] at HQ
    have g5 := decide_eq_false h3
    go_quiet (fail)
    go_wp2
    exact HQ.out _ _ ⟨rfl, rfl, rfl, rfl, rfl, rfl⟩ (by first | rfl | simp) (below_drewN (Below.refl _ _) _)
theorem vr_r7 {K : Act → World → Prop} {c : Code} (hc : regOf (Try.f46.body.getD .skip) 7 = some c) (a : Act) {v : Vvr} {wq : World} {d cp : Nat} {num : Int} {ao : Option Addr} {L : List MB} {i : Nat} (hF : Fvr a v) (h1v : v.v1 = .pointer (some ⟨d, 0, none⟩)) (h3v : v.v3 = .int .i64 (i : Int)) (hD : wq.heap[d]? = some (.cells #[.int .i64 num, .slice ao L.length cp] tView (0, 0))) (hM : MemsAt wq ao L) (hi : i < L.length) (hn7 : L.length ≤ 1000000) (h4v : v.v4 = .bool (decide L[i].right))
    (hQ : ∀ a' w', Fvr a' v → a'.tmps.getD 59 undef = .bool (decide (¬ okAt L i)) → Below wq.heap.size wq w' → K a' w') :
    Code.wp Try.prog c (Exit.then K fun _ _ _ => False) a wq := by
  have hok : okAt L i ↔ L[i].right ∧ ∀ k, 0 < i → L[i - 1]? = some k → k.node < L[i].node := by
    unfold okAt
    rw [List.getElem?_eq_getElem hi]
    exact ⟨fun h => h _ rfl, fun h m e => by cases e; exact h⟩
  by_cases h1 : L[i].right
  · rw [decide_eq_true h1] at h4v
    cases i with
    | zero =>
      refine vr_r7b hc a hF h3v h4v fun a' w' F' h b => hQ a' w' F' ?_ b
      rw [h, decide_eq_false (show ¬ ¬ okAt L 0 from fun e => e (hok.2 ⟨h1, fun k e2 => absurd e2 (by omega)⟩))]
    | succ j =>
      obtain ⟨b, off, rfl, _, y0, _⟩ := hM (j + 1) hi
      obtain ⟨b2, off2, hbo, _, z0, _⟩ := hM j (by omega)
      injection hbo with hbo
      injection hbo with e1 e2 _
      subst e1 e2
      refine vr_r7c hc a hF h1v h3v h4v hD hi hn7 y0 z0 fun a' w' F' h b => hQ a' w' F' ?_ b
      rw [h]
      congr 1
      rw [decide_eq_decide, hok]
      constructor
      · intro h3 h4
        have := h4.2 _ (by omega) (List.getElem?_eq_getElem (by omega))
        simp only [Nat.add_sub_cancel] at this
        omega
      · intro h3
        refine Decidable.not_not.1 fun h4 => h3 ⟨h1, fun k _ e => ?_⟩
        simp only [Nat.add_sub_cancel] at e
        rw [List.getElem?_eq_getElem (by omega)] at e
        cases e
        omega
  · rw [decide_eq_false h1] at h4v
    refine vr_r7a hc a hF h4v fun a' w' F' h b => hQ a' w' F' ?_ b
    rw [h, decide_eq_true (show ¬ okAt L i from fun e => h1 (hok.1 e).1)]
end Go.Proofs.Ytfcpclpaalekiaa
namespace Go.Proofs.Ytfcpclpaalekiaa
open Go.RowKit
set_option maxHeartbeats 8000000
set_option maxRecDepth 100000
attribute [local go_sem ↓] Go.wp_at_zero Go.wp_at_succ
set_option linter.unusedSimpArgs false
set_option linter.unusedVariables false
attribute [local go_sem ↓] Go.wp_at_zero Go.wp_at_succ
theorem vr_ret {w W : World} {a : Act} {v : Vvr} {r : Bool} (hF : Fvr a v) (h2 : v.v2 = .bool r) (hB : Below w.heap.size w W) :
    bodyPost Try.prog Try.f46 (fun e w' => e = .returned (.bool r) ∧ Below w.heap.size w w') .ret a W := by
  have h5 := slot_get (hF.s2.trans h2)
  refine bodyPost_ret (v := .bool r) ?_ hF.defers ⟨rfl, hB⟩
  simp [results, Try.results46, go_sem, h5]
theorem rright (x : VW) (ao : Option Addr) (cp : Nat) (w : World) (hM : MemsAt w ao x.mem) : Calls Try.prog 46 #[x.v ao cp] w fun e w' => e = .returned (.bool (decide x.right)) ∧ Below w.heap.size w w' := by
  have HM := hide hM
  obtain ⟨num, L⟩ := x
  simp only [VW.v] at *
  obtain ⟨r, hr⟩ : ∃ r, decide (VW.mk num L).right = r := ⟨_, rfl⟩
  rw [hr]
  have HR := hide hr
  clear hM hr
  have D0 := heap_alloc_new w (.cells #[.int .i64 num, .slice ao L.length cp] tView)
  have B0 := (Below.refl w.heap.size w).alloc (Nat.le_refl _) (.cells #[.int .i64 num, .slice ao L.length cp] tView)
  have HD := hide D0
  have HB := hide B0
  clear D0 B0
  go_enter Try.func46, Try.ntmps46
  go_upto_region 1 with fail
  rename_i Ko hKo Ki hKi
  refine reg_mono (vr_r1 (by kernel_rfl) _ (v := ⟨_, _, _, _⟩) ⟨rfl, rfl, rfl, rfl, rfl, rfl⟩ rfl HD.out ?_)
  intro a1 F1 h24
  refine hKi _ _ ?_
  by_cases c : num < 1 ∨ big < num ∨ L.length < 1 ∨ 7 < L.length
  · rw [decide_eq_true c] at h24
    refine wp_cond_true h24 (wp_seq (reg_mono (vr_r2 (by kernel_rfl) _ F1 ?_)))
    intro a2 F2
    refine wp_ret ?_
    refine vr_ret F2 ?_ HB.out
    show Value.bool false = .bool r
    rw [← HR.out, decide_eq_false]
    intro e
    obtain ⟨e1, e2, e3, e4, _⟩ := e
    simp only at e1 e2 e3 e4
    omega
  · rw [decide_eq_false c] at h24
    refine wp_cond_false h24 (wp_skip ?_)
    show Ko _ _
    refine hKo _ _ ?_
    refine wp_seq (wp_seq (reg_mono (vr_r3 (by kernel_rfl) _ F1 ?_)))
    intro a2 F2
    have hl : L.length ≤ 7 := by omega
    refine wp_block (wp_loop (fun a W => ∃ i v, i ≤ L.length ∧ (∀ j, j < i → okAt L j) ∧ Fvr a v ∧ v.v1 = .pointer (some ⟨w.heap.size, 0, none⟩) ∧ v.v3 = .int .i64 (i : Int) ∧ Below (w.alloc (.cells #[.int .i64 num, .slice ao L.length cp] tView)).heap.size (w.alloc (.cells #[.int .i64 num, .slice ao L.length cp] tView)) W) (fun a _ => L.length - (intOf (a.tmps.getD 3 undef)).toNat) ⟨0, _, Nat.zero_le _, fun j hj => absurd hj (Nat.not_lt_zero _), F2, rfl, rfl, Below.refl _ _⟩ ?_)
    rintro a3 w3 ⟨i, v3, hi, hok, F3, g1, g3, b3⟩
    have D3 : w3.heap[w.heap.size]? = some (.cells #[.int .i64 num, .slice ao L.length cp] tView (0, 0)) := (b3.block _ (by simp)).trans HD.out
    have B3 : Below w.heap.size w w3 := HB.out.trans (b3.mono HB.out.size)
    have hm3 : (intOf (a3.tmps.getD 3 undef)).toNat = i := by rw [F3.s3, g3]; simp [intOf]
    refine wp_seq (wp_seq (reg_mono (vr_r4 (by kernel_rfl) _ F3 g1 g3 D3 ?_)))
    intro a4 F4 h29
    by_cases hlt : i < L.length
    · rw [decide_eq_true hlt] at h29
      refine wp_cond_true h29 (wp_skip ?_)
      show Code.wp _ _ _ _ _
      refine wp_seq (wp_block (wp_seq (reg_mono (vr_r6 (by kernel_rfl) _ F4 g1 g3 D3 (HM.out.below B3) hlt ?_))))
      intro a5 w5 F5 b5
      have B5 := B3.trans (b5.mono B3.size)
      refine wp_seq (reg_mono (vr_r7 (by kernel_rfl) _ F5 g1 g3 ((b5.block _ (heap_lt D3)).trans D3) (HM.out.below B5) hlt (by omega) rfl ?_))
      intro a6 w6 F6 h59 b6
      have B6 := B5.trans (b6.mono B5.size)
      by_cases c2 : okAt L i
      · rw [decide_eq_false (fun e => e c2)] at h59
        refine wp_cond_false h59 (wp_skip ?_)
        show Code.wp _ _ _ _ _
        refine reg_all (vr_r5 (by kernel_rfl) _ F6 g3 (by omega) ?_)
        intro a7 F7
        refine ⟨⟨i + 1, _, by omega, fun j hj => ?_, F7, g1, rfl, ?_⟩, ?_⟩
        · by_cases e : j = i
          · rw [e]; exact c2
          · exact hok j (by omega)
        · exact (b3.trans (b5.mono b3.size)).trans (b6.mono (Nat.le_trans b3.size b5.size))
        · have hm7 : (intOf (a7.tmps.getD 3 undef)).toNat = i + 1 := by rw [F7.s3]; simp only [intOf]; omega
          rw [hm7, hm3]
          omega
      · rw [decide_eq_true c2] at h59
        refine wp_cond_true h59 (wp_seq (reg_mono (vr_r8 (by kernel_rfl) _ F6 ?_)))
        intro a7 F7
        refine wp_ret ?_
        refine vr_ret F7 ?_ B6
        show Value.bool false = .bool r
        rw [← HR.out, decide_eq_false]
        exact fun e => c2 (e.2.2.2.2 i hlt)
    · rw [decide_eq_false hlt] at h29
      refine wp_cond_false h29 (wp_exit ?_)
      show Code.wp _ _ _ _ _
      refine wp_seq (reg_mono (vr_r9 (by kernel_rfl) _ F4 ?_))
      intro a5 F5
      refine wp_ret ?_
      refine vr_ret F5 ?_ B3
      show Value.bool true = .bool r
      rw [← HR.out, decide_eq_true]
      refine ⟨by show 1 ≤ num; omega, by show num ≤ big; omega, by show 1 ≤ L.length; omega, hl, fun j hj => hok j ?_⟩
      have : j < L.length := hj
      omega
end Go.Proofs.Ytfcpclpaalekiaa
