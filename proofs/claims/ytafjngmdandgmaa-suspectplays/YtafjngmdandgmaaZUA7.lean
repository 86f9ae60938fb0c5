/-
  The program's Heard (mkua.py).
-/
import Derived.Test.YtafjngmdandgmaaZUA3
import Derived.Test.YtafjngmdandgmaaZUA6
namespace Go.Proofs.Ytafjngmdandgmaa
open Go.RowKit

attribute [local go_sem ↓] Go.wp_at_zero Go.wp_at_succ
set_option linter.unusedSimpArgs false
set_option linter.unusedVariables false
theorem ph_ret {w W : World} {a : Act} {v : Vph} {r : Bool} {R : World → Prop} (hF : Fph a v) (h4 : v.v4 = .bool r) (hB : R W) :
    bodyPost Try.prog Try.f11 (fun e w' => e = .returned (.bool r) ∧ R w') .ret a W := by
  have g4 := slot_get (hF.s4.trans h4)
  refine bodyPost_ret (v := .bool r) ?_ hF.defers ⟨rfl, hB⟩
  simp [results, Try.results11, go_sem, g4]
set_option maxHeartbeats 4000000 in
set_option maxRecDepth 100000 in
theorem pheard {w : World} {b c : Nat} {S : SU} (h : PAt w b c S) (m : MB) : Calls Try.prog 11 #[.pointer (some ⟨b, 0, none⟩), m.v] w fun e w' => e = .returned (.bool (S.hears m)) ∧ PAt w' b c (S.heard m) ∧ Touch (pOwn b c) w w' := by
  have H := hide h
  have X0 := hide (heap_alloc_new w (.cells #[.int .i64 m.node, .int .i64 m.life] tMember))
  have HB := hide ((Below.refl w.heap.size w).alloc (Nat.le_refl _) (.cells #[.int .i64 m.node, .int .i64 m.life] tMember))
  clear h
  simp only [MB.v]
  go_enter Try.func11, Try.ntmps11
  go_upto_region 1 with fail
  rename_i Kp hKp Ko hKo
  generalize w.alloc (.cells #[.int .i64 m.node, .int .i64 m.life] tMember) = w1 at *
  have T1 := H.out.below HB.out
  have c0 := box_cell X0.out 0 rfl
  have c1 := box_cell X0.out 1 rfl
  have no : ∀ {a : Act} {v : Vph} {W : World}, S.hears m = false → Fph a v → v.v4 = .bool false → Below w.heap.size w W → bodyPost Try.prog Try.f11 (fun e w' => e = .returned (.bool (S.hears m)) ∧ PAt w' b c (S.heard m) ∧ Touch (pOwn b c) w w') .ret a W := by
    intro a v W hh hF h4 hB
    rw [SU.heard_no hh, hh]
    exact ph_ret (R := fun w' => PAt w' b c S ∧ Touch (pOwn b c) w w') (w := w) hF h4 ⟨H.out.below hB, Touch.of_below hB⟩
  have hR := fun w' (_ : Below w1.heap.size w1 w') => pmember m w'
  unfold MB.v at hR
  by_cases hm : m.right
  case neg =>
    rw [decide_eq_false hm] at hR
    refine reg_mono (ph_r1a (by kernel_rfl) _ (v := ⟨_, _, _⟩) ⟨rfl, rfl, rfl, rfl, rfl⟩ rfl rfl (heap_lt X0.out) c0 c1 hR ?_)
    intro a2 w2 F2 h30 b2
    refine hKo _ _ ?_
    refine wp_cond_true h30 (wp_seq (reg_mono (ph_r2 (by kernel_rfl) _ F2 ?_)))
    intro a3 F3
    exact wp_ret (no (decide_eq_false fun e => hm e.1) F3 rfl (HB.out.trans (b2.mono HB.out.size)))
  rw [decide_eq_true hm] at hR
  by_cases hq : m.node = S.self.node
  case pos =>
    refine reg_mono (ph_r1b (by kernel_rfl) _ (v := ⟨_, _, _⟩) ⟨rfl, rfl, rfl, rfl, rfl⟩ rfl rfl (heap_lt X0.out) c0 c1 hR (heap_lt T1.box) T1.c0 (by simpa using hq) ?_)
    intro a2 w2 F2 h30 b2
    refine hKo _ _ ?_
    refine wp_cond_true h30 (wp_seq (reg_mono (ph_r2 (by kernel_rfl) _ F2 ?_)))
    intro a3 F3
    exact wp_ret (no (decide_eq_false fun e => e.2.1 hq) F3 rfl (HB.out.trans (b2.mono HB.out.size)))
  obtain ⟨n, hn'⟩ : ∃ n : Nat, m.node = (n : Int) := ⟨m.node.toNat, by have := hm.1; omega⟩
  have hn7 : n < 7 := by have := hm.2.1; omega
  have hto : m.node.toNat = n := by omega
  refine reg_mono (ph_r1c (n := n) (x1 := m.life) (by kernel_rfl) _ (v := ⟨_, _, _⟩) ⟨rfl, rfl, rfl, rfl, rfl⟩ rfl rfl (heap_lt X0.out) (by rw [← hn']; exact c0) c1 (by rw [← hn']; exact hR) (heap_lt T1.box) T1.c0 (by rw [← hn']; simpa using hq) hn7 (T1.t1 hn7) ?_)
  intro a2 w2 F2 h30 b2
  refine hKo _ _ ?_
  have D2 := (b2.block _ (heap_lt X0.out)).trans X0.out
  have B2 := HB.out.trans (b2.mono HB.out.size)
  have T2 := H.out.below B2
  by_cases hl : m.life < S.life n
  case pos =>
    rw [decide_eq_true hl] at h30
    refine wp_cond_true h30 (wp_seq (reg_mono (ph_r2 (by kernel_rfl) _ F2 ?_)))
    intro a3 F3
    exact wp_ret (no (decide_eq_false fun e => by have := e.2.2; rw [hto] at this; omega) F3 rfl B2)
  rw [decide_eq_false hl] at h30
  refine wp_cond_false h30 (wp_skip (hKp _ _ ?_))
  refine wp_seq (reg_mono (ph_r3 (n := n) (x1 := m.life) (q := (S.now : Int)) (cc := c) (by kernel_rfl) _ F2 rfl rfl hn7 (heap_lt D2) T2.box (rowOf_size _ _) (by rw [← hn']; exact box_cell D2 0 rfl) (box_cell D2 1 rfl) T2.c16 (fun w' hb => (T2.below hb).pnow) ?_))
  intro a4 w4 F4 b4
  have T4 := T2.below b4
  have B4 := B2.trans (b4.mono B2.size)
  refine wp_seq (reg_mono (ph_r4 (by kernel_rfl) _ F4 ?_))
  intro a5 F5
  have hh : S.hears m = true := decide_eq_true ⟨hm, hq, by rw [hto]; omega⟩
  have hs : S.heard m = { S with life := fun x => if x = n then m.life else S.life x, age := fun x => if x = n then 0 else S.age x } := by
    unfold SU.heard
    rw [if_pos hh, hto]
  refine wp_ret (show bodyPost Try.prog Try.f11 (fun e w' => e = .returned (.bool (S.hears m)) ∧ PAt w' b c (S.heard m) ∧ Touch (pOwn b c) w w') .ret _ _ from ?_)
  rw [hh, hs]
  refine ph_ret (R := fun w' => PAt w' b c _ ∧ Touch (pOwn b c) w w') (w := w) F5 rfl ⟨⟨?_, ?_, ?_, T4.now, T4.self⟩, ?_⟩
  · rw [box_set (box_set T4.box _ _), rowOf_set _ (by omega), rowOf_set _ (by omega)]
    congr 2
    apply rowOf_congr
    intro k hk
    by_cases e1 : k = 2 + n * 2 + 1
    · subst e1
      rw [if_pos rfl]
      unfold SU.cellAt
      rw [if_neg (by omega), if_neg (by omega), if_neg (by omega), if_neg (by omega), show (2 + n * 2 + 1) / 2 - 1 = n by omega]
      simp
    · rw [if_neg e1]
      by_cases e2 : k = 2 + n * 2
      · subst e2
        rw [if_pos rfl]
        unfold SU.cellAt
        rw [if_neg (by omega), if_neg (by omega), if_neg (by omega), if_pos (by omega), show (2 + n * 2) / 2 - 1 = n by omega]
        simp
      · rw [if_neg e2]
        unfold SU.cellAt
        split
        · rfl
        · split
          · rfl
          · split
            · rfl
            · split
              · have hk1 : ¬ k / 2 - 1 = n := by omega
                simp only [hk1, if_false]
              · have hk1 : ¬ k / 2 - 1 = n := by omega
                simp only [hk1, if_false]
  · rw [box_apart (box_apart T4.clock T4.ne.symm _ _) T4.ne.symm]
  · intro k
    simp only
    split
    · exact Nat.zero_le _
    · exact T4.age k
  · exact ((Touch.of_below B4).setCell _ _ fun _ => .inl rfl).setCell _ _ fun _ => .inl rfl
end Go.Proofs.Ytafjngmdandgmaa
