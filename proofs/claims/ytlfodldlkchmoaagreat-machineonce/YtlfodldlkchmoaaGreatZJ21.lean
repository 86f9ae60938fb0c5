/-
  The laws' examples, as they run (mkj19.py).
-/
import Derived.Test.YtlfodldlkchmoaaGreatZJ20
namespace Go.Proofs.YtlfodldlkchmoaaGreat.Y
open Go.RowKit
set_option maxHeartbeats 8000000
set_option maxRecDepth 100000
attribute [local go_sem ↓] Go.wp_at_zero Go.wp_at_succ
set_option linter.unusedSimpArgs false
set_option linter.unusedVariables false
open Go.Maps
theorem pexamples (w : World) : Calls Tryz.prog 8 #[] w fun e w' => e = .returned (.bool true) ∧ Below w.heap.size w w' := by
  go_enter Tryz.func8, Tryz.ntmps8
  refine wp_seq (reg_mono (eq_r0 (by kernel_rfl) _ (v := ⟨_, _, _, _, _, _, _, _, _, _, _, _, _⟩) ⟨rfl, rfl, rfl, rfl, rfl, rfl, rfl, rfl, rfl, rfl, rfl, rfl, rfl, rfl, rfl⟩ ?_))
  intro a0 F0
  try dsimp only at F0
  refine wp_seq (reg_mono (eq_r1 (R := fun L W => MAt W L (exS 0) ∧ Below w.heap.size w W ∧ ∀ j, L.own j → w.heap.size ≤ j) (by kernel_rfl) _ F0 ((pmnew 3 w).mono fun e u q => ?_) ?_))
  · rcases q with ⟨q1, _⟩ | ⟨_, _, L, q1, q2, q3, q4⟩
    · exact absurd ⟨by decide, by decide⟩ q1
    · exact ⟨L, q1, q2, q3, q4⟩
  rintro a1 w1 L0 F1 ⟨m0, b1, o0⟩
  try dsimp only at F1
  refine wp_seq (reg_mono (eq_r2 (by kernel_rfl) _ F1 ((pmnew 8 w1).mono fun e u q => ?_) ?_))
  · rcases q with ⟨_, q1, q2⟩ | ⟨_, q1, _⟩
    · exact ⟨q1, q2⟩
    · exact absurd q1 (by decide)
  intro a2 w2 F2 b2
  try dsimp only at F2
  have m2 := m0.below b2
  have B2 := b1.trans (b2.mono b1.size)
  refine wp_seq (wp_seq (reg_mono (eq_r3 (by kernel_rfl) _ F2 rfl rfl rfl ?_)))
  intro a3 F3 g3
  refine wp_cond_false g3 (wp_skip ?_)
  show Code.wp _ _ _ _ _
  have S0 : MStep w2 w2 L0 L0 := MStep.refl _ _
  have bL0 : L0.b = L0.b := rfl
  have K0 : Beside w2 L0 37 [] := Beside.nil _ _ _
  have D0 := do_ex 0 (by decide) m2 (⟨1, ⟨#[97]⟩, ⟨#[]⟩, 0, ⟨#[]⟩, ⟨#[]⟩, 0, 0, 0⟩) rfl (⟨0, 0, []⟩) exR0 1 rfl
  rw [bL0] at D0
  refine wp_seq (reg_mono (eq_r5 (R := fun ao cp W => ∃ L', MAt W L' (exS 1) ∧ MStep w2 W L0 L' ∧ RecsAt W (.slice ao 0 cp) [] ∧ ∀ g, (Value.slice ao 0 cp).ownBlock = some g → ¬ L'.own g) (by kernel_rfl) _ F3 rfl D0 ?_))
  clear D0
  rintro a1 u1 aq0 cq0 FD1 ⟨L1, n1, s1, rc0, no0⟩
  try dsimp only at FD1
  have bL1 : L1.b = L0.b := s1.b.trans bL0
  have k1 := (K0.step s1).put n1 #[.int .i64 0, .int .i64 0, .slice aq0 0 cq0]
  have m1d := n1.below ((Below.refl u1.heap.size u1).alloc (Nat.le_refl _) (.cells #[.int .i64 0, .int .i64 0, .slice aq0 0 cq0] 37))
  have t1 : MStep w2 (u1.alloc (.cells #[.int .i64 0, .int .i64 0, .slice aq0 0 cq0] 37)) L0 L1 := (S0.trans s1).then ((Below.refl u1.heap.size u1).alloc (Nat.le_refl _) _)
  have v1 : MStep w2 (u1.alloc (.cells #[.int .i64 0, .int .i64 0, .slice aq0 0 cq0] 37)) L0 L1 := s1.then ((Below.refl u1.heap.size u1).alloc (Nat.le_refl _) _)
  generalize u1.alloc (.cells #[.int .i64 0, .int .i64 0, .slice aq0 0 cq0] 37) = w1d at *
  have D1 := do_ex 1 (by decide) m1d (⟨1, ⟨#[97]⟩, ⟨#[]⟩, 0, ⟨#[]⟩, ⟨#[]⟩, 0, 0, 0⟩) rfl (⟨4, 0, []⟩) exR1 2 rfl
  rw [bL1] at D1
  refine wp_seq (reg_mono (eq_r6 (R := fun ao cp W => ∃ L', MAt W L' (exS 2) ∧ MStep w1d W L1 L' ∧ RecsAt W (.slice ao 0 cp) [] ∧ ∀ g, (Value.slice ao 0 cp).ownBlock = some g → ¬ L'.own g) (by kernel_rfl) _ FD1 rfl D1 ?_))
  clear D1
  rintro a2 u2 aq1 cq1 FD2 ⟨L2, n2, s2, rc1, no1⟩
  try dsimp only at FD2
  have bL2 : L2.b = L0.b := s2.b.trans bL1
  have k2 := (k1.step s2).put n2 #[.int .i64 4, .int .i64 0, .slice aq1 0 cq1]
  have m2d := n2.below ((Below.refl u2.heap.size u2).alloc (Nat.le_refl _) (.cells #[.int .i64 4, .int .i64 0, .slice aq1 0 cq1] 37))
  have t2 : MStep w2 (u2.alloc (.cells #[.int .i64 4, .int .i64 0, .slice aq1 0 cq1] 37)) L0 L2 := (t1.trans s2).then ((Below.refl u2.heap.size u2).alloc (Nat.le_refl _) _)
  have v2 : MStep w1d (u2.alloc (.cells #[.int .i64 4, .int .i64 0, .slice aq1 0 cq1] 37)) L1 L2 := s2.then ((Below.refl u2.heap.size u2).alloc (Nat.le_refl _) _)
  generalize u2.alloc (.cells #[.int .i64 4, .int .i64 0, .slice aq1 0 cq1] 37) = w2d at *
  have D2 := do_ex 2 (by decide) m2d (⟨2, ⟨#[97]⟩, ⟨#[112]⟩, 1, ⟨#[]⟩, ⟨#[118]⟩, 0, 0, 0⟩) rfl (⟨0, 0, []⟩) exR2 3 rfl
  rw [bL2] at D2
  refine wp_seq (reg_mono (eq_r7 (R := fun ao cp W => ∃ L', MAt W L' (exS 3) ∧ MStep w2d W L2 L' ∧ RecsAt W (.slice ao 0 cp) [] ∧ ∀ g, (Value.slice ao 0 cp).ownBlock = some g → ¬ L'.own g) (by kernel_rfl) _ FD2 rfl D2 ?_))
  clear D2
  rintro a3 u3 aq2 cq2 FD3 ⟨L3, n3, s3, rc2, no2⟩
  try dsimp only at FD3
  have bL3 : L3.b = L0.b := s3.b.trans bL2
  have k3 := (k2.step s3).put n3 #[.int .i64 0, .int .i64 0, .slice aq2 0 cq2]
  have m3d := n3.below ((Below.refl u3.heap.size u3).alloc (Nat.le_refl _) (.cells #[.int .i64 0, .int .i64 0, .slice aq2 0 cq2] 37))
  have t3 : MStep w2 (u3.alloc (.cells #[.int .i64 0, .int .i64 0, .slice aq2 0 cq2] 37)) L0 L3 := (t2.trans s3).then ((Below.refl u3.heap.size u3).alloc (Nat.le_refl _) _)
  have v3 : MStep w2d (u3.alloc (.cells #[.int .i64 0, .int .i64 0, .slice aq2 0 cq2] 37)) L2 L3 := s3.then ((Below.refl u3.heap.size u3).alloc (Nat.le_refl _) _)
  generalize u3.alloc (.cells #[.int .i64 0, .int .i64 0, .slice aq2 0 cq2] 37) = w3d at *
  have D3 := do_ex 3 (by decide) m3d (⟨3, ⟨#[97]⟩, ⟨#[115]⟩, 0, ⟨#[]⟩, ⟨#[]⟩, 0, 0, 0⟩) rfl (⟨0, 0, []⟩) exR3 4 rfl
  rw [bL3] at D3
  refine wp_seq (reg_mono (eq_r8 (R := fun ao cp W => ∃ L', MAt W L' (exS 4) ∧ MStep w3d W L3 L' ∧ RecsAt W (.slice ao 0 cp) [] ∧ ∀ g, (Value.slice ao 0 cp).ownBlock = some g → ¬ L'.own g) (by kernel_rfl) _ FD3 rfl D3 ?_))
  clear D3
  rintro a4 u4 aq3 cq3 FD4 ⟨L4, n4, s4, rc3, no3⟩
  try dsimp only at FD4
  have bL4 : L4.b = L0.b := s4.b.trans bL3
  have k4 := (k3.step s4).put n4 #[.int .i64 0, .int .i64 0, .slice aq3 0 cq3]
  have m4d := n4.below ((Below.refl u4.heap.size u4).alloc (Nat.le_refl _) (.cells #[.int .i64 0, .int .i64 0, .slice aq3 0 cq3] 37))
  have t4 : MStep w2 (u4.alloc (.cells #[.int .i64 0, .int .i64 0, .slice aq3 0 cq3] 37)) L0 L4 := (t3.trans s4).then ((Below.refl u4.heap.size u4).alloc (Nat.le_refl _) _)
  have v4 : MStep w3d (u4.alloc (.cells #[.int .i64 0, .int .i64 0, .slice aq3 0 cq3] 37)) L3 L4 := s4.then ((Below.refl u4.heap.size u4).alloc (Nat.le_refl _) _)
  generalize u4.alloc (.cells #[.int .i64 0, .int .i64 0, .slice aq3 0 cq3] 37) = w4d at *
  have D4 := do_ex 4 (by decide) m4d (⟨5, ⟨#[]⟩, ⟨#[115]⟩, 0, ⟨#[]⟩, ⟨#[]⟩, 5, 0, 0⟩) rfl (⟨0, 1, [⟨0, ⟨#[112]⟩, 1, ⟨#[]⟩, ⟨#[118]⟩⟩]⟩) exR4 5 rfl
  rw [bL4] at D4
  refine wp_seq (reg_mono (eq_r9 (R := fun ao cp W => ∃ L', MAt W L' (exS 5) ∧ MStep w4d W L4 L' ∧ RecsAt W (.slice ao 1 cp) [⟨0, ⟨#[112]⟩, 1, ⟨#[]⟩, ⟨#[118]⟩⟩] ∧ ∀ g, (Value.slice ao 0 cp).ownBlock = some g → ¬ L'.own g) (by kernel_rfl) _ FD4 rfl D4 ?_))
  clear D4
  rintro a5 u5 aq4 cq4 FD5 ⟨L5, n5, s5, rc4, no4⟩
  try dsimp only at FD5
  have bL5 : L5.b = L0.b := s5.b.trans bL4
  have k5 := (k4.step s5).put n5 #[.int .i64 0, .int .i64 1, .slice aq4 1 cq4]
  have m5d := n5.below ((Below.refl u5.heap.size u5).alloc (Nat.le_refl _) (.cells #[.int .i64 0, .int .i64 1, .slice aq4 1 cq4] 37))
  have t5 : MStep w2 (u5.alloc (.cells #[.int .i64 0, .int .i64 1, .slice aq4 1 cq4] 37)) L0 L5 := (t4.trans s5).then ((Below.refl u5.heap.size u5).alloc (Nat.le_refl _) _)
  have v5 : MStep w4d (u5.alloc (.cells #[.int .i64 0, .int .i64 1, .slice aq4 1 cq4] 37)) L4 L5 := s5.then ((Below.refl u5.heap.size u5).alloc (Nat.le_refl _) _)
  have rc4b := rc4.below ((Below.refl u5.heap.size u5).alloc (Nat.le_refl _) (.cells #[.int .i64 0, .int .i64 1, .slice aq4 1 cq4] 37))
  generalize u5.alloc (.cells #[.int .i64 0, .int .i64 1, .slice aq4 1 cq4] 37) = w5d at *
  have D5 := do_ex 5 (by decide) m5d (⟨6, ⟨#[]⟩, ⟨#[115]⟩, 0, ⟨#[]⟩, ⟨#[]⟩, 0, 0, 0⟩) rfl (⟨0, 1, []⟩) exR5 6 rfl
  rw [bL5] at D5
  refine wp_seq (reg_mono (eq_r10 (R := fun ao cp W => ∃ L', MAt W L' (exS 6) ∧ MStep w5d W L5 L' ∧ RecsAt W (.slice ao 0 cp) [] ∧ ∀ g, (Value.slice ao 0 cp).ownBlock = some g → ¬ L'.own g) (by kernel_rfl) _ FD5 rfl D5 ?_))
  clear D5
  rintro a6 u6 aq5 cq5 FD6 ⟨L6, n6, s6, rc5, no5⟩
  try dsimp only at FD6
  have bL6 : L6.b = L0.b := s6.b.trans bL5
  have k6 := (k5.step s6).put n6 #[.int .i64 0, .int .i64 1, .slice aq5 0 cq5]
  have m6d := n6.below ((Below.refl u6.heap.size u6).alloc (Nat.le_refl _) (.cells #[.int .i64 0, .int .i64 1, .slice aq5 0 cq5] 37))
  have t6 : MStep w2 (u6.alloc (.cells #[.int .i64 0, .int .i64 1, .slice aq5 0 cq5] 37)) L0 L6 := (t5.trans s6).then ((Below.refl u6.heap.size u6).alloc (Nat.le_refl _) _)
  have v6 : MStep w5d (u6.alloc (.cells #[.int .i64 0, .int .i64 1, .slice aq5 0 cq5] 37)) L5 L6 := s6.then ((Below.refl u6.heap.size u6).alloc (Nat.le_refl _) _)
  generalize u6.alloc (.cells #[.int .i64 0, .int .i64 1, .slice aq5 0 cq5] 37) = w6d at *
  obtain ⟨ok6, cn6⟩ := exS_ok 6 (by decide)
  have A6 := papply m6d ok6 (by decide) (by rw [cn6]; decide) ⟨#[103, 97, 114, 98, 97, 103, 101]⟩ (by decide)
  rw [show applyM (exS 6) (⟨#[103, 97, 114, 98, 97, 103, 101]⟩ : ByteArray).data.toList = (codedM 1, (exS 6).tick exG) from exR6 _] at A6
  rw [bL6] at A6
  refine wp_seq (reg_mono (eq_r11 (R := fun ao cp W => ∃ L', MAt W L' ((exS 6).tick exG) ∧ MStep w6d W L6 L') (by kernel_rfl) _ FD6 rfl (A6.mono fun e u q => ?_) ?_))
  · obtain ⟨ao, cp, q1, q2, L', q3, q4, q5⟩ := q
    exact ⟨ao, cp, q1, L', q3, q4⟩
  rintro a7 u7 aq6 cq6 FD7 ⟨L7, n7, s7⟩
  try dsimp only at FD7
  have bL7 : L7.b = L0.b := s7.b.trans bL6
  have k7 := (k6.step s7).put n7 #[.int .i64 1, .int .i64 0, .slice aq6 0 cq6]
  have m7d := n7.below ((Below.refl u7.heap.size u7).alloc (Nat.le_refl _) (.cells #[.int .i64 1, .int .i64 0, .slice aq6 0 cq6] 37))
  have t7 : MStep w2 (u7.alloc (.cells #[.int .i64 1, .int .i64 0, .slice aq6 0 cq6] 37)) L0 L7 := (t6.trans s7).then ((Below.refl u7.heap.size u7).alloc (Nat.le_refl _) _)
  have v7 : MStep w6d (u7.alloc (.cells #[.int .i64 1, .int .i64 0, .slice aq6 0 cq6] 37)) L6 L7 := s7.then ((Below.refl u7.heap.size u7).alloc (Nat.le_refl _) _)
  generalize u7.alloc (.cells #[.int .i64 1, .int .i64 0, .slice aq6 0 cq6] 37) = w7d at *
  obtain ⟨H, hT, hfin⟩ := exT
  have TT : ((exS 6).tick exG).T (⟨#[97]⟩ : ByteArray).data.toList = some H := hT
  have TP := pmtopic m7d ⟨#[97]⟩ (by decide)
  rw [TT, bL7] at TP
  refine wp_seq (reg_mono (eq_r12 (by kernel_rfl) _ FD7 rfl TP ?_))
  intro a8 F8
  try dsimp only at F8
  have CT := pmcount m7d
  have cn7 : ((exS 6).tick exG).cnt = 7 := by show (exS 6).cnt + 1 = 7; rw [cn6]
  rw [cn7, bL7] at CT
  have EN := tend (m7d.top _ H TT)
  rw [hfin] at EN
  have WN := pmwanted m7d
  have wl : (wlist ((exS 6).tick exG).wan).length = 3 := by
    show (wlist (exS 6).wan).length = 3
    rw [exW]
    rfl
  rw [wl, bL7] at WN
  obtain ⟨gq, oq, hao, hgl, hgc⟩ : ∃ gq oq, aq4 = some ⟨gq, oq, none⟩ ∧ gq < w5d.heap.size ∧ w5d.cell? ⟨gq, oq + 4, none⟩ = some (.string ⟨#[118]⟩) := by
    obtain ⟨ao', cap, hv, hc, hi⟩ := rc4b
    injection hv with e1 e2 e3
    subst e1 e3
    obtain ⟨gq, oq, h1, h2, h3⟩ := hi 0 (by decide)
    exact ⟨gq, oq, h1, h2, h3 4 (by decide)⟩
  have gown : ¬ L5.own gq := no4 gq (by rw [hao]; rfl)
  have kv : w7d.cell? ⟨gq, oq + 4, none⟩ = some (.string ⟨#[118]⟩) := (v6.trans v7).touch.cell _ hgc gown
  have x0 := k7.at_ _ (List.Mem.tail _ (List.Mem.tail _ (List.Mem.tail _ (List.Mem.tail _ (List.Mem.tail _ (List.Mem.tail _ (List.Mem.head _)))))))
  have x1 := k7.at_ _ (List.Mem.tail _ (List.Mem.tail _ (List.Mem.tail _ (List.Mem.tail _ (List.Mem.tail _ (List.Mem.head _))))))
  have x2 := k7.at_ _ (List.Mem.tail _ (List.Mem.tail _ (List.Mem.tail _ (List.Mem.tail _ (List.Mem.head _)))))
  have x3 := k7.at_ _ (List.Mem.tail _ (List.Mem.tail _ (List.Mem.tail _ (List.Mem.head _))))
  have x4 := k7.at_ _ (List.Mem.tail _ (List.Mem.tail _ (List.Mem.head _)))
  have x5 := k7.at_ _ (List.Mem.tail _ (List.Mem.head _))
  have x6 := k7.at_ _ (List.Mem.head _)
  refine wp_seq (reg_mono (eq_r13 (by kernel_rfl) _ F8 rfl rfl rfl rfl rfl rfl rfl rfl rfl rfl x0 x1 x2 x3 x4 x5 x6 hao kv CT EN (WN.mono fun e u q => by obtain ⟨ao, cp, q1, q2, q3⟩ := q; exact ⟨ao, cp, q1, q3⟩) ?_))
  intro a9 w9 F9 b9
  try dsimp only at F9
  refine wp_ret ?_
  have bz : Below w.heap.size w w7d := B2.trans (t7.touch.toBelow B2.size fun k hk e => by have := o0 k e; omega)
  exact eq_ret F9 rfl ⟨rfl, bz.trans (b9.mono bz.size)⟩
end Go.Proofs.YtlfodldlkchmoaaGreat.Y
