/-
  MachineAgree, as it runs (mkj25.py).
-/
import Derived.Test.YtlfodldlkchmoaaGreatZJ20
import Derived.Shelf.SlIter.Nil
import Derived.Shelf.SortM.Plain
import Derived.Shelf.SortM.SortNone
import Derived.Test.YtlfodldlkchmoaaGreatProg
import Derived.Test.YtlfodldlkchmoaaGreatZJ10
import Derived.Sort.OwnSorted
import Derived.Laws.StructEq
import Derived.Deep.QuietTactic
import Derived.Test.YtlfodldlkchmoaaGreatZJ18
import Derived.Test.YtlfodldlkchmoaaGreatZYC5
namespace Go.Proofs.YtlfodldlkchmoaaGreat.Y
open Go.RowKit
set_option maxHeartbeats 8000000
set_option maxRecDepth 100000
attribute [local go_sem ↓] Go.wp_at_zero Go.wp_at_succ
set_option linter.unusedSimpArgs false
set_option linter.unusedVariables false
open Go.Maps
theorem pexamples (w : World) : Calls Tryz.prog 8 #[] w fun e w' => e = .returned (.bool true) ∧ Below w.heap.size w w' := by
  go_enter Tryz.func8, Tryz.ntmps8
  refine wp_seq (reg_mono (eq_r0 (by kernel_rfl) _ (v := ⟨_, _, _, _, _, _, _, _, _, _, _, _, _⟩) ⟨rfl, rfl, rfl, rfl, rfl, rfl, rfl, rfl, rfl, rfl, rfl, rfl, rfl, rfl, rfl⟩ ?_))
  intro a0 F0
  try dsimp only at F0
  refine wp_seq (reg_mono (eq_r1 (R := fun L W => MAt W L (exS 0) ∧ Below w.heap.size w W ∧ ∀ j, L.own j → w.heap.size ≤ j) (by kernel_rfl) _ F0 ((pmnew 3 w).mono fun e u q => ?_) ?_))
  · rcases q with ⟨q1, _⟩ | ⟨_, _, L, q1, q2, q3, q4⟩
    · exact absurd ⟨by decide, by decide⟩ q1
    · exact ⟨L, q1, q2, q3, q4⟩
  rintro a1 w1 L0 F1 ⟨m0, b1, o0⟩
  try dsimp only at F1
  refine wp_seq (reg_mono (eq_r2 (by kernel_rfl) _ F1 ((pmnew 8 w1).mono fun e u q => ?_) ?_))
  · rcases q with ⟨_, q1, q2⟩ | ⟨_, q1, _⟩
    · exact ⟨q1, q2⟩
    · exact absurd q1 (by decide)
  intro a2 w2 F2 b2
  try dsimp only at F2
  have m2 := m0.below b2
  have B2 := b1.trans (b2.mono b1.size)
  refine wp_seq (wp_seq (reg_mono (eq_r3 (by kernel_rfl) _ F2 rfl rfl rfl ?_)))
  intro a3 F3 g3
  refine wp_cond_false g3 (wp_skip ?_)
  show Code.wp _ _ _ _ _
  have S0 : MStep w2 w2 L0 L0 := MStep.refl _ _
  have bL0 : L0.b = L0.b := rfl
  have K0 : Beside w2 L0 37 [] := Beside.nil _ _ _
  have D0 := do_ex 0 (by decide) m2 (⟨1, ⟨#[97]⟩, ⟨#[]⟩, 0, ⟨#[]⟩, ⟨#[]⟩, 0, 0, 0⟩) rfl (⟨0, 0, []⟩) exR0 1 rfl
  rw [bL0] at D0
  refine wp_seq (reg_mono (eq_r5 (R := fun ao cp W => ∃ L', MAt W L' (exS 1) ∧ MStep w2 W L0 L' ∧ RecsAt W (.slice ao 0 cp) [] ∧ ∀ g, (Value.slice ao 0 cp).ownBlock = some g → ¬ L'.own g) (by kernel_rfl) _ F3 rfl D0 ?_))
  clear D0
  rintro a1 u1 aq0 cq0 FD1 ⟨L1, n1, s1, rc0, no0⟩
  try dsimp only at FD1
  have bL1 : L1.b = L0.b := s1.b.trans bL0
  have k1 := (K0.step s1).put n1 #[.int .i64 0, .int .i64 0, .slice aq0 0 cq0]
  have m1d := n1.below ((Below.refl u1.heap.size u1).alloc (Nat.le_refl _) (.cells #[.int .i64 0, .int .i64 0, .slice aq0 0 cq0] 37))
  have t1 : MStep w2 (u1.alloc (.cells #[.int .i64 0, .int .i64 0, .slice aq0 0 cq0] 37)) L0 L1 := (S0.trans s1).then ((Below.refl u1.heap.size u1).alloc (Nat.le_refl _) _)
  have v1 : MStep w2 (u1.alloc (.cells #[.int .i64 0, .int .i64 0, .slice aq0 0 cq0] 37)) L0 L1 := s1.then ((Below.refl u1.heap.size u1).alloc (Nat.le_refl _) _)
  generalize u1.alloc (.cells #[.int .i64 0, .int .i64 0, .slice aq0 0 cq0] 37) = w1d at *
  have D1 := do_ex 1 (by decide) m1d (⟨1, ⟨#[97]⟩, ⟨#[]⟩, 0, ⟨#[]⟩, ⟨#[]⟩, 0, 0, 0⟩) rfl (⟨4, 0, []⟩) exR1 2 rfl
  rw [bL1] at D1
  refine wp_seq (reg_mono (eq_r6 (R := fun ao cp W => ∃ L', MAt W L' (exS 2) ∧ MStep w1d W L1 L' ∧ RecsAt W (.slice ao 0 cp) [] ∧ ∀ g, (Value.slice ao 0 cp).ownBlock = some g → ¬ L'.own g) (by kernel_rfl) _ FD1 rfl D1 ?_))
  clear D1
  rintro a2 u2 aq1 cq1 FD2 ⟨L2, n2, s2, rc1, no1⟩
  try dsimp only at FD2
  have bL2 : L2.b = L0.b := s2.b.trans bL1
  have k2 := (k1.step s2).put n2 #[.int .i64 4, .int .i64 0, .slice aq1 0 cq1]
  have m2d := n2.below ((Below.refl u2.heap.size u2).alloc (Nat.le_refl _) (.cells #[.int .i64 4, .int .i64 0, .slice aq1 0 cq1] 37))
  have t2 : MStep w2 (u2.alloc (.cells #[.int .i64 4, .int .i64 0, .slice aq1 0 cq1] 37)) L0 L2 := (t1.trans s2).then ((Below.refl u2.heap.size u2).alloc (Nat.le_refl _) _)
  have v2 : MStep w1d (u2.alloc (.cells #[.int .i64 4, .int .i64 0, .slice aq1 0 cq1] 37)) L1 L2 := s2.then ((Below.refl u2.heap.size u2).alloc (Nat.le_refl _) _)
  generalize u2.alloc (.cells #[.int .i64 4, .int .i64 0, .slice aq1 0 cq1] 37) = w2d at *
  have D2 := do_ex 2 (by decide) m2d (⟨2, ⟨#[97]⟩, ⟨#[112]⟩, 1, ⟨#[]⟩, ⟨#[118]⟩, 0, 0, 0⟩) rfl (⟨0, 0, []⟩) exR2 3 rfl
  rw [bL2] at D2
  refine wp_seq (reg_mono (eq_r7 (R := fun ao cp W => ∃ L', MAt W L' (exS 3) ∧ MStep w2d W L2 L' ∧ RecsAt W (.slice ao 0 cp) [] ∧ ∀ g, (Value.slice ao 0 cp).ownBlock = some g → ¬ L'.own g) (by kernel_rfl) _ FD2 rfl D2 ?_))
  clear D2
  rintro a3 u3 aq2 cq2 FD3 ⟨L3, n3, s3, rc2, no2⟩
  try dsimp only at FD3
  have bL3 : L3.b = L0.b := s3.b.trans bL2
  have k3 := (k2.step s3).put n3 #[.int .i64 0, .int .i64 0, .slice aq2 0 cq2]
  have m3d := n3.below ((Below.refl u3.heap.size u3).alloc (Nat.le_refl _) (.cells #[.int .i64 0, .int .i64 0, .slice aq2 0 cq2] 37))
  have t3 : MStep w2 (u3.alloc (.cells #[.int .i64 0, .int .i64 0, .slice aq2 0 cq2] 37)) L0 L3 := (t2.trans s3).then ((Below.refl u3.heap.size u3).alloc (Nat.le_refl _) _)
  have v3 : MStep w2d (u3.alloc (.cells #[.int .i64 0, .int .i64 0, .slice aq2 0 cq2] 37)) L2 L3 := s3.then ((Below.refl u3.heap.size u3).alloc (Nat.le_refl _) _)
  generalize u3.alloc (.cells #[.int .i64 0, .int .i64 0, .slice aq2 0 cq2] 37) = w3d at *
  have D3 := do_ex 3 (by decide) m3d (⟨3, ⟨#[97]⟩, ⟨#[115]⟩, 0, ⟨#[]⟩, ⟨#[]⟩, 0, 0, 0⟩) rfl (⟨0, 0, []⟩) exR3 4 rfl
  rw [bL3] at D3
  refine wp_seq (reg_mono (eq_r8 (R := fun ao cp W => ∃ L', MAt W L' (exS 4) ∧ MStep w3d W L3 L' ∧ RecsAt W (.slice ao 0 cp) [] ∧ ∀ g, (Value.slice ao 0 cp).ownBlock = some g → ¬ L'.own g) (by kernel_rfl) _ FD3 rfl D3 ?_))
  clear D3
  rintro a4 u4 aq3 cq3 FD4 ⟨L4, n4, s4, rc3, no3⟩
  try dsimp only at FD4
  have bL4 : L4.b = L0.b := s4.b.trans bL3
  have k4 := (k3.step s4).put n4 #[.int .i64 0, .int .i64 0, .slice aq3 0 cq3]
  have m4d := n4.below ((Below.refl u4.heap.size u4).alloc (Nat.le_refl _) (.cells #[.int .i64 0, .int .i64 0, .slice aq3 0 cq3] 37))
  have t4 : MStep w2 (u4.alloc (.cells #[.int .i64 0, .int .i64 0, .slice aq3 0 cq3] 37)) L0 L4 := (t3.trans s4).then ((Below.refl u4.heap.size u4).alloc (Nat.le_refl _) _)
  have v4 : MStep w3d (u4.alloc (.cells #[.int .i64 0, .int .i64 0, .slice aq3 0 cq3] 37)) L3 L4 := s4.then ((Below.refl u4.heap.size u4).alloc (Nat.le_refl _) _)
  generalize u4.alloc (.cells #[.int .i64 0, .int .i64 0, .slice aq3 0 cq3] 37) = w4d at *
  have D4 := do_ex 4 (by decide) m4d (⟨5, ⟨#[]⟩, ⟨#[115]⟩, 0, ⟨#[]⟩, ⟨#[]⟩, 5, 0, 0⟩) rfl (⟨0, 1, [⟨0, ⟨#[112]⟩, 1, ⟨#[]⟩, ⟨#[118]⟩⟩]⟩) exR4 5 rfl
  rw [bL4] at D4
  refine wp_seq (reg_mono (eq_r9 (R := fun ao cp W => ∃ L', MAt W L' (exS 5) ∧ MStep w4d W L4 L' ∧ RecsAt W (.slice ao 1 cp) [⟨0, ⟨#[112]⟩, 1, ⟨#[]⟩, ⟨#[118]⟩⟩] ∧ ∀ g, (Value.slice ao 0 cp).ownBlock = some g → ¬ L'.own g) (by kernel_rfl) _ FD4 rfl D4 ?_))
  clear D4
  rintro a5 u5 aq4 cq4 FD5 ⟨L5, n5, s5, rc4, no4⟩
  try dsimp only at FD5
  have bL5 : L5.b = L0.b := s5.b.trans bL4
  have k5 := (k4.step s5).put n5 #[.int .i64 0, .int .i64 1, .slice aq4 1 cq4]
  have m5d := n5.below ((Below.refl u5.heap.size u5).alloc (Nat.le_refl _) (.cells #[.int .i64 0, .int .i64 1, .slice aq4 1 cq4] 37))
  have t5 : MStep w2 (u5.alloc (.cells #[.int .i64 0, .int .i64 1, .slice aq4 1 cq4] 37)) L0 L5 := (t4.trans s5).then ((Below.refl u5.heap.size u5).alloc (Nat.le_refl _) _)
  have v5 : MStep w4d (u5.alloc (.cells #[.int .i64 0, .int .i64 1, .slice aq4 1 cq4] 37)) L4 L5 := s5.then ((Below.refl u5.heap.size u5).alloc (Nat.le_refl _) _)
  have rc4b := rc4.below ((Below.refl u5.heap.size u5).alloc (Nat.le_refl _) (.cells #[.int .i64 0, .int .i64 1, .slice aq4 1 cq4] 37))
  generalize u5.alloc (.cells #[.int .i64 0, .int .i64 1, .slice aq4 1 cq4] 37) = w5d at *
  have D5 := do_ex 5 (by decide) m5d (⟨6, ⟨#[]⟩, ⟨#[115]⟩, 0, ⟨#[]⟩, ⟨#[]⟩, 0, 0, 0⟩) rfl (⟨0, 1, []⟩) exR5 6 rfl
  rw [bL5] at D5
  refine wp_seq (reg_mono (eq_r10 (R := fun ao cp W => ∃ L', MAt W L' (exS 6) ∧ MStep w5d W L5 L' ∧ RecsAt W (.slice ao 0 cp) [] ∧ ∀ g, (Value.slice ao 0 cp).ownBlock = some g → ¬ L'.own g) (by kernel_rfl) _ FD5 rfl D5 ?_))
  clear D5
  rintro a6 u6 aq5 cq5 FD6 ⟨L6, n6, s6, rc5, no5⟩
  try dsimp only at FD6
  have bL6 : L6.b = L0.b := s6.b.trans bL5
  have k6 := (k5.step s6).put n6 #[.int .i64 0, .int .i64 1, .slice aq5 0 cq5]
  have m6d := n6.below ((Below.refl u6.heap.size u6).alloc (Nat.le_refl _) (.cells #[.int .i64 0, .int .i64 1, .slice aq5 0 cq5] 37))
  have t6 : MStep w2 (u6.alloc (.cells #[.int .i64 0, .int .i64 1, .slice aq5 0 cq5] 37)) L0 L6 := (t5.trans s6).then ((Below.refl u6.heap.size u6).alloc (Nat.le_refl _) _)
  have v6 : MStep w5d (u6.alloc (.cells #[.int .i64 0, .int .i64 1, .slice aq5 0 cq5] 37)) L5 L6 := s6.then ((Below.refl u6.heap.size u6).alloc (Nat.le_refl _) _)
  generalize u6.alloc (.cells #[.int .i64 0, .int .i64 1, .slice aq5 0 cq5] 37) = w6d at *
  obtain ⟨ok6, cn6⟩ := exS_ok 6 (by decide)
  have A6 := papply m6d ok6 (by decide) (by rw [cn6]; decide) ⟨#[103, 97, 114, 98, 97, 103, 101]⟩ (by decide)
  rw [show applyM (exS 6) (⟨#[103, 97, 114, 98, 97, 103, 101]⟩ : ByteArray).data.toList = (codedM 1, (exS 6).tick exG) from exR6 _] at A6
  rw [bL6] at A6
  refine wp_seq (reg_mono (eq_r11 (R := fun ao cp W => ∃ L', MAt W L' ((exS 6).tick exG) ∧ MStep w6d W L6 L') (by kernel_rfl) _ FD6 rfl (A6.mono fun e u q => ?_) ?_))
  · obtain ⟨ao, cp, q1, q2, L', q3, q4, q5⟩ := q
    exact ⟨ao, cp, q1, L', q3, q4⟩
  rintro a7 u7 aq6 cq6 FD7 ⟨L7, n7, s7⟩
  try dsimp only at FD7
  have bL7 : L7.b = L0.b := s7.b.trans bL6
  have k7 := (k6.step s7).put n7 #[.int .i64 1, .int .i64 0, .slice aq6 0 cq6]
  have m7d := n7.below ((Below.refl u7.heap.size u7).alloc (Nat.le_refl _) (.cells #[.int .i64 1, .int .i64 0, .slice aq6 0 cq6] 37))
  have t7 : MStep w2 (u7.alloc (.cells #[.int .i64 1, .int .i64 0, .slice aq6 0 cq6] 37)) L0 L7 := (t6.trans s7).then ((Below.refl u7.heap.size u7).alloc (Nat.le_refl _) _)
  have v7 : MStep w6d (u7.alloc (.cells #[.int .i64 1, .int .i64 0, .slice aq6 0 cq6] 37)) L6 L7 := s7.then ((Below.refl u7.heap.size u7).alloc (Nat.le_refl _) _)
  generalize u7.alloc (.cells #[.int .i64 1, .int .i64 0, .slice aq6 0 cq6] 37) = w7d at *
  obtain ⟨H, hT, hfin⟩ := exT
  have TT : ((exS 6).tick exG).T (⟨#[97]⟩ : ByteArray).data.toList = some H := hT
  have TP := pmtopic m7d ⟨#[97]⟩ (by decide)
  rw [TT, bL7] at TP
  refine wp_seq (reg_mono (eq_r12 (by kernel_rfl) _ FD7 rfl TP ?_))
  intro a8 F8
  try dsimp only at F8
  have CT := pmcount m7d
  have cn7 : ((exS 6).tick exG).cnt = 7 := by show (exS 6).cnt + 1 = 7; rw [cn6]
  rw [cn7, bL7] at CT
  have EN := tend (m7d.top _ H TT)
  rw [hfin] at EN
  have WN := pmwanted m7d
  have wl : (wlist ((exS 6).tick exG).wan).length = 3 := by
    show (wlist (exS 6).wan).length = 3
    rw [exW]
    rfl
  rw [wl, bL7] at WN
  obtain ⟨gq, oq, hao, hgl, hgc⟩ : ∃ gq oq, aq4 = some ⟨gq, oq, none⟩ ∧ gq < w5d.heap.size ∧ w5d.cell? ⟨gq, oq + 4, none⟩ = some (.string ⟨#[118]⟩) := by
    obtain ⟨ao', cap, hv, hc, hi⟩ := rc4b
    injection hv with e1 e2 e3
    subst e1 e3
    obtain ⟨gq, oq, h1, h2, h3⟩ := hi 0 (by decide)
    exact ⟨gq, oq, h1, h2, h3 4 (by decide)⟩
  have gown : ¬ L5.own gq := no4 gq (by rw [hao]; rfl)
  have kv : w7d.cell? ⟨gq, oq + 4, none⟩ = some (.string ⟨#[118]⟩) := (v6.trans v7).touch.cell _ hgc gown
  have x0 := k7.at_ _ (List.Mem.tail _ (List.Mem.tail _ (List.Mem.tail _ (List.Mem.tail _ (List.Mem.tail _ (List.Mem.tail _ (List.Mem.head _)))))))
  have x1 := k7.at_ _ (List.Mem.tail _ (List.Mem.tail _ (List.Mem.tail _ (List.Mem.tail _ (List.Mem.tail _ (List.Mem.head _))))))
  have x2 := k7.at_ _ (List.Mem.tail _ (List.Mem.tail _ (List.Mem.tail _ (List.Mem.tail _ (List.Mem.head _)))))
  have x3 := k7.at_ _ (List.Mem.tail _ (List.Mem.tail _ (List.Mem.tail _ (List.Mem.head _))))
  have x4 := k7.at_ _ (List.Mem.tail _ (List.Mem.tail _ (List.Mem.head _)))
  have x5 := k7.at_ _ (List.Mem.tail _ (List.Mem.head _))
  have x6 := k7.at_ _ (List.Mem.head _)
  refine wp_seq (reg_mono (eq_r13 (by kernel_rfl) _ F8 rfl rfl rfl rfl rfl rfl rfl rfl rfl rfl x0 x1 x2 x3 x4 x5 x6 hao kv CT EN (WN.mono fun e u q => by obtain ⟨ao, cp, q1, q2, q3⟩ := q; exact ⟨ao, cp, q1, q3⟩) ?_))
  intro a9 w9 F9 b9
  try dsimp only at F9
  refine wp_ret ?_
  have bz : Below w.heap.size w w7d := B2.trans (t7.touch.toBelow B2.size fun k hk e => by have := o0 k e; omega)
  exact eq_ret F9 rfl ⟨rfl, bz.trans (b9.mono bz.size)⟩
end Go.Proofs.YtlfodldlkchmoaaGreat.Y
namespace Go.Proofs
open Go.Shelf
end Go.Proofs
namespace Go.Proofs.YtlfodldlkchmoaaGreat.Y
open Go.RowKit
attribute [local go_sem ↓] Go.wp_at_zero Go.wp_at_succ
set_option linter.unusedSimpArgs false
set_option linter.unusedVariables false
open Go.Maps Go.Sort Go.Shelf
structure Vmv where
  v0 : Value
  v2 : Value
  v3 : Value
  v4 : Value
  v5 : Value
  v12 : Value
  v13 : Value
  v14 : Value
structure Fmv (a : Act) (v : Vmv) : Prop where
  size : a.tmps.size = 26
  defers : a.defers = []
  s0 : a.tmps.getD 0 undef = v.v0
  s2 : a.tmps.getD 2 undef = v.v2
  s3 : a.tmps.getD 3 undef = v.v3
  s4 : a.tmps.getD 4 undef = v.v4
  s5 : a.tmps.getD 5 undef = v.v5
  s12 : a.tmps.getD 12 undef = v.v12
  s13 : a.tmps.getD 13 undef = v.v13
  s14 : a.tmps.getD 14 undef = v.v14
end Go.Proofs.YtlfodldlkchmoaaGreat.Y
namespace Go.Proofs.YtlfodldlkchmoaaGreat.Y
open Go.RowKit
set_option maxHeartbeats 8000000
set_option maxRecDepth 100000
attribute [local go_sem ↓] Go.wp_at_zero Go.wp_at_succ
set_option linter.unusedSimpArgs false
set_option linter.unusedVariables false
open Go.Maps
theorem frame_mr (t : Array Value) (h : t.size = 45) : ∃ u : Nat → Value, t = List.toArray (u 0 :: u 1 :: u 2 :: u 3 :: u 4 :: u 5 :: u 6 :: u 7 :: u 8 :: u 9 :: u 10 :: u 11 :: u 12 :: u 13 :: u 14 :: u 15 :: u 16 :: u 17 :: u 18 :: u 19 :: u 20 :: u 21 :: u 22 :: u 23 :: u 24 :: u 25 :: u 26 :: u 27 :: u 28 :: u 29 :: u 30 :: u 31 :: u 32 :: u 33 :: u 34 :: u 35 :: u 36 :: u 37 :: u 38 :: u 39 :: u 40 :: u 41 :: u 42 :: u 43 :: u 44 :: []) := by
  refine ⟨fun i => t.getD i undef, ?_⟩
  refine Eq.trans (b := ((List.range 45).map fun i => t.getD i undef).toArray) ?_ rfl
  apply Array.ext
  · simp [h]
  · intro k h1 h2
    simp [Array.getD, h1]
structure Vmr where
  v0 : Value
  v1 : Value
  v2 : Value
  v3 : Value
  v4 : Value
  v5 : Value
structure Fmr (a : Act) (v : Vmr) : Prop where
  size : a.tmps.size = 45
  defers : a.defers = []
  s0 : a.tmps.getD 0 undef = v.v0
  s1 : a.tmps.getD 1 undef = v.v1
  s2 : a.tmps.getD 2 undef = v.v2
  s3 : a.tmps.getD 3 undef = v.v3
  s4 : a.tmps.getD 4 undef = v.v4
  s5 : a.tmps.getD 5 undef = v.v5
theorem frx_mr {a : Act} {v0 v1 v2 v3 v4 v5 : Value} (h : Fmr a ⟨v0, v1, v2, v3, v4, v5⟩) : ∃ u : Nat → Value, a = ⟨List.toArray (v0 :: v1 :: v2 :: v3 :: v4 :: v5 :: u 6 :: u 7 :: u 8 :: u 9 :: u 10 :: u 11 :: u 12 :: u 13 :: u 14 :: u 15 :: u 16 :: u 17 :: u 18 :: u 19 :: u 20 :: u 21 :: u 22 :: u 23 :: u 24 :: u 25 :: u 26 :: u 27 :: u 28 :: u 29 :: u 30 :: u 31 :: u 32 :: u 33 :: u 34 :: u 35 :: u 36 :: u 37 :: u 38 :: u 39 :: u 40 :: u 41 :: u 42 :: u 43 :: u 44 :: []), []⟩ := by
  obtain ⟨t', d'⟩ := a
  obtain ⟨hs, hd, q0, q1, q2, q3, q4, q5⟩ := h
  obtain ⟨u, hu⟩ := frame_mr t' hs
  simp only at hd q0 q1 q2 q3 q4 q5
  subst hu hd
  have e0 : u 0 = v0 := q0
  have e1 : u 1 = v1 := q1
  have e2 : u 2 = v2 := q2
  have e3 : u 3 = v3 := q3
  have e4 : u 4 = v4 := q4
  have e5 : u 5 = v5 := q5
  refine ⟨u, ?_⟩
  rw [e0, e1, e2, e3, e4, e5]
theorem mr_r0 {K : Act → World → Prop} {c : Code} (hc : regOf (Tryz.f14.body.getD .skip) 0 = some c) (a : Act) {v : Vmr} {wq : World} {n pc qc : Nat} {po qo : Option Addr} {x y : Int} (hF : Fmr a v) (h0v : v.v0 = .agg #[.int .i64 x, .int .i64 y, .slice po n pc]) (h1v : v.v1 = .agg #[.int .i64 x, .int .i64 y, .slice qo n qc]) (hQ : ∀ a', Fmr a' { v with v2 := .pointer (some ⟨wq.heap.size, 0, none⟩), v3 := .pointer (some ⟨wq.heap.size + 1, 0, none⟩), v4 := .bool false } → K a' ((wq.alloc (.cells #[.int .i64 x, .int .i64 y, .slice po n pc] 37)).alloc (.cells #[.int .i64 x, .int .i64 y, .slice qo n qc] 37))) :
    Code.wp Tryz.prog c (Exit.then K fun _ _ _ => False) a wq := by
  have HQ := hide hQ
  clear hQ
  obtain ⟨v0, v1, v2, v3, v4, v5⟩ := v
  simp only at h0v h1v HQ
  subst h0v h1v
  obtain ⟨u, rfl⟩ := frx_mr hF
  clear hF
  simp only [Tryz.f14, Option.getD_some, regOf] at hc
  injection hc with hc
  subst hc
  go_wp2
  exact HQ.out _ ⟨rfl, rfl, rfl, rfl, rfl, rfl, rfl, rfl⟩
theorem mr_r1 {K : Act → World → Prop} {c : Code} (hc : regOf (Tryz.f14.body.getD .skip) 1 = some c) (a : Act) {v : Vmr} {wq : World} {b1 b2 n pc qc : Nat} {po qo : Option Addr} {x y : Int} (hF : Fmr a v) (h2v : v.v2 = .pointer (some ⟨b1, 0, none⟩)) (h3v : v.v3 = .pointer (some ⟨b2, 0, none⟩)) (h1 : wq.heap[b1]? = some (.cells #[.int .i64 x, .int .i64 y, .slice po n pc] 37 (0, 0))) (h2 : wq.heap[b2]? = some (.cells #[.int .i64 x, .int .i64 y, .slice qo n qc] 37 (0, 0)))
    (hQ : ∀ a', Fmr a' v → a'.tmps.getD 26 undef = .bool false → K a' wq) :
    Code.wp Tryz.prog c (Exit.then K fun _ _ _ => False) a wq := by
  have HQ := hide hQ
  clear hQ
  obtain ⟨v0, v1, v2, v3, v4, v5⟩ := v
  simp only at h2v h3v HQ
  subst h2v h3v
  obtain ⟨u, rfl⟩ := frx_mr hF
  clear hF
  simp only [Tryz.f14, Option.getD_some, regOf] at hc
  injection hc with hc
  subst hc
  have u0 := box_cell h1 0 rfl
  have t0 := box_cell h2 0 rfl
  have u1 := box_cell h1 1 rfl
  have t1 := box_cell h2 1 rfl
  have u2 := box_cell h1 2 rfl
  have t2 := box_cell h2 2 rfl
  clear h1 h2
  go_wp2
  exact HQ.out _ ⟨rfl, rfl, rfl, rfl, rfl, rfl, rfl, rfl⟩ (by first | rfl | (simp; done))
theorem mr_r3 {K : Act → World → Prop} {c : Code} (hc : regOf (Tryz.f14.body.getD .skip) 3 = some c) (a : Act) {v : Vmr} {wq : World}  (hF : Fmr a v) (hQ : ∀ a', Fmr a' { v with v5 := .int .i64 ((0 : Nat) : Int) } → K a' wq) :
    Code.wp Tryz.prog c (Exit.then K fun _ _ _ => False) a wq := by
  have HQ := hide hQ
  clear hQ
  obtain ⟨v0, v1, v2, v3, v4, v5⟩ := v
  obtain ⟨u, rfl⟩ := frx_mr hF
  clear hF
  simp only [Tryz.f14, Option.getD_some, regOf] at hc
  injection hc with hc
  subst hc
  go_wp2
  exact HQ.out _ ⟨rfl, rfl, rfl, rfl, rfl, rfl, rfl, rfl⟩
theorem mr_r4 {K : Act → World → Prop} {c : Code} (hc : regOf (Tryz.f14.body.getD .skip) 4 = some c) (a : Act) {v : Vmr} {wq : World} {b1 b2 n pc qc : Nat} {po qo : Option Addr} {x y : Int} {k : Nat} (hF : Fmr a v) (h2v : v.v2 = .pointer (some ⟨b1, 0, none⟩)) (h3v : v.v3 = .pointer (some ⟨b2, 0, none⟩)) (h5v : v.v5 = .int .i64 (k : Int)) (h1 : wq.heap[b1]? = some (.cells #[.int .i64 x, .int .i64 y, .slice po n pc] 37 (0, 0))) (h2 : wq.heap[b2]? = some (.cells #[.int .i64 x, .int .i64 y, .slice qo n qc] 37 (0, 0)))
    (hQ : ∀ a', Fmr a' v → a'.tmps.getD 31 undef = .bool (decide ((k : Int) < (n : Int))) → K a' wq) :
    Code.wp Tryz.prog c (Exit.then K fun _ _ _ => False) a wq := by
  have HQ := hide hQ
  clear hQ
  obtain ⟨v0, v1, v2, v3, v4, v5⟩ := v
  simp only at h2v h3v h5v HQ
  subst h2v h3v h5v
  obtain ⟨u, rfl⟩ := frx_mr hF
  clear hF
  simp only [Tryz.f14, Option.getD_some, regOf] at hc
  injection hc with hc
  subst hc
  have u0 := box_cell h1 0 rfl
  have t0 := box_cell h2 0 rfl
  have u1 := box_cell h1 1 rfl
  have t1 := box_cell h2 1 rfl
  have u2 := box_cell h1 2 rfl
  have t2 := box_cell h2 2 rfl
  clear h1 h2
  go_wp2
  exact HQ.out _ ⟨rfl, rfl, rfl, rfl, rfl, rfl, rfl, rfl⟩ (by first | rfl | (simp; done))
theorem mr_r6 {K : Act → World → Prop} {c : Code} (hc : regOf (Tryz.f14.body.getD .skip) 6 = some c) (a : Act) {v : Vmr} {wq : World} {b1 b2 n pc qc k pb pf qb qf : Nat} {x y : Int} {r : Rec} (hF : Fmr a v) (h2v : v.v2 = .pointer (some ⟨b1, 0, none⟩)) (h3v : v.v3 = .pointer (some ⟨b2, 0, none⟩)) (h5v : v.v5 = .int .i64 (k : Int)) (h1 : wq.heap[b1]? = some (.cells #[.int .i64 x, .int .i64 y, .slice (some ⟨pb, pf, none⟩) n pc] 37 (0, 0))) (h2 : wq.heap[b2]? = some (.cells #[.int .i64 x, .int .i64 y, .slice (some ⟨qb, qf, none⟩) n qc] 37 (0, 0))) (hk : k < n) (p0 : wq.cell? ⟨pb, pf + k * 5, none⟩ = some (.int .i64 r.off)) (p1 : wq.cell? ⟨pb, pf + k * 5 + 1, none⟩ = some (.string r.prod)) (p2 : wq.cell? ⟨pb, pf + k * 5 + 2, none⟩ = some (.int .i64 r.seq)) (p3 : wq.cell? ⟨pb, pf + k * 5 + 3, none⟩ = some (.string r.key)) (p4 : wq.cell? ⟨pb, pf + k * 5 + 4, none⟩ = some (.string r.val)) (q0 : wq.cell? ⟨qb, qf + k * 5, none⟩ = some (.int .i64 r.off)) (q1 : wq.cell? ⟨qb, qf + k * 5 + 1, none⟩ = some (.string r.prod)) (q2 : wq.cell? ⟨qb, qf + k * 5 + 2, none⟩ = some (.int .i64 r.seq)) (q3 : wq.cell? ⟨qb, qf + k * 5 + 3, none⟩ = some (.string r.key)) (q4 : wq.cell? ⟨qb, qf + k * 5 + 4, none⟩ = some (.string r.val))
    (hQ : ∀ a' nn, Fmr a' v → a'.tmps.getD 44 undef = .bool false → K a' (wq.drewN nn)) :
    Code.wp Tryz.prog c (Exit.then K fun _ _ _ => False) a wq := by
  have HQ := hide hQ
  clear hQ
  obtain ⟨v0, v1, v2, v3, v4, v5⟩ := v
  simp only at h2v h3v h5v HQ
  subst h2v h3v h5v
  obtain ⟨u, rfl⟩ := frx_mr hF
  clear hF
  simp only [Tryz.f14, Option.getD_some, regOf] at hc
  injection hc with hc
  subst hc
  have u0 := box_cell h1 0 rfl
  have t0 := box_cell h2 0 rfl
  have u1 := box_cell h1 1 rfl
  have t1 := box_cell h2 1 rfl
  have u2 := box_cell h1 2 rfl
  have t2 := box_cell h2 2 rfl
  clear h1 h2
  have i0 : (0 : Int) ≤ (k : Int) := by omega
  have i1 : (k : Int) < (n : Int) := by omega
  obtain ⟨xo, xp, xs, xk, xv⟩ := r
  simp only at p0 p1 p2 p3 p4 q0 q1 q2 q3 q4
  go_wp2
  go_quiet (fail)
  go_wp2
  exact HQ.out _ _ ⟨rfl, rfl, rfl, rfl, rfl, rfl, rfl, rfl⟩ (by first | rfl | (simp; done))
theorem mr_r5 {K : Act → World → Prop} {c : Code} (hc : regOf (Tryz.f14.body.getD .skip) 5 = some c) (a : Act) {v : Vmr} {wq : World} {i : Nat} (hF : Fmr a v) (h5v : v.v5 = .int .i64 (i : Int)) (hi : i ≤ 1000000)
    (hQ : ∀ a', Fmr a' { v with v5 := .int .i64 ((i + 1 : Nat) : Int) } → K a' wq) :
    Code.wp Tryz.prog c (Exit.then K fun _ _ _ => False) a wq := by
  have HQ := hide hQ
  clear hQ
  obtain ⟨v0, v1, v2, v3, v4, v5⟩ := v
  simp only at h5v HQ
  subst h5v
  obtain ⟨u, rfl⟩ := frx_mr hF
  clear hF
  simp only [Tryz.f14, Option.getD_some, regOf] at hc
  injection hc with hc
  subst hc
  go_wp2
  exact HQ.out _ ⟨rfl, rfl, rfl, rfl, rfl, rfl, rfl, (by first | rfl | (simp; done) | (go_num; done))⟩
theorem mr_r8 {K : Act → World → Prop} {c : Code} (hc : regOf (Tryz.f14.body.getD .skip) 8 = some c) (a : Act) {v : Vmr} {wq : World}  (hF : Fmr a v) (hQ : ∀ a', Fmr a' { v with v4 := .bool true } → K a' wq) :
    Code.wp Tryz.prog c (Exit.then K fun _ _ _ => False) a wq := by
  have HQ := hide hQ
  clear hQ
  obtain ⟨v0, v1, v2, v3, v4, v5⟩ := v
  obtain ⟨u, rfl⟩ := frx_mr hF
  clear hF
  simp only [Tryz.f14, Option.getD_some, regOf] at hc
  injection hc with hc
  subst hc
  go_wp2
  exact HQ.out _ ⟨rfl, rfl, rfl, rfl, rfl, rfl, rfl, rfl⟩
theorem mr_ret {W : World} {a : Act} {v : Vmr} {x : Value} {R : Ending → World → Prop} (hF : Fmr a v) (h2 : v.v4 = x) (h : R (.returned x) W) : bodyPost Tryz.prog Tryz.f14 R .ret a W := by
  have g0 := slot_get (hF.s4.trans h2)
  refine bodyPost_ret (v := x) ?_ hF.defers h
  simp [results, Tryz.results14, go_sem, g0]
theorem preplies {w : World} (l : List Rec) (hl : l.length ≤ 100000) (x y : Int) (po qo : Option Addr) (pc qc : Nat) (hp : RecsAt w (.slice po l.length pc) l) (hq : RecsAt w (.slice qo l.length qc) l) :
    Calls Tryz.prog 14 #[.agg #[.int .i64 x, .int .i64 y, .slice po l.length pc], .agg #[.int .i64 x, .int .i64 y, .slice qo l.length qc]] w fun e w' => e = .returned (.bool true) ∧ Below w.heap.size w w' := by
  have b1 : Below w.heap.size w ((w.alloc (.cells #[.int .i64 x, .int .i64 y, .slice po l.length pc] 37)).alloc (.cells #[.int .i64 x, .int .i64 y, .slice qo l.length qc] 37)) := ((Below.refl w.heap.size w).alloc (Nat.le_refl _) _).alloc (by simp) _
  have c1 : ((w.alloc (.cells #[.int .i64 x, .int .i64 y, .slice po l.length pc] 37)).alloc (.cells #[.int .i64 x, .int .i64 y, .slice qo l.length qc] 37)).heap[w.heap.size]? = some (.cells #[.int .i64 x, .int .i64 y, .slice po l.length pc] 37 (0, 0)) := Below.at ((Below.refl _ _).alloc (Nat.le_refl _) _) (heap_alloc_new w _)
  have c2 : ((w.alloc (.cells #[.int .i64 x, .int .i64 y, .slice po l.length pc] 37)).alloc (.cells #[.int .i64 x, .int .i64 y, .slice qo l.length qc] 37)).heap[w.heap.size + 1]? = some (.cells #[.int .i64 x, .int .i64 y, .slice qo l.length qc] 37 (0, 0)) := by
    have := heap_alloc_new (w.alloc (.cells #[.int .i64 x, .int .i64 y, .slice po l.length pc] 37)) (.cells #[.int .i64 x, .int .i64 y, .slice qo l.length qc] 37)
    simpa using this
  generalize hn : l.length = n at *
  go_enter Tryz.func14, Tryz.ntmps14
  refine wp_seq (reg_mono (mr_r0 (by kernel_rfl) _ (v := ⟨_, _, _, _, _, _⟩) ⟨rfl, rfl, rfl, rfl, rfl, rfl, rfl, rfl⟩ rfl rfl ?_))
  intro a0 F0
  try dsimp only at F0
  generalize (w.alloc _).alloc _ = w1 at *
  have p1 := hp.below b1
  have q1 := hq.below b1
  refine wp_seq (wp_seq (reg_mono (mr_r1 (by kernel_rfl) _ F0 rfl rfl c1 c2 ?_)))
  intro a1 F1 g1
  refine wp_cond_false g1 (wp_skip ?_)
  show Code.wp _ _ _ _ _
  refine wp_seq (wp_seq (reg_mono (mr_r3 (by kernel_rfl) _ F1 ?_)))
  intro a3 F3
  try dsimp only at F3
  refine wp_block (wp_loop (fun a W => ∃ (k nn : Nat) (v : Vmr), k ≤ n ∧ Fmr a v ∧ v.v2 = .pointer (some ⟨w.heap.size, 0, none⟩) ∧ v.v3 = .pointer (some ⟨w.heap.size + 1, 0, none⟩) ∧ v.v5 = .int .i64 (k : Int) ∧ Below w1.heap.size w1 W) (fun a _ => n - (intOf (a.tmps.getD 5 undef)).toNat) ⟨0, 0, _, Nat.zero_le _, F3, rfl, rfl, rfl, Below.refl _ _⟩ ?_)
  clear F0 F1 F3 g1
  rintro a W ⟨k, _, v, hk, F, q2, q3, q5, bW⟩
  have hmk : (intOf (a.tmps.getD 5 undef)).toNat = k := by rw [F.s5, q5]; simp [intOf]
  obtain ⟨v0, v1, v2, v3, v4, v5⟩ := v
  simp only at q2 q3 q5
  subst q2 q3 q5
  have cW := Below.at bW c1
  have dW := Below.at bW c2
  refine wp_seq (wp_seq (reg_mono (mr_r4 (by kernel_rfl) _ F rfl rfl rfl cW dW ?_)))
  intro a4 F4 g4
  by_cases hlt : k < n
  case pos =>
    rw [decide_eq_true (show (k : Int) < (n : Int) by omega)] at g4
    refine wp_cond_true g4 (wp_skip ?_)
    show Code.wp _ _ _ _ _
    have hkl : k < l.length := by omega
    obtain ⟨_, pb, pf, rfl, _, x0, x1, x2, x3, x4⟩ := (p1.below bW).five k hkl
    obtain ⟨_, qb, qf, rfl, _, z0, z1, z2, z3, z4⟩ := (q1.below bW).five k hkl
    refine wp_seq (wp_block ?_)
    refine wp_seq (reg_mono (mr_r6 (r := l[k]) (by kernel_rfl) _ F4 rfl rfl rfl cW dW hlt x0 x1 x2 x3 x4 z0 z1 z2 z3 z4 ?_))
    intro a6 nn F6 g6
    refine wp_cond_false g6 (wp_skip ?_)
    show Code.wp _ _ _ _ _
    refine reg_mono (mr_r5 (by kernel_rfl) _ F6 rfl (by omega) ?_)
    intro a5 F5
    try dsimp only at F5
    refine ⟨⟨k + 1, 0, _, hlt, F5, rfl, rfl, rfl, below_drewN bW nn⟩, ?_⟩
    rw [hmk, F5.s5]
    simp [intOf]
    omega
  rw [decide_eq_false (show ¬ (k : Int) < (n : Int) by omega)] at g4
  refine wp_cond_false g4 (wp_exit ?_)
  show Code.wp _ _ _ _ _
  refine wp_seq (reg_mono (mr_r8 (by kernel_rfl) _ F4 ?_))
  intro a8 F8
  try dsimp only at F8
  refine wp_ret ?_
  exact mr_ret F8 rfl ⟨rfl, b1.trans (bW.mono b1.size)⟩
end Go.Proofs.YtlfodldlkchmoaaGreat.Y
namespace Go.Proofs.YtlfodldlkchmoaaGreat.Y
open Go.RowKit
attribute [local go_sem ↓] Go.wp_at_zero Go.wp_at_succ
set_option linter.unusedSimpArgs false
set_option linter.unusedVariables false
open Go.Maps
structure Two (w0 w : World) (La Lb : LM) (X Y : MS) : Prop where
  a : MAt w La X
  b : MAt w Lb Y
  ap : ∀ j, La.own j → ¬ Lb.own j
  bel : Below w0.heap.size w0 w
  oa : ∀ j, La.own j → w0.heap.size ≤ j
  ob : ∀ j, Lb.own j → w0.heap.size ≤ j
theorem Two.to {w0 w w' : World} {La Lb : LM} {X Y : MS} (h : Two w0 w La Lb X Y) (hb : Below w.heap.size w w') : Two w0 w' La Lb X Y := ⟨h.a.below hb, h.b.below hb, h.ap, h.bel.trans (hb.mono h.bel.size), h.oa, h.ob⟩
theorem Two.swap {w0 w : World} {La Lb : LM} {X Y : MS} (h : Two w0 w La Lb X Y) : Two w0 w Lb La Y X := ⟨h.b, h.a, fun j e e2 => h.ap j e2 e, h.bel, h.ob, h.oa⟩
theorem Two.stepA {w0 w w' : World} {La La' Lb : LM} {X X' Y : MS} (h : Two w0 w La Lb X Y) (s : MStep w w' La La') (ha : MAt w' La' X') : Two w0 w' La' Lb X' Y := by
  have hz := h.bel.size
  refine ⟨ha, h.b.keep s.touch fun j e e2 => h.ap j e2 e, fun j e e2 => ?_, h.bel.trans (s.touch.toBelow hz fun j hj e => by have := h.oa j e; omega), fun j e => ?_, h.ob⟩
  · rcases s.own j e with e3 | e3
    · exact h.ap j e3 e2
    · have := h.b.lim j e2; omega
  · rcases s.own j e with e3 | e3
    · exact h.oa j e3
    · omega
theorem Two.stepB {w0 w w' : World} {La Lb Lb' : LM} {X Y Y' : MS} (h : Two w0 w La Lb X Y) (s : MStep w w' Lb Lb') (hb : MAt w' Lb' Y') : Two w0 w' La Lb' X Y' := (h.swap.stepA s hb).swap
structure Vag where
  v0 : Value
  v1 : Value
  v2 : Value
  v5 : Value
  v6 : Value
  v7 : Value
  v8 : Value
  v9 : Value
  v10 : Value
  v11 : Value
  v12 : Value
  v13 : Value
  v14 : Value
  v15 : Value
structure Fag (a : Act) (v : Vag) : Prop where
  size : a.tmps.size = 105
  defers : a.defers = []
  s0 : a.tmps.getD 0 undef = v.v0
  s1 : a.tmps.getD 1 undef = v.v1
  s2 : a.tmps.getD 2 undef = v.v2
  s5 : a.tmps.getD 5 undef = v.v5
  s6 : a.tmps.getD 6 undef = v.v6
  s7 : a.tmps.getD 7 undef = v.v7
  s8 : a.tmps.getD 8 undef = v.v8
  s9 : a.tmps.getD 9 undef = v.v9
  s10 : a.tmps.getD 10 undef = v.v10
  s11 : a.tmps.getD 11 undef = v.v11
  s12 : a.tmps.getD 12 undef = v.v12
  s13 : a.tmps.getD 13 undef = v.v13
  s14 : a.tmps.getD 14 undef = v.v14
  s15 : a.tmps.getD 15 undef = v.v15
end Go.Proofs.YtlfodldlkchmoaaGreat.Y
namespace Go.Proofs.YtlfodldlkchmoaaGreat.Y
open Go.RowKit
attribute [local go_sem ↓] Go.wp_at_zero Go.wp_at_succ
set_option linter.unusedSimpArgs false
set_option linter.unusedVariables false
open Go.Maps
theorem grant_len (s : SB) (H : TG) (n : Int) : (pollF s H n).2.1.length ≤ H.recs.length := by
  unfold pollF pollI
  repeat' split
  all_goals first
    | exact Nat.zero_le _
    | (unfold grantF readF
       simp only [List.length_take, List.length_drop]
       omega)
theorem keep_recs (X : MS) (s : SB) (code : Int) : (keepM X s code).1.recs = [] := num_recs _ _
theorem do_recs {c : Nat} {X : MS} (h : X.Ok c) (x : CM) : (doM X x).1.recs.length ≤ 100000 := by
  have z : ∀ r : RM, r.recs = [] → r.recs.length ≤ 100000 := fun r e => by rw [e]; exact Nat.zero_le _
  unfold doM
  split
  · unfold createM
    split
    · exact z _ rfl
    · split <;> exact z _ rfl
  split
  · unfold publishM
    split
    · exact z _ rfl
    · exact z _ (num_recs _ _)
  split
  · unfold subscribeM
    split
    · exact z _ rfl
    · split
      · exact z _ rfl
      · split
        · exact z _ rfl
        · exact z _ (keep_recs _ _ _)
  split
  · unfold attachM
    split
    · exact z _ rfl
    · exact z _ (keep_recs _ _ _)
  split
  · unfold pollM
    split
    · exact z _ rfl
    · split
      · exact z _ rfl
      · rename_i H e
        split
        · have := grant_len ‹SB› H x.n
          have := (h.tops _ H e).1.len
          have := h.big
          show (pollF _ H x.n).2.1.length ≤ 100000
          omega
        · exact z _ rfl
  split
  · unfold ackM
    split
    · exact z _ rfl
    · exact z _ (keep_recs _ _ _)
  split
  · unfold seekM
    split
    · exact z _ rfl
    · split
      · exact z _ rfl
      · exact z _ (keep_recs _ _ _)
  split
  · unfold trimM
    split
    · exact z _ rfl
    · exact z _ (num_recs _ _)
  split
  · unfold compactM
    split
    · exact z _ rfl
    · exact z _ (num_recs _ _)
  split
  · exact z _ (num_recs _ _)
  · unfold leaveM
    split
    · exact z _ rfl
    · exact z _ (num_recs _ _)
theorem apply_recs {c : Nat} {X : MS} (h : X.Ok c) (s : List UInt8) : (applyM X s).1.recs.length ≤ 100000 := by
  unfold applyM
  split
  · exact Nat.zero_le _
  · exact do_recs (h.tick s) _
end Go.Proofs.YtlfodldlkchmoaaGreat.Y
