/-
  The contracts of maps, slices and their sort that this seat uses, each one application of a library theorem at this dump; no condition of our own.
-/
import Derived.Test.YtlfodldlkchmoaaGreatZJ20
import Derived.Shelf.SlIter.Nil
import Derived.Shelf.SortM.Plain
import Derived.Shelf.SortM.SortNone
import Derived.Test.YtlfodldlkchmoaaGreatProg
namespace Go.Proofs.YtlfodldlkchmoaaGreat.Y
open Go.RowKit
set_option maxHeartbeats 8000000
set_option maxRecDepth 100000
attribute [local go_sem ↓] Go.wp_at_zero Go.wp_at_succ
set_option linter.unusedSimpArgs false
set_option linter.unusedVariables false
open Go.Maps
theorem pexamples (w : World) : Calls Tryz.prog 8 #[] w fun e w' => e = .returned (.bool true) ∧ Below w.heap.size w w' := by
  go_enter Tryz.func8, Tryz.ntmps8
  refine wp_seq (reg_mono (eq_r0 (by kernel_rfl) _ (v := ⟨_, _, _, _, _, _, _, _, _, _, _, _, _⟩) ⟨rfl, rfl, rfl, rfl, rfl, rfl, rfl, rfl, rfl, rfl, rfl, rfl, rfl, rfl, rfl⟩ ?_))
  intro a0 F0
  try dsimp only at F0
  refine wp_seq (reg_mono (eq_r1 (R := fun L W => MAt W L (exS 0) ∧ Below w.heap.size w W ∧ ∀ j, L.own j → w.heap.size ≤ j) (by kernel_rfl) _ F0 ((pmnew 3 w).mono fun e u q => ?_) ?_))
  · rcases q with ⟨q1, _⟩ | ⟨_, _, L, q1, q2, q3, q4⟩
    · exact absurd ⟨by decide, by decide⟩ q1
    · exact ⟨L, q1, q2, q3, q4⟩
  rintro a1 w1 L0 F1 ⟨m0, b1, o0⟩
  try dsimp only at F1
  refine wp_seq (reg_mono (eq_r2 (by kernel_rfl) _ F1 ((pmnew 8 w1).mono fun e u q => ?_) ?_))
  · rcases q with ⟨_, q1, q2⟩ | ⟨_, q1, _⟩
    · exact ⟨q1, q2⟩
    · exact absurd q1 (by decide)
  intro a2 w2 F2 b2
  try dsimp only at F2
  have m2 := m0.below b2
  have B2 := b1.trans (b2.mono b1.size)
  refine wp_seq (wp_seq (reg_mono (eq_r3 (by kernel_rfl) _ F2 rfl rfl rfl ?_)))
  intro a3 F3 g3
  refine wp_cond_false g3 (wp_skip ?_)
  show Code.wp _ _ _ _ _
  have S0 : MStep w2 w2 L0 L0 := MStep.refl _ _
  have bL0 : L0.b = L0.b := rfl
  have K0 : Beside w2 L0 37 [] := Beside.nil _ _ _
  have D0 := do_ex 0 (by decide) m2 (⟨1, ⟨#[97]⟩, ⟨#[]⟩, 0, ⟨#[]⟩, ⟨#[]⟩, 0, 0, 0⟩) rfl (⟨0, 0, []⟩) exR0 1 rfl
  rw [bL0] at D0
  refine wp_seq (reg_mono (eq_r5 (R := fun ao cp W => ∃ L', MAt W L' (exS 1) ∧ MStep w2 W L0 L' ∧ RecsAt W (.slice ao 0 cp) [] ∧ ∀ g, (Value.slice ao 0 cp).ownBlock = some g → ¬ L'.own g) (by kernel_rfl) _ F3 rfl D0 ?_))
  clear D0
  rintro a1 u1 aq0 cq0 FD1 ⟨L1, n1, s1, rc0, no0⟩
  try dsimp only at FD1
  have bL1 : L1.b = L0.b := s1.b.trans bL0
  have k1 := (K0.step s1).put n1 #[.int .i64 0, .int .i64 0, .slice aq0 0 cq0]
  have m1d := n1.below ((Below.refl u1.heap.size u1).alloc (Nat.le_refl _) (.cells #[.int .i64 0, .int .i64 0, .slice aq0 0 cq0] 37))
  have t1 : MStep w2 (u1.alloc (.cells #[.int .i64 0, .int .i64 0, .slice aq0 0 cq0] 37)) L0 L1 := (S0.trans s1).then ((Below.refl u1.heap.size u1).alloc (Nat.le_refl _) _)
  have v1 : MStep w2 (u1.alloc (.cells #[.int .i64 0, .int .i64 0, .slice aq0 0 cq0] 37)) L0 L1 := s1.then ((Below.refl u1.heap.size u1).alloc (Nat.le_refl _) _)
  generalize u1.alloc (.cells #[.int .i64 0, .int .i64 0, .slice aq0 0 cq0] 37) = w1d at *
  have D1 := do_ex 1 (by decide) m1d (⟨1, ⟨#[97]⟩, ⟨#[]⟩, 0, ⟨#[]⟩, ⟨#[]⟩, 0, 0, 0⟩) rfl (⟨4, 0, []⟩) exR1 2 rfl
  rw [bL1] at D1
  refine wp_seq (reg_mono (eq_r6 (R := fun ao cp W => ∃ L', MAt W L' (exS 2) ∧ MStep w1d W L1 L' ∧ RecsAt W (.slice ao 0 cp) [] ∧ ∀ g, (Value.slice ao 0 cp).ownBlock = some g → ¬ L'.own g) (by kernel_rfl) _ FD1 rfl D1 ?_))
  clear D1
  rintro a2 u2 aq1 cq1 FD2 ⟨L2, n2, s2, rc1, no1⟩
  try dsimp only at FD2
  have bL2 : L2.b = L0.b := s2.b.trans bL1
  have k2 := (k1.step s2).put n2 #[.int .i64 4, .int .i64 0, .slice aq1 0 cq1]
  have m2d := n2.below ((Below.refl u2.heap.size u2).alloc (Nat.le_refl _) (.cells #[.int .i64 4, .int .i64 0, .slice aq1 0 cq1] 37))
  have t2 : MStep w2 (u2.alloc (.cells #[.int .i64 4, .int .i64 0, .slice aq1 0 cq1] 37)) L0 L2 := (t1.trans s2).then ((Below.refl u2.heap.size u2).alloc (Nat.le_refl _) _)
  have v2 : MStep w1d (u2.alloc (.cells #[.int .i64 4, .int .i64 0, .slice aq1 0 cq1] 37)) L1 L2 := s2.then ((Below.refl u2.heap.size u2).alloc (Nat.le_refl _) _)
  generalize u2.alloc (.cells #[.int .i64 4, .int .i64 0, .slice aq1 0 cq1] 37) = w2d at *
  have D2 := do_ex 2 (by decide) m2d (⟨2, ⟨#[97]⟩, ⟨#[112]⟩, 1, ⟨#[]⟩, ⟨#[118]⟩, 0, 0, 0⟩) rfl (⟨0, 0, []⟩) exR2 3 rfl
  rw [bL2] at D2
  refine wp_seq (reg_mono (eq_r7 (R := fun ao cp W => ∃ L', MAt W L' (exS 3) ∧ MStep w2d W L2 L' ∧ RecsAt W (.slice ao 0 cp) [] ∧ ∀ g, (Value.slice ao 0 cp).ownBlock = some g → ¬ L'.own g) (by kernel_rfl) _ FD2 rfl D2 ?_))
  clear D2
  rintro a3 u3 aq2 cq2 FD3 ⟨L3, n3, s3, rc2, no2⟩
  try dsimp only at FD3
  have bL3 : L3.b = L0.b := s3.b.trans bL2
  have k3 := (k2.step s3).put n3 #[.int .i64 0, .int .i64 0, .slice aq2 0 cq2]
  have m3d := n3.below ((Below.refl u3.heap.size u3).alloc (Nat.le_refl _) (.cells #[.int .i64 0, .int .i64 0, .slice aq2 0 cq2] 37))
  have t3 : MStep w2 (u3.alloc (.cells #[.int .i64 0, .int .i64 0, .slice aq2 0 cq2] 37)) L0 L3 := (t2.trans s3).then ((Below.refl u3.heap.size u3).alloc (Nat.le_refl _) _)
  have v3 : MStep w2d (u3.alloc (.cells #[.int .i64 0, .int .i64 0, .slice aq2 0 cq2] 37)) L2 L3 := s3.then ((Below.refl u3.heap.size u3).alloc (Nat.le_refl _) _)
  generalize u3.alloc (.cells #[.int .i64 0, .int .i64 0, .slice aq2 0 cq2] 37) = w3d at *
  have D3 := do_ex 3 (by decide) m3d (⟨3, ⟨#[97]⟩, ⟨#[115]⟩, 0, ⟨#[]⟩, ⟨#[]⟩, 0, 0, 0⟩) rfl (⟨0, 0, []⟩) exR3 4 rfl
  rw [bL3] at D3
  refine wp_seq (reg_mono (eq_r8 (R := fun ao cp W => ∃ L', MAt W L' (exS 4) ∧ MStep w3d W L3 L' ∧ RecsAt W (.slice ao 0 cp) [] ∧ ∀ g, (Value.slice ao 0 cp).ownBlock = some g → ¬ L'.own g) (by kernel_rfl) _ FD3 rfl D3 ?_))
  clear D3
  rintro a4 u4 aq3 cq3 FD4 ⟨L4, n4, s4, rc3, no3⟩
  try dsimp only at FD4
  have bL4 : L4.b = L0.b := s4.b.trans bL3
  have k4 := (k3.step s4).put n4 #[.int .i64 0, .int .i64 0, .slice aq3 0 cq3]
  have m4d := n4.below ((Below.refl u4.heap.size u4).alloc (Nat.le_refl _) (.cells #[.int .i64 0, .int .i64 0, .slice aq3 0 cq3] 37))
  have t4 : MStep w2 (u4.alloc (.cells #[.int .i64 0, .int .i64 0, .slice aq3 0 cq3] 37)) L0 L4 := (t3.trans s4).then ((Below.refl u4.heap.size u4).alloc (Nat.le_refl _) _)
  have v4 : MStep w3d (u4.alloc (.cells #[.int .i64 0, .int .i64 0, .slice aq3 0 cq3] 37)) L3 L4 := s4.then ((Below.refl u4.heap.size u4).alloc (Nat.le_refl _) _)
  generalize u4.alloc (.cells #[.int .i64 0, .int .i64 0, .slice aq3 0 cq3] 37) = w4d at *
  have D4 := do_ex 4 (by decide) m4d (⟨5, ⟨#[]⟩, ⟨#[115]⟩, 0, ⟨#[]⟩, ⟨#[]⟩, 5, 0, 0⟩) rfl (⟨0, 1, [⟨0, ⟨#[112]⟩, 1, ⟨#[]⟩, ⟨#[118]⟩⟩]⟩) exR4 5 rfl
  rw [bL4] at D4
  refine wp_seq (reg_mono (eq_r9 (R := fun ao cp W => ∃ L', MAt W L' (exS 5) ∧ MStep w4d W L4 L' ∧ RecsAt W (.slice ao 1 cp) [⟨0, ⟨#[112]⟩, 1, ⟨#[]⟩, ⟨#[118]⟩⟩] ∧ ∀ g, (Value.slice ao 0 cp).ownBlock = some g → ¬ L'.own g) (by kernel_rfl) _ FD4 rfl D4 ?_))
  clear D4
  rintro a5 u5 aq4 cq4 FD5 ⟨L5, n5, s5, rc4, no4⟩
  try dsimp only at FD5
  have bL5 : L5.b = L0.b := s5.b.trans bL4
  have k5 := (k4.step s5).put n5 #[.int .i64 0, .int .i64 1, .slice aq4 1 cq4]
  have m5d := n5.below ((Below.refl u5.heap.size u5).alloc (Nat.le_refl _) (.cells #[.int .i64 0, .int .i64 1, .slice aq4 1 cq4] 37))
  have t5 : MStep w2 (u5.alloc (.cells #[.int .i64 0, .int .i64 1, .slice aq4 1 cq4] 37)) L0 L5 := (t4.trans s5).then ((Below.refl u5.heap.size u5).alloc (Nat.le_refl _) _)
  have v5 : MStep w4d (u5.alloc (.cells #[.int .i64 0, .int .i64 1, .slice aq4 1 cq4] 37)) L4 L5 := s5.then ((Below.refl u5.heap.size u5).alloc (Nat.le_refl _) _)
  have rc4b := rc4.below ((Below.refl u5.heap.size u5).alloc (Nat.le_refl _) (.cells #[.int .i64 0, .int .i64 1, .slice aq4 1 cq4] 37))
  generalize u5.alloc (.cells #[.int .i64 0, .int .i64 1, .slice aq4 1 cq4] 37) = w5d at *
  have D5 := do_ex 5 (by decide) m5d (⟨6, ⟨#[]⟩, ⟨#[115]⟩, 0, ⟨#[]⟩, ⟨#[]⟩, 0, 0, 0⟩) rfl (⟨0, 1, []⟩) exR5 6 rfl
  rw [bL5] at D5
  refine wp_seq (reg_mono (eq_r10 (R := fun ao cp W => ∃ L', MAt W L' (exS 6) ∧ MStep w5d W L5 L' ∧ RecsAt W (.slice ao 0 cp) [] ∧ ∀ g, (Value.slice ao 0 cp).ownBlock = some g → ¬ L'.own g) (by kernel_rfl) _ FD5 rfl D5 ?_))
  clear D5
  rintro a6 u6 aq5 cq5 FD6 ⟨L6, n6, s6, rc5, no5⟩
  try dsimp only at FD6
  have bL6 : L6.b = L0.b := s6.b.trans bL5
  have k6 := (k5.step s6).put n6 #[.int .i64 0, .int .i64 1, .slice aq5 0 cq5]
  have m6d := n6.below ((Below.refl u6.heap.size u6).alloc (Nat.le_refl _) (.cells #[.int .i64 0, .int .i64 1, .slice aq5 0 cq5] 37))
  have t6 : MStep w2 (u6.alloc (.cells #[.int .i64 0, .int .i64 1, .slice aq5 0 cq5] 37)) L0 L6 := (t5.trans s6).then ((Below.refl u6.heap.size u6).alloc (Nat.le_refl _) _)
  have v6 : MStep w5d (u6.alloc (.cells #[.int .i64 0, .int .i64 1, .slice aq5 0 cq5] 37)) L5 L6 := s6.then ((Below.refl u6.heap.size u6).alloc (Nat.le_refl _) _)
  generalize u6.alloc (.cells #[.int .i64 0, .int .i64 1, .slice aq5 0 cq5] 37) = w6d at *
  obtain ⟨ok6, cn6⟩ := exS_ok 6 (by decide)
  have A6 := papply m6d ok6 (by decide) (by rw [cn6]; decide) ⟨#[103, 97, 114, 98, 97, 103, 101]⟩ (by decide)
  rw [show applyM (exS 6) (⟨#[103, 97, 114, 98, 97, 103, 101]⟩ : ByteArray).data.toList = (codedM 1, (exS 6).tick exG) from exR6 _] at A6
  rw [bL6] at A6
  refine wp_seq (reg_mono (eq_r11 (R := fun ao cp W => ∃ L', MAt W L' ((exS 6).tick exG) ∧ MStep w6d W L6 L') (by kernel_rfl) _ FD6 rfl (A6.mono fun e u q => ?_) ?_))
  · obtain ⟨ao, cp, q1, q2, L', q3, q4, q5⟩ := q
    exact ⟨ao, cp, q1, L', q3, q4⟩
  rintro a7 u7 aq6 cq6 FD7 ⟨L7, n7, s7⟩
  try dsimp only at FD7
  have bL7 : L7.b = L0.b := s7.b.trans bL6
  have k7 := (k6.step s7).put n7 #[.int .i64 1, .int .i64 0, .slice aq6 0 cq6]
  have m7d := n7.below ((Below.refl u7.heap.size u7).alloc (Nat.le_refl _) (.cells #[.int .i64 1, .int .i64 0, .slice aq6 0 cq6] 37))
  have t7 : MStep w2 (u7.alloc (.cells #[.int .i64 1, .int .i64 0, .slice aq6 0 cq6] 37)) L0 L7 := (t6.trans s7).then ((Below.refl u7.heap.size u7).alloc (Nat.le_refl _) _)
  have v7 : MStep w6d (u7.alloc (.cells #[.int .i64 1, .int .i64 0, .slice aq6 0 cq6] 37)) L6 L7 := s7.then ((Below.refl u7.heap.size u7).alloc (Nat.le_refl _) _)
  generalize u7.alloc (.cells #[.int .i64 1, .int .i64 0, .slice aq6 0 cq6] 37) = w7d at *
  obtain ⟨H, hT, hfin⟩ := exT
  have TT : ((exS 6).tick exG).T (⟨#[97]⟩ : ByteArray).data.toList = some H := hT
  have TP := pmtopic m7d ⟨#[97]⟩ (by decide)
  rw [TT, bL7] at TP
  refine wp_seq (reg_mono (eq_r12 (by kernel_rfl) _ FD7 rfl TP ?_))
  intro a8 F8
  try dsimp only at F8
  have CT := pmcount m7d
  have cn7 : ((exS 6).tick exG).cnt = 7 := by show (exS 6).cnt + 1 = 7; rw [cn6]
  rw [cn7, bL7] at CT
  have EN := tend (m7d.top _ H TT)
  rw [hfin] at EN
  have WN := pmwanted m7d
  have wl : (wlist ((exS 6).tick exG).wan).length = 3 := by
    show (wlist (exS 6).wan).length = 3
    rw [exW]
    rfl
  rw [wl, bL7] at WN
  obtain ⟨gq, oq, hao, hgl, hgc⟩ : ∃ gq oq, aq4 = some ⟨gq, oq, none⟩ ∧ gq < w5d.heap.size ∧ w5d.cell? ⟨gq, oq + 4, none⟩ = some (.string ⟨#[118]⟩) := by
    obtain ⟨ao', cap, hv, hc, hi⟩ := rc4b
    injection hv with e1 e2 e3
    subst e1 e3
    obtain ⟨gq, oq, h1, h2, h3⟩ := hi 0 (by decide)
    exact ⟨gq, oq, h1, h2, h3 4 (by decide)⟩
  have gown : ¬ L5.own gq := no4 gq (by rw [hao]; rfl)
  have kv : w7d.cell? ⟨gq, oq + 4, none⟩ = some (.string ⟨#[118]⟩) := (v6.trans v7).touch.cell _ hgc gown
  have x0 := k7.at_ _ (List.Mem.tail _ (List.Mem.tail _ (List.Mem.tail _ (List.Mem.tail _ (List.Mem.tail _ (List.Mem.tail _ (List.Mem.head _)))))))
  have x1 := k7.at_ _ (List.Mem.tail _ (List.Mem.tail _ (List.Mem.tail _ (List.Mem.tail _ (List.Mem.tail _ (List.Mem.head _))))))
  have x2 := k7.at_ _ (List.Mem.tail _ (List.Mem.tail _ (List.Mem.tail _ (List.Mem.tail _ (List.Mem.head _)))))
  have x3 := k7.at_ _ (List.Mem.tail _ (List.Mem.tail _ (List.Mem.tail _ (List.Mem.head _))))
  have x4 := k7.at_ _ (List.Mem.tail _ (List.Mem.tail _ (List.Mem.head _)))
  have x5 := k7.at_ _ (List.Mem.tail _ (List.Mem.head _))
  have x6 := k7.at_ _ (List.Mem.head _)
  refine wp_seq (reg_mono (eq_r13 (by kernel_rfl) _ F8 rfl rfl rfl rfl rfl rfl rfl rfl rfl rfl x0 x1 x2 x3 x4 x5 x6 hao kv CT EN (WN.mono fun e u q => by obtain ⟨ao, cp, q1, q2, q3⟩ := q; exact ⟨ao, cp, q1, q3⟩) ?_))
  intro a9 w9 F9 b9
  try dsimp only at F9
  refine wp_ret ?_
  have bz : Below w.heap.size w w7d := B2.trans (t7.touch.toBelow B2.size fun k hk e => by have := o0 k e; omega)
  exact eq_ret F9 rfl ⟨rfl, bz.trans (b9.mono bz.size)⟩
end Go.Proofs.YtlfodldlkchmoaaGreat.Y
namespace Go.Proofs
open Go.Shelf
def Tryz.shKeys_ren : Go.Shelf.Ren := ⟨fun | 7 => 41 | 10 => 85 | n => n, fun | 23 => 63 | 26 => 9 | 3 => 52 | 28 => 97 | 0 => 0 | 27 => 96 | 33 => 137 | 4 => 4 | n => n, fun | n => n⟩
theorem Tryz.shKeys : Go.Proofs.SlLaysZ.n7 Tryz.prog Tryz.shKeys_ren := {
  mixed := by kernel_rfl
  f7 := ⟨Tryz.f41.name, by decide, Tryz.func41.trans (congrArg some (by kernel_rfl))⟩
  f10 := ⟨Tryz.f85.name, by decide, Tryz.func85.trans (congrArg some (by kernel_rfl))⟩
  t0 := Tryz.underlying0
  a0 := Tryz.isAgg0
  z0 := Tryz.sizeOf0
  v0 := Tryz.zeroValue0
  t4 := Tryz.underlying4
  a4 := Tryz.isAgg4
  z4 := Tryz.sizeOf4
  v4 := Tryz.zeroValue4
  t23 := Tryz.underlying63
  a23 := Tryz.isAgg63
  z23 := Tryz.sizeOf63
  v23 := Tryz.zeroValue63
  t26 := Tryz.underlying9
  a26 := Tryz.isAgg9
  z26 := Tryz.sizeOf9
  v26 := Tryz.zeroValue9
  t27 := Tryz.underlying96
  a27 := Tryz.isAgg96
  z27 := Tryz.sizeOf96
  v27 := Tryz.zeroValue96
  t28 := Tryz.underlying97
  a28 := Tryz.isAgg97
  z28 := Tryz.sizeOf97
  v28 := Tryz.zeroValue97
  t33 := Tryz.underlying137
  a33 := Tryz.isAgg137
  z33 := Tryz.sizeOf137
  v33 := Tryz.zeroValue137 }
def Tryz.shSorted_ren : Go.Shelf.Ren := ⟨fun | 6 => 40 | 8 => 83 | 9 => 84 | 11 => 119 | 13 => 121 | 12 => 120 | 23 => 151 | 24 => 152 | 14 => 142 | 15 => 143 | 16 => 144 | 17 => 145 | 18 => 146 | 19 => 147 | 20 => 148 | 21 => 149 | 22 => 150 | 25 => 170 | 26 => 171 | 27 => 172 | 28 => 173 | 29 => 174 | 30 => 175 | 31 => 182 | n => n, fun | 26 => 9 | 28 => 97 | 24 => 48 | 0 => 0 | 3 => 3 | 37 => 176 | 48 => 210 | 50 => 108 | 4 => 4 | 40 => 203 | 39 => 202 | 45 => 138 | 5 => 5 | 9 => 9 | 51 => 221 | 55 => 225 | 57 => 229 | 58 => 126 | 33 => 137 | n => n, fun | n => n⟩
theorem Tryz.shSorted : Go.Proofs.SlLaysZ.n6 Tryz.prog Tryz.shSorted_ren := {
  mixed := by kernel_rfl
  f6 := ⟨Tryz.f40.name, by decide, Tryz.func40.trans (congrArg some (by kernel_rfl))⟩
  f8 := ⟨Tryz.f83.name, by decide, Tryz.func83.trans (congrArg some (by kernel_rfl))⟩
  f11 := ⟨Tryz.f119.name, by decide, Tryz.func119.trans (congrArg some (by kernel_rfl))⟩
  t0 := Tryz.underlying0
  a0 := Tryz.isAgg0
  z0 := Tryz.sizeOf0
  v0 := Tryz.zeroValue0
  t24 := Tryz.underlying48
  a24 := Tryz.isAgg48
  z24 := Tryz.sizeOf48
  v24 := Tryz.zeroValue48
  t26 := Tryz.underlying9
  a26 := Tryz.isAgg9
  z26 := Tryz.sizeOf9
  v26 := Tryz.zeroValue9
  t28 := Tryz.underlying97
  a28 := Tryz.isAgg97
  z28 := Tryz.sizeOf97
  v28 := Tryz.zeroValue97
  i26 := by kernel_rfl }
def Tryz.shSort_ren : Go.Shelf.Ren := ⟨fun | 6 => 84 | 8 => 121 | 9 => 120 | 19 => 151 | 20 => 152 | 21 => 142 | 22 => 143 | 23 => 144 | 24 => 145 | 25 => 146 | 26 => 147 | 27 => 148 | 28 => 149 | 29 => 150 | 36 => 170 | 31 => 171 | 32 => 172 | 37 => 173 | 38 => 174 | 39 => 175 | 41 => 182 | n => n, fun | 27 => 48 | 29 => 9 | 3 => 3 | 32 => 176 | 26 => 48 | 0 => 0 | 44 => 210 | 46 => 108 | 4 => 4 | 36 => 203 | 35 => 202 | 41 => 138 | 5 => 5 | 9 => 9 | 53 => 221 | 57 => 225 | 63 => 229 | 64 => 126 | n => n, fun | n => n⟩
theorem Tryz.shSort : Go.Proofs.SlLaysM.n6 Tryz.prog Tryz.shSort_ren := {
  mixed := by kernel_rfl
  f6 := ⟨Tryz.f84.name, by decide, Tryz.func84.trans (congrArg some (by kernel_rfl))⟩
  f8 := Tryz.func121.trans (congrArg some (by kernel_rfl))
  f9 := ⟨Tryz.f120.name, by decide, Tryz.func120.trans (congrArg some (by kernel_rfl))⟩
  f19 := Tryz.func151.trans (congrArg some (by kernel_rfl))
  f20 := Tryz.func152.trans (congrArg some (by kernel_rfl))
  f21 := ⟨Tryz.f142.name, by decide, Tryz.func142.trans (congrArg some (by kernel_rfl))⟩
  f22 := ⟨Tryz.f143.name, by decide, Tryz.func143.trans (congrArg some (by kernel_rfl))⟩
  f23 := ⟨Tryz.f144.name, by decide, Tryz.func144.trans (congrArg some (by kernel_rfl))⟩
  f24 := ⟨Tryz.f145.name, by decide, Tryz.func145.trans (congrArg some (by kernel_rfl))⟩
  f25 := ⟨Tryz.f146.name, by decide, Tryz.func146.trans (congrArg some (by kernel_rfl))⟩
  f26 := ⟨Tryz.f147.name, by decide, Tryz.func147.trans (congrArg some (by kernel_rfl))⟩
  f27 := ⟨Tryz.f148.name, by decide, Tryz.func148.trans (congrArg some (by kernel_rfl))⟩
  f28 := ⟨Tryz.f149.name, by decide, Tryz.func149.trans (congrArg some (by kernel_rfl))⟩
  f29 := ⟨Tryz.f150.name, by decide, Tryz.func150.trans (congrArg some (by kernel_rfl))⟩
  f31 := Tryz.func171.trans (congrArg some (by kernel_rfl))
  f32 := Tryz.func172.trans (congrArg some (by kernel_rfl))
  f36 := ⟨Tryz.f170.name, by decide, Tryz.func170.trans (congrArg some (by kernel_rfl))⟩
  f37 := ⟨Tryz.f173.name, by decide, Tryz.func173.trans (congrArg some (by kernel_rfl))⟩
  f38 := ⟨Tryz.f174.name, by decide, Tryz.func174.trans (congrArg some (by kernel_rfl))⟩
  f39 := ⟨Tryz.f175.name, by decide, Tryz.func175.trans (congrArg some (by kernel_rfl))⟩
  f41 := ⟨Tryz.f182.name, by decide, Tryz.func182.trans (congrArg some (by kernel_rfl))⟩
  t0 := Tryz.underlying0
  a0 := Tryz.isAgg0
  z0 := Tryz.sizeOf0
  v0 := Tryz.zeroValue0
  t3 := Tryz.underlying3
  a3 := Tryz.isAgg3
  z3 := Tryz.sizeOf3
  v3 := Tryz.zeroValue3
  t4 := Tryz.underlying4
  a4 := Tryz.isAgg4
  z4 := Tryz.sizeOf4
  v4 := Tryz.zeroValue4
  t5 := Tryz.underlying5
  a5 := Tryz.isAgg5
  z5 := Tryz.sizeOf5
  v5 := Tryz.zeroValue5
  t9 := Tryz.underlying9
  a9 := Tryz.isAgg9
  z9 := Tryz.sizeOf9
  v9 := Tryz.zeroValue9
  t26 := Tryz.underlying48
  a26 := Tryz.isAgg48
  z26 := Tryz.sizeOf48
  v26 := Tryz.zeroValue48
  t27 := Tryz.underlying48
  a27 := Tryz.isAgg48
  z27 := Tryz.sizeOf48
  v27 := Tryz.zeroValue48
  t29 := Tryz.underlying9
  a29 := Tryz.isAgg9
  z29 := Tryz.sizeOf9
  v29 := Tryz.zeroValue9
  t32 := Tryz.underlying176
  a32 := Tryz.isAgg176
  z32 := Tryz.sizeOf176
  v32 := Tryz.zeroValue176
  t35 := Tryz.underlying202
  a35 := Tryz.isAgg202
  z35 := Tryz.sizeOf202
  v35 := Tryz.zeroValue202
  t36 := Tryz.underlying203
  a36 := Tryz.isAgg203
  z36 := Tryz.sizeOf203
  v36 := Tryz.zeroValue203
  t41 := Tryz.underlying138
  a41 := Tryz.isAgg138
  z41 := Tryz.sizeOf138
  v41 := Tryz.zeroValue138
  t44 := Tryz.underlying210
  a44 := Tryz.isAgg210
  z44 := Tryz.sizeOf210
  v44 := Tryz.zeroValue210
  t46 := Tryz.underlying108
  a46 := Tryz.isAgg108
  z46 := Tryz.sizeOf108
  v46 := Tryz.zeroValue108
  t53 := Tryz.underlying221
  a53 := Tryz.isAgg221
  z53 := Tryz.sizeOf221
  v53 := Tryz.zeroValue221
  t57 := Tryz.underlying225
  a57 := Tryz.isAgg225
  z57 := Tryz.sizeOf225
  v57 := Tryz.zeroValue225
  t63 := Tryz.underlying229
  a63 := Tryz.isAgg229
  z63 := Tryz.sizeOf229
  v63 := Tryz.zeroValue229
  t64 := Tryz.underlying126
  a64 := Tryz.isAgg126
  z64 := Tryz.sizeOf126
  v64 := Tryz.zeroValue126 }
end Go.Proofs
