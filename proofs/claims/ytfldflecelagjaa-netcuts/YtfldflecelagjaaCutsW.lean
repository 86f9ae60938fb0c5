/-
  NetCuts as it runs.
-/
import Derived.Test.YtfldflecelagjaaE1
namespace Go.Proofs.Ytfldflecelagjaa
open Go.RowKit Go.Maps

section
variable {n A C : Nat} {S : Int} {s : ByteArray}
def qa (A C : Nat) (s : ByteArray) : Qs := moreQ q0 A C s
def qb (A C : Nat) (s : ByteArray) : Qs := moreQ (qa A C s) A C s
def qc (A C : Nat) (s : ByteArray) : Qs := lessQ (qb A C s) A C 0
theorem qa_at : (qa A C s) A C = [s] := by simp [qa, moreQ, setQ, q0]
theorem qb_at : (qb A C s) A C = [s, s] := by simp [qb, moreQ, setQ, qa_at]
theorem qc_at : (qc A C s) A C = [s] := by simp [qc, lessQ, setQ, qb_at]
theorem lenQ_at {q : Qs} (hl : isLink n (A : Int) (C : Int)) : lenQ n q A C = (q A C).length := by simp [lenQ, hl]
theorem lenQ_no {q : Qs} (hl : ¬ isLink n (A : Int) (C : Int)) : lenQ n q A C = 0 := by simp [lenQ, hl]
theorem link_iff (hA : A < n) (hC : C < n) : isLink n (A : Int) (C : Int) ↔ A ≠ C := by
  unfold isLink
  constructor
  · rintro ⟨_, _, _, _, h⟩ e
    exact h (by omega)
  · intro h
    exact ⟨by omega, by omega, by omega, by omega, by omega⟩
theorem cu1 (hl : isLink n (A : Int) (C : Int)) : decide (roomQ n q0 A C) = true := by simp [roomQ, hl, lenQ, q0]
theorem cu2 (hl : isLink n (A : Int) (C : Int)) : decide (doublesQ n (qa A C s) A C 0) = true := by simp [doublesQ, hasQ, lenQ_at hl, qa_at]
theorem cu2m : msgQ (qa A C s) A C 0 = s := by simp [msgQ, qa_at]
theorem cu3 (hl : isLink n (A : Int) (C : Int)) : decide (takesQ n S (qb A C s) A C 0) = decide (joined n S A C) := by simp [takesQ, hasQ, lenQ_at hl, qb_at]
theorem cu3m : msgQ (qb A C s) A C 0 = s := by simp [msgQ, qb_at]
theorem join0 (hA : A < n) (hC : C < n) : joined n 0 A C := ⟨by omega, by omega, by simp [bit]⟩
theorem cu4 (hl : isLink n (A : Int) (C : Int)) (hA : A < n) (hC : C < n) : decide (takesQ n 0 (qc A C s) A C 0) = true := by simp [takesQ, hasQ, lenQ_at hl, qc_at, join0 hA hC]
theorem cu4m : msgQ (qc A C s) A C 0 = s := by simp [msgQ, qc_at]
theorem cu5 (hl : isLink n (A : Int) (C : Int)) (hA : A < n) (hC : C < n) : decide (takesQ n 0 (qb A C s) A C 0) = true := by simp [takesQ, hasQ, lenQ_at hl, qb_at, join0 hA hC]
theorem cn1 (hl : ¬ isLink n (A : Int) (C : Int)) : decide (roomQ n q0 A C) = false := by simp [roomQ, hl]
theorem cn2 (hl : ¬ isLink n (A : Int) (C : Int)) : decide (doublesQ n q0 A C 0) = false := by simp [doublesQ, hasQ, lenQ_no hl]
theorem cn3 (hl : ¬ isLink n (A : Int) (C : Int)) : decide (takesQ n S q0 A C 0) = false := by simp [takesQ, hasQ, lenQ_no hl]
theorem join_iff (hA : A < n) (hC : C < n) : joined n S A C ↔ S / 2 ^ A % 2 = S / 2 ^ C % 2 := by
  unfold joined bit
  rw [show ((A : Int).toNat) = A by omega, show ((C : Int).toNat) = C by omega]
  constructor
  · rintro ⟨_, _, h⟩
    have h1 := decide_eq_decide.1 h
    have a1 := Int.emod_nonneg (S / 2 ^ A) (b := 2) (by omega)
    have a2 := Int.emod_lt_of_pos (S / 2 ^ A) (b := 2) (by omega)
    have c1 := Int.emod_nonneg (S / 2 ^ C) (b := 2) (by omega)
    have c2 := Int.emod_lt_of_pos (S / 2 ^ C) (b := 2) (by omega)
    omega
  · intro h
    refine ⟨by omega, by omega, ?_⟩
    rw [h]
theorem join_symm : joined n S A C ↔ joined n S C A := by
  unfold joined
  constructor
  · rintro ⟨h1, h2, h3⟩; exact ⟨h2, h1, h3.symm⟩
  · rintro ⟨h1, h2, h3⟩; exact ⟨h2, h1, h3.symm⟩
theorem Net.drew {B : Nat} {w : World} {b : Nat} {q : Qs} (h : Net B w b n S q) : Net B w.drew b n S q := h.keep (own := fun _ => False) ((Touch.refl _ w).drew) fun _ e => e.elim
theorem Net.doubleT {B : Nat} {w : World} {b : Nat} {q : Qs} (h : Net B w b n S q) (hB : B ≤ w.heap.size) {x y : Int} (hx : In64 x) (hy : In64 y) (i : Int) (m : ByteArray) (hr : decide (doublesQ n q x y i) = true) (hm : msgQ q x y i = m) : Calls Try.prog 18 #[.pointer (some ⟨b, 0, none⟩), .int .i64 x, .int .i64 y, .int .i64 i] w fun e w' => e = .returned (.bool true) ∧ Net B w' b n S (moreQ q x y m) ∧ Below B w w' := by
  have h1 := h.double hB hx hy i
  rw [hr, if_pos (of_decide_eq_true hr), hm] at h1
  exact h1
theorem Net.doubleF {B : Nat} {w : World} {b : Nat} {q : Qs} (h : Net B w b n S q) (hB : B ≤ w.heap.size) {x y : Int} (hx : In64 x) (hy : In64 y) (i : Int) (hr : decide (doublesQ n q x y i) = false) : Calls Try.prog 18 #[.pointer (some ⟨b, 0, none⟩), .int .i64 x, .int .i64 y, .int .i64 i] w fun e w' => e = .returned (.bool false) ∧ Net B w' b n S q ∧ Below B w w' := by
  have h1 := h.double hB hx hy i
  rw [hr, if_neg (of_decide_eq_false hr)] at h1
  exact h1
end
set_option maxRecDepth 100000
set_option maxHeartbeats 4000000
theorem cuts_walk (n0 side a0 b0 : Int) (s : ByteArray) (w : World) (hn : In64 n0) (hsd : In64 side) (ha : In64 a0) (hb : In64 b0) (hs : s.size ≤ 140737488351232) :
    Calls Try.prog 5 #[.int .i64 n0, .int .i64 side, .int .i64 a0, .int .i64 b0, .string s] w fun e w' => e = .returned (.bool true) ∧ Below w.heap.size w w' := by
  have HE := hide (examples_any w)
  have HNI := hide hn
  have HSI := hide hsd
  have HAI := hide ha
  have HBI := hide hb
  have hr6 := pickZ_range n0 6 (by omega)
  obtain ⟨m, hm⟩ : ∃ m : Nat, pickZ n0 6 = m := ⟨(pickZ n0 6).toNat, by omega⟩
  have HM := hide hm
  rw [hm] at hr6
  have hm6 : (m : Int) < 6 := hr6.2
  have hm0 : (0 : Int) ≤ (m : Int) := by omega
  clear hr6
  clear hm hn ha hb
  go_enter Try.func5, Try.ntmps5
  go_wp2_with fail
  refine HE.out.mono ?_
  rintro e w0 ⟨rfl, be⟩
  have BE := hide be
  clear be HE
  go_wp2_with fail
  refine (pick_any n0 6 w0 HNI.out (by omega)).mono ?_
  rw [HM.out]
  rintro e wx ⟨rfl, rfl⟩
  clear HM HNI
  go_wp2_with fail
  obtain ⟨N, hN⟩ : ∃ N : Nat, (2 : Int) + (m : Int) = N := ⟨2 + m, by omega⟩
  rw [hN]
  have hN2 : N ≤ 7 := by omega
  have hN3 : 2 ≤ N := by omega
  clear hN hm6 hm0
  have ra := pickZ_range a0 N (by omega)
  have rc := pickZ_range b0 N (by omega)
  refine (pick_any a0 N wx HAI.out (by omega)).mono ?_
  obtain ⟨A, hA⟩ : ∃ A : Nat, pickZ a0 N = A := ⟨(pickZ a0 N).toNat, by omega⟩
  obtain ⟨C, hC⟩ : ∃ C : Nat, pickZ b0 N = C := ⟨(pickZ b0 N).toNat, by omega⟩
  have HC := hide hC
  rw [hA] at ra ⊢
  rw [hC] at rc
  clear hA hC
  rintro e wy ⟨rfl, rfl⟩
  have hA1 : A < N := by omega
  have hC1 : C < N := by omega
  have hA7 : (A : Int) < 7 := by omega
  have hC7 : (C : Int) < 7 := by omega
  clear ra rc
  go_wp2_with fail
  refine (pick_any b0 N _ HBI.out (by omega)).mono ?_
  rw [HC.out]
  clear HC HAI HBI
  rintro e wz ⟨rfl, rfl⟩
  have IA : Hid (In64 A) := ⟨by omega, by omega⟩
  have IC : Hid (In64 C) := ⟨by omega, by omega⟩
  go_wp2_with fail
  refine (Net.new N _ (by omega)).mono ?_
  rintro e w1 ⟨b, rfl, n1, b1⟩
  have N1 : Hid (Net _ w1 b N 0 q0) := n1
  have B1 := hide b1
  clear n1 b1
  go_wp2_with fail
  refine (N1.out.cut B1.out.size side HSI.out).mono ?_
  rintro e w2 ⟨rfl, n1, b1⟩
  have N2 := hide n1
  have B2 := hide (B1.out.trans b1)
  clear n1 b1 N1 B1
  have hS := N2.out.side
  obtain ⟨S, hSe⟩ : ∃ S, max side 0 = S := ⟨_, rfl⟩
  rw [hSe] at N2 hS
  have J := join_iff (S := S) hA1 hC1
  have dA := div_in hS A
  have dC := div_in hS C
  by_cases hl : isLink N A C
  · have HL := hide hl
    have hne : A ≠ C := (link_iff hA1 hC1).1 hl
    clear hl
    by_cases hneg : side < 0
    · skip
      obtain rfl : S = 0 := by omega
      have hneg1 : decide (side < 0) = true := by simpa using hneg
      by_cases hj : joined N 0 A C
      · have HJ := hide hj
        have hj2 := J.1 hj
        have hj3 : ((0 : Int) / 2 ^ A % 2 == (0 : Int) / 2 ^ C % 2) = true := beq_iff_eq.2 hj2
        clear hj J hj2
        have hne0 : ¬ A = C := hne
        have hne1 : ((A : Int) == (C : Int)) = false := by simp; omega
        have hne2 : ((A : Int) != (C : Int)) = true := by simp; omega
        have hne3 : (!((A : Int) != (C : Int))) = false := by rw [hne2]; rfl
        go_wp2_with fail
        refine (N2.out.sendT B2.out.size IA.out IC.out s (by omega) (cu1 HL.out)).mono ?_
        rintro e w3 ⟨rfl, n1, b1⟩
        have N3 : Hid (Net _ w3 b N 0 (qa A C s)) := n1
        have B3 := hide (B2.out.trans b1)
        clear n1 b1 N2 B2
        go_wp2_with fail
        go_region
        have N3d := hide N3.out.drew
        have B3d := hide B3.out.drew
        clear N3 B3
        rename Hid (Net _ w3.drew b N _ _) => N3
        rename Hid (Below _ _ w3.drew) => B3
        go_wp2_with fail
        refine (N3.out.doubleT B3.out.size IA.out IC.out 0 s (cu2 HL.out) cu2m).mono ?_
        rintro e w4 ⟨rfl, n1, b1⟩
        have N4 : Hid (Net _ w4 b N 0 (qb A C s)) := n1
        have B4 := hide (B3.out.trans b1)
        clear n1 b1 N3 B3
        go_wp2_with fail
        refine (N4.out.takeT B4.out.size IA.out IC.out 0 s ((cu3 HL.out).trans (decide_eq_true HJ.out)) cu3m).mono ?_
        rintro e w5 ⟨rfl, n1, b1⟩
        have N5 : Hid (Net _ w5 b N 0 (qc A C s)) := n1
        have B5 := hide (B4.out.trans b1)
        clear n1 b1 N4 B4
        go_wp2_with fail
        refine (N5.out.join A C true (decide_eq_true HJ.out)).mono ?_
        rintro e wj ⟨rfl, hw⟩
        obtain rfl := hw.symm
        clear hw
        go_wp2_with fail
        refine (N5.out.join C A true (decide_eq_true (join_symm.1 HJ.out))).mono ?_
        rintro e wj ⟨rfl, hw⟩
        obtain rfl := hw.symm
        clear hw
        go_wp2_with fail
        refine (N5.out.cut B5.out.size 0 (in64_small (by omega) (by omega))).mono ?_
        rintro e w6 ⟨rfl, n1, b1⟩
        have N6 : Hid (Net _ w6 b N 0 (qc A C s)) := n1
        have B6 := hide (B5.out.trans b1)
        clear n1 b1 N5 B5
        go_wp2_with fail
        refine (N6.out.takeT B6.out.size IA.out IC.out 0 s (cu4 HL.out hA1 hC1) cu4m).mono ?_
        rintro e w7 ⟨rfl, n1, b1⟩
        have N7 : Hid (Net _ w7 b N 0 (lessQ (qc A C s) A C 0)) := n1
        have B7 := hide (B6.out.trans b1)
        clear n1 b1 N6 B6
        go_wp2_with fail
        go_ret
        exact ⟨rfl, BE.out.trans (B7.out.mono BE.out.size)⟩
      · exact absurd (join0 hA1 hC1) hj
    · skip
      obtain rfl : S = side := by omega
      have hneg1 : decide (S < 0) = false := by simpa using hneg
      by_cases hj : joined N S A C
      · have HJ := hide hj
        have hj2 := J.1 hj
        have hj3 : ((S : Int) / 2 ^ A % 2 == (S : Int) / 2 ^ C % 2) = true := beq_iff_eq.2 hj2
        clear hj J hj2
        have hne0 : ¬ A = C := hne
        have hne1 : ((A : Int) == (C : Int)) = false := by simp; omega
        have hne2 : ((A : Int) != (C : Int)) = true := by simp; omega
        have hne3 : (!((A : Int) != (C : Int))) = false := by rw [hne2]; rfl
        go_wp2_with fail
        refine (N2.out.sendT B2.out.size IA.out IC.out s (by omega) (cu1 HL.out)).mono ?_
        rintro e w3 ⟨rfl, n1, b1⟩
        have N3 : Hid (Net _ w3 b N S (qa A C s)) := n1
        have B3 := hide (B2.out.trans b1)
        clear n1 b1 N2 B2
        go_wp2_with fail
        go_region
        have N3d := hide N3.out.drew
        have B3d := hide B3.out.drew
        clear N3 B3
        rename Hid (Net _ w3.drew b N _ _) => N3
        rename Hid (Below _ _ w3.drew) => B3
        go_wp2_with fail
        refine (N3.out.doubleT B3.out.size IA.out IC.out 0 s (cu2 HL.out) cu2m).mono ?_
        rintro e w4 ⟨rfl, n1, b1⟩
        have N4 : Hid (Net _ w4 b N S (qb A C s)) := n1
        have B4 := hide (B3.out.trans b1)
        clear n1 b1 N3 B3
        go_wp2_with fail
        refine (N4.out.takeT B4.out.size IA.out IC.out 0 s ((cu3 HL.out).trans (decide_eq_true HJ.out)) cu3m).mono ?_
        rintro e w5 ⟨rfl, n1, b1⟩
        have N5 : Hid (Net _ w5 b N S (qc A C s)) := n1
        have B5 := hide (B4.out.trans b1)
        clear n1 b1 N4 B4
        go_wp2_with fail
        refine (N5.out.join A C true (decide_eq_true HJ.out)).mono ?_
        rintro e wj ⟨rfl, hw⟩
        obtain rfl := hw.symm
        clear hw
        go_wp2_with fail
        refine (N5.out.join C A true (decide_eq_true (join_symm.1 HJ.out))).mono ?_
        rintro e wj ⟨rfl, hw⟩
        obtain rfl := hw.symm
        clear hw
        go_wp2_with fail
        refine (N5.out.cut B5.out.size 0 (in64_small (by omega) (by omega))).mono ?_
        rintro e w6 ⟨rfl, n1, b1⟩
        have N6 : Hid (Net _ w6 b N 0 (qc A C s)) := n1
        have B6 := hide (B5.out.trans b1)
        clear n1 b1 N5 B5
        go_wp2_with fail
        refine (N6.out.takeT B6.out.size IA.out IC.out 0 s (cu4 HL.out hA1 hC1) cu4m).mono ?_
        rintro e w7 ⟨rfl, n1, b1⟩
        have N7 : Hid (Net _ w7 b N 0 (lessQ (qc A C s) A C 0)) := n1
        have B7 := hide (B6.out.trans b1)
        clear n1 b1 N6 B6
        go_wp2_with fail
        go_ret
        exact ⟨rfl, BE.out.trans (B7.out.mono BE.out.size)⟩
      · have HJ := hide hj
        have hj2 := fun h => hj (J.2 h)
        have hj3 : ((S : Int) / 2 ^ A % 2 == (S : Int) / 2 ^ C % 2) = false := by simpa using hj2
        clear hj J hj2
        have hne0 : ¬ A = C := hne
        have hne1 : ((A : Int) == (C : Int)) = false := by simp; omega
        have hne2 : ((A : Int) != (C : Int)) = true := by simp; omega
        have hne3 : (!((A : Int) != (C : Int))) = false := by rw [hne2]; rfl
        go_wp2_with fail
        refine (N2.out.sendT B2.out.size IA.out IC.out s (by omega) (cu1 HL.out)).mono ?_
        rintro e w3 ⟨rfl, n1, b1⟩
        have N3 : Hid (Net _ w3 b N S (qa A C s)) := n1
        have B3 := hide (B2.out.trans b1)
        clear n1 b1 N2 B2
        go_wp2_with fail
        go_region
        have N3d := hide N3.out.drew
        have B3d := hide B3.out.drew
        clear N3 B3
        rename Hid (Net _ w3.drew b N _ _) => N3
        rename Hid (Below _ _ w3.drew) => B3
        go_wp2_with fail
        refine (N3.out.doubleT B3.out.size IA.out IC.out 0 s (cu2 HL.out) cu2m).mono ?_
        rintro e w4 ⟨rfl, n1, b1⟩
        have N4 : Hid (Net _ w4 b N S (qb A C s)) := n1
        have B4 := hide (B3.out.trans b1)
        clear n1 b1 N3 B3
        go_wp2_with fail
        refine (N4.out.takeF B4.out.size IA.out IC.out 0 ((cu3 HL.out).trans (decide_eq_false HJ.out))).mono ?_
        rintro e w5 ⟨rfl, n1, b1⟩
        have N5 : Hid (Net _ w5 b N S (qb A C s)) := n1
        have B5 := hide (B4.out.trans b1)
        clear n1 b1 N4 B4
        go_wp2_with fail
        refine (N5.out.join A C false (decide_eq_false HJ.out)).mono ?_
        rintro e wj ⟨rfl, hw⟩
        obtain rfl := hw.symm
        clear hw
        go_wp2_with fail
        refine (N5.out.join C A false (decide_eq_false fun h => HJ.out (join_symm.2 h))).mono ?_
        rintro e wj ⟨rfl, hw⟩
        obtain rfl := hw.symm
        clear hw
        go_wp2_with fail
        refine (N5.out.cut B5.out.size 0 (in64_small (by omega) (by omega))).mono ?_
        rintro e w6 ⟨rfl, n1, b1⟩
        have N6 : Hid (Net _ w6 b N 0 (qb A C s)) := n1
        have B6 := hide (B5.out.trans b1)
        clear n1 b1 N5 B5
        go_wp2_with fail
        refine (N6.out.takeT B6.out.size IA.out IC.out 0 s (cu5 HL.out hA1 hC1) cu3m).mono ?_
        rintro e w7 ⟨rfl, n1, b1⟩
        have N7 : Hid (Net _ w7 b N 0 (lessQ (qb A C s) A C 0)) := n1
        have B7 := hide (B6.out.trans b1)
        clear n1 b1 N6 B6
        go_wp2_with fail
        go_ret
        exact ⟨rfl, BE.out.trans (B7.out.mono BE.out.size)⟩
  · have HL := hide hl
    obtain rfl : A = C := Decidable.byContradiction fun h => hl ((link_iff hA1 hC1).2 h)
    clear hl
    by_cases hneg : side < 0
    · skip
      obtain rfl : S = 0 := by omega
      have hneg1 : decide (side < 0) = true := by simpa using hneg
      by_cases hj : joined N 0 A A
      · have HJ := hide hj
        have hj2 := J.1 hj
        have hj3 : ((0 : Int) / 2 ^ A % 2 == (0 : Int) / 2 ^ A % 2) = true := beq_iff_eq.2 hj2
        clear hj J hj2
        go_wp2_with fail
        refine (N2.out.sendF B2.out.size IA.out IC.out s (by omega) (cn1 HL.out)).mono ?_
        rintro e w3 ⟨rfl, n1, b1⟩
        have N3 : Hid (Net _ w3 b N 0 q0) := n1
        have B3 := hide (B2.out.trans b1)
        clear n1 b1 N2 B2
        go_wp2_with fail
        go_region
        have N3d := hide N3.out.drew
        have B3d := hide B3.out.drew
        clear N3 B3
        rename Hid (Net _ w3.drew b N _ _) => N3
        rename Hid (Below _ _ w3.drew) => B3
        go_wp2_with fail
        refine (N3.out.doubleF B3.out.size IA.out IC.out 0 (cn2 HL.out)).mono ?_
        rintro e w4 ⟨rfl, n1, b1⟩
        have N4 : Hid (Net _ w4 b N 0 q0) := n1
        have B4 := hide (B3.out.trans b1)
        clear n1 b1 N3 B3
        go_wp2_with fail
        refine (N4.out.takeF B4.out.size IA.out IC.out 0 (cn3 HL.out)).mono ?_
        rintro e w5 ⟨rfl, n1, b1⟩
        have N5 : Hid (Net _ w5 b N 0 q0) := n1
        have B5 := hide (B4.out.trans b1)
        clear n1 b1 N4 B4
        go_wp2_with fail
        refine (N5.out.join A A true (decide_eq_true HJ.out)).mono ?_
        rintro e wj ⟨rfl, hw⟩
        obtain rfl := hw.symm
        clear hw
        go_wp2_with fail
        refine (N5.out.join A A true (decide_eq_true (join_symm.1 HJ.out))).mono ?_
        rintro e wj ⟨rfl, hw⟩
        obtain rfl := hw.symm
        clear hw
        go_wp2_with fail
        refine (N5.out.cut B5.out.size 0 (in64_small (by omega) (by omega))).mono ?_
        rintro e w6 ⟨rfl, n1, b1⟩
        have N6 : Hid (Net _ w6 b N 0 q0) := n1
        have B6 := hide (B5.out.trans b1)
        clear n1 b1 N5 B5
        go_wp2_with fail
        refine (N6.out.takeF B6.out.size IA.out IC.out 0 (cn3 HL.out)).mono ?_
        rintro e w7 ⟨rfl, n1, b1⟩
        have N7 : Hid (Net _ w7 b N 0 q0) := n1
        have B7 := hide (B6.out.trans b1)
        clear n1 b1 N6 B6
        go_wp2_with fail
        go_ret
        exact ⟨rfl, BE.out.trans (B7.out.mono BE.out.size)⟩
      · exact absurd (join0 hA1 hC1) hj
    · skip
      obtain rfl : S = side := by omega
      have hneg1 : decide (S < 0) = false := by simpa using hneg
      by_cases hj : joined N S A A
      · have HJ := hide hj
        have hj2 := J.1 hj
        have hj3 : ((S : Int) / 2 ^ A % 2 == (S : Int) / 2 ^ A % 2) = true := beq_iff_eq.2 hj2
        clear hj J hj2
        go_wp2_with fail
        refine (N2.out.sendF B2.out.size IA.out IC.out s (by omega) (cn1 HL.out)).mono ?_
        rintro e w3 ⟨rfl, n1, b1⟩
        have N3 : Hid (Net _ w3 b N S q0) := n1
        have B3 := hide (B2.out.trans b1)
        clear n1 b1 N2 B2
        go_wp2_with fail
        go_region
        have N3d := hide N3.out.drew
        have B3d := hide B3.out.drew
        clear N3 B3
        rename Hid (Net _ w3.drew b N _ _) => N3
        rename Hid (Below _ _ w3.drew) => B3
        go_wp2_with fail
        refine (N3.out.doubleF B3.out.size IA.out IC.out 0 (cn2 HL.out)).mono ?_
        rintro e w4 ⟨rfl, n1, b1⟩
        have N4 : Hid (Net _ w4 b N S q0) := n1
        have B4 := hide (B3.out.trans b1)
        clear n1 b1 N3 B3
        go_wp2_with fail
        refine (N4.out.takeF B4.out.size IA.out IC.out 0 (cn3 HL.out)).mono ?_
        rintro e w5 ⟨rfl, n1, b1⟩
        have N5 : Hid (Net _ w5 b N S q0) := n1
        have B5 := hide (B4.out.trans b1)
        clear n1 b1 N4 B4
        go_wp2_with fail
        refine (N5.out.join A A true (decide_eq_true HJ.out)).mono ?_
        rintro e wj ⟨rfl, hw⟩
        obtain rfl := hw.symm
        clear hw
        go_wp2_with fail
        refine (N5.out.join A A true (decide_eq_true (join_symm.1 HJ.out))).mono ?_
        rintro e wj ⟨rfl, hw⟩
        obtain rfl := hw.symm
        clear hw
        go_wp2_with fail
        refine (N5.out.cut B5.out.size 0 (in64_small (by omega) (by omega))).mono ?_
        rintro e w6 ⟨rfl, n1, b1⟩
        have N6 : Hid (Net _ w6 b N 0 q0) := n1
        have B6 := hide (B5.out.trans b1)
        clear n1 b1 N5 B5
        go_wp2_with fail
        refine (N6.out.takeF B6.out.size IA.out IC.out 0 (cn3 HL.out)).mono ?_
        rintro e w7 ⟨rfl, n1, b1⟩
        have N7 : Hid (Net _ w7 b N 0 q0) := n1
        have B7 := hide (B6.out.trans b1)
        clear n1 b1 N6 B6
        go_wp2_with fail
        go_ret
        exact ⟨rfl, BE.out.trans (B7.out.mono BE.out.size)⟩
      · exact absurd ⟨by omega, by omega, rfl⟩ hj

end Go.Proofs.Ytfldflecelagjaa
