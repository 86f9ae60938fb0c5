/-
  SegmentBack, as it runs.
-/
import Derived.Test.YtgnehnlmbodijaaDoorZLaw0
namespace Go.Proofs.YtgnehnlmbodijaaDoor
open Go.RowKit

set_option maxHeartbeats 4000000 in
set_option maxRecDepth 20000 in
theorem back_pos (l : List Rec) (v : Value) (c0 : Nat) (w : World) (hT : Tab w) (hc0 : c0 ≤ 9223372036854775807) (hl : l.length ≤ 4611686018427387904) (hok : ∀ r ∈ l, r.ok) (ha : RecsAt w v l) :
    Calls Tryd.prog 6 #[v, .int .i64 (c0 : Int)] w fun e w' => e = .returned (.bool true) ∧ Below w.heap.size w w' := by
  have HE := hide (examples_any w hT)
  have HRI := hide (fun W (h : RecsAt W v l) => rising_any l v W hl hok h)
  have HA := hide ha
  have HT := hide hT
  obtain ⟨ao, ac, rfl⟩ := recs_shape ha
  clear ha hT hok
  go_enter Tryd.func6, Tryd.ntmps6
  go_wp2_with fail
  refine HE.out.mono ?_
  rintro e w1 ⟨rfl, b1⟩
  have B1 := hide b1
  clear b1 HE
  go_wp2_with fail
  refine (HRI.out _ (HA.out.below B1.out)).mono ?_
  rintro e w2 ⟨v2, out, rfl, hrs, hol, ho, b2⟩
  have B2 := hide (B1.out.trans (b2.mono B1.out.size))
  have R2 := hide (recs_of_row ho)
  obtain ⟨oo, oc, rfl⟩ := own_slice ho
  have hoc := own_cap ho
  have HWR := hide (fun W hT h => written_any out (.slice oo out.length oc) W hT hol (rises_right 0 out hrs) h)
  have HRS := hide hrs
  clear b2 B1 HRI HA ho hrs hl
  go_wp2_with fail
  refine (HWR.out _ (HT.out.below B2.out) R2.out).mono ?_
  rintro e w3 ⟨ev, rfl, oe, b3⟩
  have B3 := hide (B2.out.trans (b3.mono B2.out.size))
  have R3 := hide (R2.out.below b3)
  obtain ⟨eo, ec, rfl⟩ := own_slice oe
  have OE := hide oe
  clear b3 B2 HWR oe R2
  obtain ⟨S, hS, hSs, hSl, hX, hC⟩ := back_calls out HRS.out hol
  have HX := hide hX
  have HC := hide hC
  have HSL := hide hSl
  rw [← hS]
  clear hS hX hC hSl
  go_wp2_with fail
  refine (HX.out _ (HT.out.below B3.out)).mono ?_
  rintro e w4 ⟨v4, rfl, r4, b4⟩
  have B4 := hide (B3.out.trans (b4.mono B3.out.size))
  have R4 := hide (R3.out.below b4)
  have OE4 := hide (K.own_below OE.out b4 (Nat.le_refl _))
  obtain ⟨po, pc, rfl⟩ := recs_shape r4
  have HRE : Hid (Calls Tryd.prog 16 #[.slice po out.length pc, .slice oo out.length oc] w4 fun e w' => e = .returned (.bool true) ∧ ∃ n, w' = w4.drewN n) := records_same out _ _ w4 (by omega) r4 R4.out
  clear r4 b4 B3 R3 HX OE
  go_wp2_with fail
  refine HRE.out.mono ?_
  rintro e w5 ⟨rfl, n5, rfl⟩
  have hbn : Below w4.heap.size w4 (w4.drewN n5) := below_drewN (Below.refl _ w4) n5
  have B5 := hide (B4.out.trans (hbn.mono B4.out.size))
  have R5 := hide (R4.out.below hbn)
  have OE5 := hide (K.own_below OE4.out hbn (Nat.le_refl _))
  clear hbn B4 R4 OE4 HRE
  generalize w4.drewN n5 = w5 at *
  go_wp2
  have hce : (c0 : Int) % ((S.size : Int) + 1) = ((c0 % (S.size + 1) : Nat) : Int) := by rw [Int.natCast_emod]; rfl
  rw [hce]
  have hcS : c0 % (S.size + 1) ≤ S.size := by have := Nat.mod_lt c0 (show 0 < S.size + 1 by omega); omega
  clear hce
  generalize c0 % (S.size + 1) = c at *
  have HCS : Hid (c ≤ S.size) := hcS
  have HEA : Hid (∀ i, i < out.length → ∃ g, eo = some ⟨g, 0, none⟩ ∧ g < w5.heap.size ∧ w5.cell? ⟨g, i, none⟩ = some (.int .i64 ((writtenF (out.take (i + 1))).length : Nat))) := fun i hi => ends_at OE5.out i hi
  go_loopw [12] (fun i wv => wv = w5 ∧ ∃ m : Nat, m ≤ out.length ∧ i = .int .i64 m ∧ Hid ((writtenF (out.take m)).length ≤ c)) (fun i _ => out.length - (intOf i).toNat)
  case atStart => exact ⟨rfl, 0, Nat.zero_le _, rfl, (by simp [writtenF] : (writtenF (out.take 0)).length ≤ c)⟩
  case round =>
    obtain ⟨rfl, m, hm, rfl, HP⟩ := hrel
    have HML : Hid (m ≤ out.length) := hm
    by_cases hmk : m < out.length
    · obtain ⟨g, hge, hg, hcell⟩ := HEA.out m hmk
      cases hge
      obtain ⟨N1, hN1⟩ : ∃ N1, (writtenF (out.take (m + 1))).length = N1 := ⟨_, rfl⟩
      rw [hN1] at hcell
      have HN1 := hide hN1
      clear hN1
      by_cases hle : N1 ≤ c
      · go_wp2
        exact ⟨⟨by first | rfl | trivial, m + 1, by omega, by go_num, by rw [HN1.out]; exact hle⟩, by simp [intOf]; omega⟩
      · have HQ : Hid (m = out.length ∨ c < (writtenF (out.take (m + 1))).length) := Or.inr (by rw [HN1.out]; omega)
        obtain ⟨N, hN⟩ : ∃ N, (writtenF (out.take m)).length = N := ⟨_, rfl⟩
        have HN := hide hN
        have HNC : Hid (N ≤ c) := by rw [← hN]; exact HP.out
        have hNc2 : N ≤ c := HNC.out
        clear hN
        have HRM := hide (R5.out.take m HML.out)
        have HCc := hide (HC.out _ c m N (HT.out.below B5.out) HCS.out HML.out HN.out HNC.out HQ.out)
        have hmoc : m ≤ oc := by omega
        by_cases hNc : N = c
        · rw [if_pos hNc] at HCc
          have hNi : ((N : Int) == (c : Int)) = true := by rw [beq_iff_eq]; omega
          clear hNc
          go_wp2_with fail
          refine HCc.out.mono ?_
          rintro e w6 ⟨v6, rfl, r6, b6⟩
          have B6 := hide (B5.out.trans (b6.mono B5.out.size))
          have RM6 := hide (HRM.out.below b6)
          have R6 := hide r6
          obtain ⟨so, sc, rfl⟩ := recs_shape r6
          have hTK : (out.take m).length = m := by rw [List.length_take]; have := HML.out; omega
          rw [hTK]
          have HRE : Hid (Calls Tryd.prog 16 #[.slice so m sc, .slice oo m oc] w6 fun e w' => e = .returned (.bool true) ∧ ∃ n, w' = w6.drewN n) := records_same (out.take m) _ _ w6 (by omega) (by rw [hTK] at R6; exact R6.out) RM6.out
          clear b6 r6 R6 RM6 hTK
          go_wp2_with fail
          refine HRE.out.mono ?_
          rintro e w7 ⟨rfl, nq, rfl⟩
          go_wp2
          go_ret
          exact ⟨rfl, below_drewN B6.out nq⟩
        · rw [if_neg hNc] at HCc
          have hNi : ((N : Int) == (c : Int)) = false := by rw [beq_eq_false_iff_ne]; omega
          clear hNc
          go_wp2_with fail
          refine HCc.out.mono ?_
          rintro e w6 ⟨v6, rfl, r6, b6⟩
          have B6 := hide (B5.out.trans (b6.mono B5.out.size))
          have RM6 := hide (HRM.out.below b6)
          have R6 := hide r6
          obtain ⟨so, sc, rfl⟩ := recs_shape r6
          have hTK : (out.take m).length = m := by rw [List.length_take]; have := HML.out; omega
          rw [hTK]
          have HRE : Hid (Calls Tryd.prog 16 #[.slice so m sc, .slice oo m oc] w6 fun e w' => e = .returned (.bool true) ∧ ∃ n, w' = w6.drewN n) := records_same (out.take m) _ _ w6 (by omega) (by rw [hTK] at R6; exact R6.out) RM6.out
          clear b6 r6 R6 RM6 hTK
          go_wp2_with fail
          refine HRE.out.mono ?_
          rintro e w7 ⟨rfl, nq, rfl⟩
          go_wp2
          go_ret
          exact ⟨rfl, below_drewN B6.out nq⟩
    · have HQ : Hid (m = out.length ∨ c < (writtenF (out.take (m + 1))).length) := Or.inl (by omega)
      obtain ⟨N, hN⟩ : ∃ N, (writtenF (out.take m)).length = N := ⟨_, rfl⟩
      have HN := hide hN
      have HNC : Hid (N ≤ c) := by rw [← hN]; exact HP.out
      have hNc2 : N ≤ c := HNC.out
      clear hN
      have HRM := hide (R5.out.take m HML.out)
      have HCc := hide (HC.out _ c m N (HT.out.below B5.out) HCS.out HML.out HN.out HNC.out HQ.out)
      have hmoc : m ≤ oc := by omega
      by_cases hNc : N = c
      · rw [if_pos hNc] at HCc
        have hNi : ((N : Int) == (c : Int)) = true := by rw [beq_iff_eq]; omega
        clear hNc
        go_wp2_with fail
        refine HCc.out.mono ?_
        rintro e w6 ⟨v6, rfl, r6, b6⟩
        have B6 := hide (B5.out.trans (b6.mono B5.out.size))
        have RM6 := hide (HRM.out.below b6)
        have R6 := hide r6
        obtain ⟨so, sc, rfl⟩ := recs_shape r6
        have hTK : (out.take m).length = m := by rw [List.length_take]; have := HML.out; omega
        rw [hTK]
        have HRE : Hid (Calls Tryd.prog 16 #[.slice so m sc, .slice oo m oc] w6 fun e w' => e = .returned (.bool true) ∧ ∃ n, w' = w6.drewN n) := records_same (out.take m) _ _ w6 (by omega) (by rw [hTK] at R6; exact R6.out) RM6.out
        clear b6 r6 R6 RM6 hTK
        go_wp2_with fail
        refine HRE.out.mono ?_
        rintro e w7 ⟨rfl, nq, rfl⟩
        go_wp2
        go_ret
        exact ⟨rfl, below_drewN B6.out nq⟩
      · rw [if_neg hNc] at HCc
        have hNi : ((N : Int) == (c : Int)) = false := by rw [beq_eq_false_iff_ne]; omega
        clear hNc
        go_wp2_with fail
        refine HCc.out.mono ?_
        rintro e w6 ⟨v6, rfl, r6, b6⟩
        have B6 := hide (B5.out.trans (b6.mono B5.out.size))
        have RM6 := hide (HRM.out.below b6)
        have R6 := hide r6
        obtain ⟨so, sc, rfl⟩ := recs_shape r6
        have hTK : (out.take m).length = m := by rw [List.length_take]; have := HML.out; omega
        rw [hTK]
        have HRE : Hid (Calls Tryd.prog 16 #[.slice so m sc, .slice oo m oc] w6 fun e w' => e = .returned (.bool true) ∧ ∃ n, w' = w6.drewN n) := records_same (out.take m) _ _ w6 (by omega) (by rw [hTK] at R6; exact R6.out) RM6.out
        clear b6 r6 R6 RM6 hTK
        go_wp2_with fail
        refine HRE.out.mono ?_
        rintro e w7 ⟨rfl, nq, rfl⟩
        go_wp2
        go_ret
        exact ⟨rfl, below_drewN B6.out nq⟩
set_option maxHeartbeats 4000000 in
set_option maxRecDepth 20000 in
theorem back_neg (l : List Rec) (v : Value) (c0 : Nat) (w : World) (hT : Tab w) (hc0 : c0 ≤ 9223372036854775807) (hl : l.length ≤ 4611686018427387904) (hok : ∀ r ∈ l, r.ok) (ha : RecsAt w v l) :
    Calls Tryd.prog 6 #[v, .int .i64 (-(c0 : Int) - 1)] w fun e w' => e = .returned (.bool true) ∧ Below w.heap.size w w' := by
  have HE := hide (examples_any w hT)
  have HRI := hide (fun W (h : RecsAt W v l) => rising_any l v W hl hok h)
  have HA := hide ha
  have HT := hide hT
  obtain ⟨ao, ac, rfl⟩ := recs_shape ha
  clear ha hT hok
  go_enter Tryd.func6, Tryd.ntmps6
  go_wp2_with fail
  refine HE.out.mono ?_
  rintro e w1 ⟨rfl, b1⟩
  have B1 := hide b1
  clear b1 HE
  go_wp2_with fail
  refine (HRI.out _ (HA.out.below B1.out)).mono ?_
  rintro e w2 ⟨v2, out, rfl, hrs, hol, ho, b2⟩
  have B2 := hide (B1.out.trans (b2.mono B1.out.size))
  have R2 := hide (recs_of_row ho)
  obtain ⟨oo, oc, rfl⟩ := own_slice ho
  have hoc := own_cap ho
  have HWR := hide (fun W hT h => written_any out (.slice oo out.length oc) W hT hol (rises_right 0 out hrs) h)
  have HRS := hide hrs
  clear b2 B1 HRI HA ho hrs hl
  go_wp2_with fail
  refine (HWR.out _ (HT.out.below B2.out) R2.out).mono ?_
  rintro e w3 ⟨ev, rfl, oe, b3⟩
  have B3 := hide (B2.out.trans (b3.mono B2.out.size))
  have R3 := hide (R2.out.below b3)
  obtain ⟨eo, ec, rfl⟩ := own_slice oe
  have OE := hide oe
  clear b3 B2 HWR oe R2
  obtain ⟨S, hS, hSs, hSl, hX, hC⟩ := back_calls out HRS.out hol
  have HX := hide hX
  have HC := hide hC
  have HSL := hide hSl
  rw [← hS]
  clear hS hX hC hSl
  go_wp2_with fail
  refine (HX.out _ (HT.out.below B3.out)).mono ?_
  rintro e w4 ⟨v4, rfl, r4, b4⟩
  have B4 := hide (B3.out.trans (b4.mono B3.out.size))
  have R4 := hide (R3.out.below b4)
  have OE4 := hide (K.own_below OE.out b4 (Nat.le_refl _))
  obtain ⟨po, pc, rfl⟩ := recs_shape r4
  have HRE : Hid (Calls Tryd.prog 16 #[.slice po out.length pc, .slice oo out.length oc] w4 fun e w' => e = .returned (.bool true) ∧ ∃ n, w' = w4.drewN n) := records_same out _ _ w4 (by omega) r4 R4.out
  clear r4 b4 B3 R3 HX OE
  go_wp2_with fail
  refine HRE.out.mono ?_
  rintro e w5 ⟨rfl, n5, rfl⟩
  have hbn : Below w4.heap.size w4 (w4.drewN n5) := below_drewN (Below.refl _ w4) n5
  have B5 := hide (B4.out.trans (hbn.mono B4.out.size))
  have R5 := hide (R4.out.below hbn)
  have OE5 := hide (K.own_below OE4.out hbn (Nat.le_refl _))
  clear hbn B4 R4 OE4 HRE
  generalize w4.drewN n5 = w5 at *
  go_wp2
  have hce : (c0 : Int) % ((S.size : Int) + 1) = ((c0 % (S.size + 1) : Nat) : Int) := by rw [Int.natCast_emod]; rfl
  rw [hce]
  have hcS : c0 % (S.size + 1) ≤ S.size := by have := Nat.mod_lt c0 (show 0 < S.size + 1 by omega); omega
  clear hce
  generalize c0 % (S.size + 1) = c at *
  have HCS : Hid (c ≤ S.size) := hcS
  have HEA : Hid (∀ i, i < out.length → ∃ g, eo = some ⟨g, 0, none⟩ ∧ g < w5.heap.size ∧ w5.cell? ⟨g, i, none⟩ = some (.int .i64 ((writtenF (out.take (i + 1))).length : Nat))) := fun i hi => ends_at OE5.out i hi
  go_loopw [12] (fun i wv => wv = w5 ∧ ∃ m : Nat, m ≤ out.length ∧ i = .int .i64 m ∧ Hid ((writtenF (out.take m)).length ≤ c)) (fun i _ => out.length - (intOf i).toNat)
  case atStart => exact ⟨rfl, 0, Nat.zero_le _, rfl, (by simp [writtenF] : (writtenF (out.take 0)).length ≤ c)⟩
  case round =>
    obtain ⟨rfl, m, hm, rfl, HP⟩ := hrel
    have HML : Hid (m ≤ out.length) := hm
    by_cases hmk : m < out.length
    · obtain ⟨g, hge, hg, hcell⟩ := HEA.out m hmk
      cases hge
      obtain ⟨N1, hN1⟩ : ∃ N1, (writtenF (out.take (m + 1))).length = N1 := ⟨_, rfl⟩
      rw [hN1] at hcell
      have HN1 := hide hN1
      clear hN1
      by_cases hle : N1 ≤ c
      · go_wp2
        exact ⟨⟨by first | rfl | trivial, m + 1, by omega, by go_num, by rw [HN1.out]; exact hle⟩, by simp [intOf]; omega⟩
      · have HQ : Hid (m = out.length ∨ c < (writtenF (out.take (m + 1))).length) := Or.inr (by rw [HN1.out]; omega)
        obtain ⟨N, hN⟩ : ∃ N, (writtenF (out.take m)).length = N := ⟨_, rfl⟩
        have HN := hide hN
        have HNC : Hid (N ≤ c) := by rw [← hN]; exact HP.out
        have hNc2 : N ≤ c := HNC.out
        clear hN
        have HRM := hide (R5.out.take m HML.out)
        have HCc := hide (HC.out _ c m N (HT.out.below B5.out) HCS.out HML.out HN.out HNC.out HQ.out)
        have hmoc : m ≤ oc := by omega
        by_cases hNc : N = c
        · rw [if_pos hNc] at HCc
          have hNi : ((N : Int) == (c : Int)) = true := by rw [beq_iff_eq]; omega
          clear hNc
          go_wp2_with fail
          refine HCc.out.mono ?_
          rintro e w6 ⟨v6, rfl, r6, b6⟩
          have B6 := hide (B5.out.trans (b6.mono B5.out.size))
          have RM6 := hide (HRM.out.below b6)
          have R6 := hide r6
          obtain ⟨so, sc, rfl⟩ := recs_shape r6
          have hTK : (out.take m).length = m := by rw [List.length_take]; have := HML.out; omega
          rw [hTK]
          have HRE : Hid (Calls Tryd.prog 16 #[.slice so m sc, .slice oo m oc] w6 fun e w' => e = .returned (.bool true) ∧ ∃ n, w' = w6.drewN n) := records_same (out.take m) _ _ w6 (by omega) (by rw [hTK] at R6; exact R6.out) RM6.out
          clear b6 r6 R6 RM6 hTK
          go_wp2_with fail
          refine HRE.out.mono ?_
          rintro e w7 ⟨rfl, nq, rfl⟩
          go_wp2
          go_ret
          exact ⟨rfl, below_drewN B6.out nq⟩
        · rw [if_neg hNc] at HCc
          have hNi : ((N : Int) == (c : Int)) = false := by rw [beq_eq_false_iff_ne]; omega
          clear hNc
          go_wp2_with fail
          refine HCc.out.mono ?_
          rintro e w6 ⟨v6, rfl, r6, b6⟩
          have B6 := hide (B5.out.trans (b6.mono B5.out.size))
          have RM6 := hide (HRM.out.below b6)
          have R6 := hide r6
          obtain ⟨so, sc, rfl⟩ := recs_shape r6
          have hTK : (out.take m).length = m := by rw [List.length_take]; have := HML.out; omega
          rw [hTK]
          have HRE : Hid (Calls Tryd.prog 16 #[.slice so m sc, .slice oo m oc] w6 fun e w' => e = .returned (.bool true) ∧ ∃ n, w' = w6.drewN n) := records_same (out.take m) _ _ w6 (by omega) (by rw [hTK] at R6; exact R6.out) RM6.out
          clear b6 r6 R6 RM6 hTK
          go_wp2_with fail
          refine HRE.out.mono ?_
          rintro e w7 ⟨rfl, nq, rfl⟩
          go_wp2
          go_ret
          exact ⟨rfl, below_drewN B6.out nq⟩
    · have HQ : Hid (m = out.length ∨ c < (writtenF (out.take (m + 1))).length) := Or.inl (by omega)
      obtain ⟨N, hN⟩ : ∃ N, (writtenF (out.take m)).length = N := ⟨_, rfl⟩
      have HN := hide hN
      have HNC : Hid (N ≤ c) := by rw [← hN]; exact HP.out
      have hNc2 : N ≤ c := HNC.out
      clear hN
      have HRM := hide (R5.out.take m HML.out)
      have HCc := hide (HC.out _ c m N (HT.out.below B5.out) HCS.out HML.out HN.out HNC.out HQ.out)
      have hmoc : m ≤ oc := by omega
      by_cases hNc : N = c
      · rw [if_pos hNc] at HCc
        have hNi : ((N : Int) == (c : Int)) = true := by rw [beq_iff_eq]; omega
        clear hNc
        go_wp2_with fail
        refine HCc.out.mono ?_
        rintro e w6 ⟨v6, rfl, r6, b6⟩
        have B6 := hide (B5.out.trans (b6.mono B5.out.size))
        have RM6 := hide (HRM.out.below b6)
        have R6 := hide r6
        obtain ⟨so, sc, rfl⟩ := recs_shape r6
        have hTK : (out.take m).length = m := by rw [List.length_take]; have := HML.out; omega
        rw [hTK]
        have HRE : Hid (Calls Tryd.prog 16 #[.slice so m sc, .slice oo m oc] w6 fun e w' => e = .returned (.bool true) ∧ ∃ n, w' = w6.drewN n) := records_same (out.take m) _ _ w6 (by omega) (by rw [hTK] at R6; exact R6.out) RM6.out
        clear b6 r6 R6 RM6 hTK
        go_wp2_with fail
        refine HRE.out.mono ?_
        rintro e w7 ⟨rfl, nq, rfl⟩
        go_wp2
        go_ret
        exact ⟨rfl, below_drewN B6.out nq⟩
      · rw [if_neg hNc] at HCc
        have hNi : ((N : Int) == (c : Int)) = false := by rw [beq_eq_false_iff_ne]; omega
        clear hNc
        go_wp2_with fail
        refine HCc.out.mono ?_
        rintro e w6 ⟨v6, rfl, r6, b6⟩
        have B6 := hide (B5.out.trans (b6.mono B5.out.size))
        have RM6 := hide (HRM.out.below b6)
        have R6 := hide r6
        obtain ⟨so, sc, rfl⟩ := recs_shape r6
        have hTK : (out.take m).length = m := by rw [List.length_take]; have := HML.out; omega
        rw [hTK]
        have HRE : Hid (Calls Tryd.prog 16 #[.slice so m sc, .slice oo m oc] w6 fun e w' => e = .returned (.bool true) ∧ ∃ n, w' = w6.drewN n) := records_same (out.take m) _ _ w6 (by omega) (by rw [hTK] at R6; exact R6.out) RM6.out
        clear b6 r6 R6 RM6 hTK
        go_wp2_with fail
        refine HRE.out.mono ?_
        rintro e w7 ⟨rfl, nq, rfl⟩
        go_wp2
        go_ret
        exact ⟨rfl, below_drewN B6.out nq⟩
theorem back_walk (l : List Rec) (v : Value) (cut : Int) (w : World) (hT : Tab w) (h1 : -9223372036854775808 ≤ cut) (h2 : cut ≤ 9223372036854775807) (hl : l.length ≤ 4611686018427387904) (hok : ∀ r ∈ l, r.ok) (ha : RecsAt w v l) :
    Calls Tryd.prog 6 #[v, .int .i64 cut] w fun e w' => e = .returned (.bool true) ∧ Below w.heap.size w w' := by
  by_cases h0 : 0 ≤ cut
  · obtain ⟨c0, rfl⟩ : ∃ c0 : Nat, cut = (c0 : Int) := ⟨cut.toNat, by omega⟩
    exact back_pos l v c0 w hT (by omega) hl hok ha
  · obtain ⟨c0, rfl⟩ : ∃ c0 : Nat, cut = -(c0 : Int) - 1 := ⟨(-(cut + 1)).toNat, by omega⟩
    exact back_neg l v c0 w hT (by omega) hl hok ha
end Go.Proofs.YtgnehnlmbodijaaDoor
