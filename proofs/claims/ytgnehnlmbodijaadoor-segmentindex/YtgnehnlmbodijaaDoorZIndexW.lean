/-
  SegmentIndex, as it runs.
-/
import Derived.Test.YtgnehnlmbodijaaDoorZLaw0
namespace Go.Proofs.YtgnehnlmbodijaaDoor
open Go.RowKit

set_option maxHeartbeats 4000000 in
set_option maxRecDepth 20000 in
theorem index_pos (l : List Rec) (v : Value) (c0 : Nat) (off most : Int) (w : World) (hT : Tab w) (hc0 : c0 ≤ 9223372036854775807) (hl : l.length ≤ 4611686018427387904) (hok : ∀ r ∈ l, r.ok) (ha : RecsAt w v l) :
    Calls Tryd.prog 7 #[v, .int .i64 (c0 : Int), .int .i64 off, .int .i64 most] w fun e w' => e = .returned (.bool true) ∧ Below w.heap.size w w' := by
  have HE := hide (examples_any w hT)
  have HRI := hide (fun W (h : RecsAt W v l) => rising_any l v W hl hok h)
  have HA := hide ha
  have HT := hide hT
  obtain ⟨ao, ac, rfl⟩ := recs_shape ha
  clear ha hT hok
  go_enter Tryd.func7, Tryd.ntmps7
  go_wp2_with fail
  refine HE.out.mono ?_
  rintro e w1 ⟨rfl, b1⟩
  have B1 := hide b1
  clear b1 HE
  go_wp2_with fail
  refine (HRI.out _ (HA.out.below B1.out)).mono ?_
  rintro e w2 ⟨v2, out, rfl, hrs, hol, ho, b2⟩
  have B2 := hide (B1.out.trans (b2.mono B1.out.size))
  have R2 := hide (recs_of_row ho)
  obtain ⟨oo, oc, rfl⟩ := own_slice ho
  have hoc := own_cap ho
  have HWR := hide (fun W hT h => written_any out (.slice oo out.length oc) W hT hol (rises_right 0 out hrs) h)
  have HRS := hide hrs
  clear b2 B1 HRI HA ho hrs hl
  go_wp2_with fail
  refine (HWR.out _ (HT.out.below B2.out) R2.out).mono ?_
  rintro e w3 ⟨ev, rfl, oe, b3⟩
  have B3 := hide (B2.out.trans (b3.mono B2.out.size))
  have R3 := hide (R2.out.below b3)
  obtain ⟨eo, ec, rfl⟩ := own_slice oe
  have OE := hide oe
  clear b3 B2 HWR oe R2
  obtain ⟨en, hen⟩ : ∃ en : Nat, 1 + (c0 : Int) % 10 = en := ⟨(1 + (c0 : Int) % 10).toNat, by omega⟩
  have he1 : 1 ≤ en := by omega
  have he2 : en ≤ 10 := by omega
  obtain ⟨S, hS, hSs, hX, hF, hN⟩ := idx_calls out HRS.out hol off most en he1 he2
  have hwl : ((wantR out off).take most.toNat).length ≤ 30 := by
    have := wantR_le out off out.length
    rw [List.take_length] at this
    rw [List.length_take]
    omega
  obtain ⟨WL, hWL⟩ : ∃ WL, (wantR out off).take most.toNat = WL := ⟨_, rfl⟩
  rw [hWL] at hF hN hwl
  have HWL := hide hWL
  clear hWL
  have HX := hide hX
  have HF := hide hF
  have HN := hide hN
  rw [← hS]
  clear hS hX hF hN OE
  go_wp2_with fail
  refine (HX.out _ (HT.out.below B3.out)).mono ?_
  rintro e w4 ⟨xv, rfl, e4, b4⟩
  have B4 := hide (B3.out.trans (b4.mono B3.out.size))
  have R4 := hide (R3.out.below b4)
  have E4 := hide e4
  obtain ⟨xo, xc, rfl⟩ := ents_shape e4
  clear e4 b4 B3 R3 HX
  go_wp2_with fail
  refine (HF.out _ _ (HT.out.below B4.out) E4.out).mono ?_
  rintro e w5 ⟨va, rfl, ra5, b5⟩
  have B5 := hide (B4.out.trans (b5.mono B4.out.size))
  have R5 := hide (R4.out.below b5)
  have A5 := hide ra5
  obtain ⟨fo, fc, rfl⟩ := recs_shape ra5
  clear ra5 b5 B4 R4 HF E4
  go_wp2_with fail
  refine (HN.out _ (HT.out.below B5.out)).mono ?_
  rintro e w6 ⟨vb, rfl, rb6, b6⟩
  have B6 := hide (B5.out.trans (b6.mono B5.out.size))
  have R6 := hide (R5.out.below b6)
  have A6 := hide (A5.out.below b6)
  have C6 := hide rb6
  obtain ⟨ho, hc, rfl⟩ := recs_shape rb6
  clear rb6 b6 B5 R5 A5 HN
  have HRE : Hid (Calls Tryd.prog 16 #[.slice fo WL.length fc, .slice ho WL.length hc] w6 fun e w' => e = .returned (.bool true) ∧ ∃ n, w' = w6.drewN n) := records_same WL _ _ w6 (by omega) A6.out C6.out
  clear C6
  go_wp2_with fail
  refine HRE.out.mono ?_
  rintro e w7 ⟨rfl, n7, rfl⟩
  have hbn : Below w6.heap.size w6 (w6.drewN n7) := below_drewN (Below.refl _ w6) n7
  have B7 := hide (B6.out.trans (hbn.mono B6.out.size))
  have R7 := hide (R6.out.below hbn)
  have A7 := hide (A6.out.below hbn)
  clear hbn B6 R6 A6 HRE
  generalize w6.drewN n7 = w7 at *
  go_wp2
  go_loopw [17, 18] (fun xv iv wv => ∃ (k : Nat) (qo : Option Addr) (qc : Nat), k ≤ out.length ∧ (wantR (out.take k) off).length ≤ most.toNat ∧ xv = .slice qo (wantR (out.take k) off).length qc ∧ iv = .int .i64 k ∧ Hid (Below w7.heap.size w7 wv) ∧ Hid (wv.ownsRow w7.heap.size 23 5 (.slice qo (wantR (out.take k) off).length qc) (wantR (out.take k) off).length (recRow (wantR (out.take k) off)))) (fun _ iv _ => out.length - (intOf iv).toNat)
  case atStart => exact ⟨0, none, 0, Nat.zero_le _, by simp [wantR], by simp [wantR], rfl, Below.refl _ _, by simp [wantR, recRow]; exact nil_own _ _ _ _⟩
  case round =>
    obtain ⟨k, qo, qc, hk, hm, rfl, rfl, BV, OV⟩ := hrel
    by_cases hk1 : k < out.length
    · by_cases hk2 : ((wantR (out.take k) off).length : Int) < most
      · obtain ⟨_, b, off', rfl, hb, a0, a1, a2, a3, a4⟩ := (R7.out.below BV.out).five k hk1
        have HS := hide (wantR_succ out off k hk1)
        have hi0 : (0 : Int) ≤ (k : Int) := by omega
        have hi1 : (k : Int) < (out.length : Int) := by omega
        have hql := wantR_le out off k
        generalize out[k] = x at *
        generalize hQ : wantR (out.take k) off = Q at *
        clear hQ
        obtain ⟨xo, xp, xs, xk, xv⟩ := x
        simp only at a0 a1 a2 a3 a4
        by_cases hof : off ≤ xo
        · have HS2 : Hid (wantR (out.take (k + 1)) off = Q ++ [⟨xo, xp, xs, xk, xv⟩]) := by have := HS.out; simp only at this; rw [if_pos hof] at this; exact this
          clear HS
          go_wp2_with (at_builtin; refine wpList_append_own _ rfl _ _ 31 rfl w7.heap.size 23 Tryd.t23 Rec.zero.v 5 64 Tryd.underlying31 ?hi ?hz ?hs ?hby rfl (by decide) _ _ _ rfl (OV.out.alloc _) ⟨_, 0, none⟩ 1 1 (Rec.cells ⟨xo, xp, xs, xk, xv⟩) rfl rfl ?hnews ?h1 ?h63 ?hb47 ?hbase ?_)
          case hi => exact Tryd.infoRec
          case hz => exact Tryd.zeroRec
          case hs => exact Tryd.sizeRec
          case hby => exact Tryd.bytesRec
          case hnews => exact fun j u h => h
          case h1 => exact Rec.ones _
          case h63 => unfold maxLen; omega
          case hb47 => omega
          case hbase => have := BV.out.size; simp; omega
          intro v' w8 hown hgrow _
          obtain ⟨no, nc, rfl⟩ := own_slice hown
          have B8 : Hid (Below w7.heap.size w7 w8) := (BV.out.alloc BV.out.size _).grown hgrow (by have := BV.out.size; simp; omega) (fun k hk => (OV.out.lt k hk).1)
          have O8 : Hid (w8.ownsRow w7.heap.size 23 5 (.slice no (Q ++ [(⟨xo, xp, xs, xk, xv⟩ : Rec)]).length nc) (Q ++ [(⟨xo, xp, xs, xk, xv⟩ : Rec)]).length (recRow (Q ++ [(⟨xo, xp, xs, xk, xv⟩ : Rec)]))) := by
            rw [recRow_snoc, List.length_append, List.length_singleton]
            exact hown
          clear hown hgrow
          go_wp2
          go_roundw
          case rel => exact ⟨k + 1, no, nc, by omega, by rw [HS2.out, List.length_append, List.length_singleton]; omega, by rw [HS2.out, List.length_append, List.length_singleton], by go_num, B8.out, by rw [HS2.out]; exact O8.out⟩
          case measure => simp [intOf]; omega
        · have HS2 : Hid (wantR (out.take (k + 1)) off = Q) := by have := HS.out; simp only at this; rw [if_neg hof] at this; exact this
          clear HS
          go_wp2
          go_roundw
          case rel => exact ⟨k + 1, qo, qc, by omega, by rw [HS2.out]; exact hm, by rw [HS2.out], by go_num, BV.out, by rw [HS2.out]; exact OV.out⟩
          case measure => simp [intOf]; omega
      · have HEND : Hid (out.length ≤ k ∨ most ≤ ((wantR (out.take k) off).length : Int)) := Or.inr (by omega)
        have hi1 : (k : Int) < (out.length : Int) := by omega
        have hdone := wantR_done out off most k hm HEND.out
        have C8 := hide (recs_of_row OV.out)
        have A8 := hide (A7.out.below BV.out)
        have HRE2 : Hid (Calls Tryd.prog 16 #[.slice fo WL.length fc, .slice qo (wantR (out.take k) off).length qc] wr fun e w' => e = .returned (.bool true) ∧ ∃ n, w' = wr.drewN n) := by
          have h1 := A8.out
          have h2 := C8.out
          rw [hdone, HWL.out] at h2 ⊢
          exact records_same WL _ _ wr (by omega) h1 h2
        have B8 := hide (B7.out.trans (BV.out.mono B7.out.size))
        clear hdone C8 A8 BV OV
        generalize (wantR (out.take k) off).length = Q at *
        go_wp2_with fail
        refine HRE2.out.mono ?_
        rintro e w9 ⟨rfl, nq, rfl⟩
        go_wp2
        go_ret
        exact ⟨rfl, below_drewN B8.out nq⟩
    · have HEND : Hid (out.length ≤ k ∨ most ≤ ((wantR (out.take k) off).length : Int)) := Or.inl (by omega)
      have hi1 : ¬ (k : Int) < (out.length : Int) := by omega
      have hdone := wantR_done out off most k hm HEND.out
      have C8 := hide (recs_of_row OV.out)
      have A8 := hide (A7.out.below BV.out)
      have HRE2 : Hid (Calls Tryd.prog 16 #[.slice fo WL.length fc, .slice qo (wantR (out.take k) off).length qc] wr fun e w' => e = .returned (.bool true) ∧ ∃ n, w' = wr.drewN n) := by
        have h1 := A8.out
        have h2 := C8.out
        rw [hdone, HWL.out] at h2 ⊢
        exact records_same WL _ _ wr (by omega) h1 h2
      have B8 := hide (B7.out.trans (BV.out.mono B7.out.size))
      clear hdone C8 A8 BV OV
      generalize (wantR (out.take k) off).length = Q at *
      go_wp2_with fail
      refine HRE2.out.mono ?_
      rintro e w9 ⟨rfl, nq, rfl⟩
      go_wp2
      go_ret
      exact ⟨rfl, below_drewN B8.out nq⟩
set_option maxHeartbeats 4000000 in
set_option maxRecDepth 20000 in
theorem index_neg (l : List Rec) (v : Value) (c0 : Nat) (off most : Int) (w : World) (hT : Tab w) (hc0 : c0 ≤ 9223372036854775807) (hl : l.length ≤ 4611686018427387904) (hok : ∀ r ∈ l, r.ok) (ha : RecsAt w v l) :
    Calls Tryd.prog 7 #[v, .int .i64 (-(c0 : Int) - 1), .int .i64 off, .int .i64 most] w fun e w' => e = .returned (.bool true) ∧ Below w.heap.size w w' := by
  have HE := hide (examples_any w hT)
  have HRI := hide (fun W (h : RecsAt W v l) => rising_any l v W hl hok h)
  have HA := hide ha
  have HT := hide hT
  obtain ⟨ao, ac, rfl⟩ := recs_shape ha
  clear ha hT hok
  go_enter Tryd.func7, Tryd.ntmps7
  go_wp2_with fail
  refine HE.out.mono ?_
  rintro e w1 ⟨rfl, b1⟩
  have B1 := hide b1
  clear b1 HE
  go_wp2_with fail
  refine (HRI.out _ (HA.out.below B1.out)).mono ?_
  rintro e w2 ⟨v2, out, rfl, hrs, hol, ho, b2⟩
  have B2 := hide (B1.out.trans (b2.mono B1.out.size))
  have R2 := hide (recs_of_row ho)
  obtain ⟨oo, oc, rfl⟩ := own_slice ho
  have hoc := own_cap ho
  have HWR := hide (fun W hT h => written_any out (.slice oo out.length oc) W hT hol (rises_right 0 out hrs) h)
  have HRS := hide hrs
  clear b2 B1 HRI HA ho hrs hl
  go_wp2_with fail
  refine (HWR.out _ (HT.out.below B2.out) R2.out).mono ?_
  rintro e w3 ⟨ev, rfl, oe, b3⟩
  have B3 := hide (B2.out.trans (b3.mono B2.out.size))
  have R3 := hide (R2.out.below b3)
  obtain ⟨eo, ec, rfl⟩ := own_slice oe
  have OE := hide oe
  clear b3 B2 HWR oe R2
  obtain ⟨en, hen⟩ : ∃ en : Nat, 1 + (c0 : Int) % 10 = en := ⟨(1 + (c0 : Int) % 10).toNat, by omega⟩
  have he1 : 1 ≤ en := by omega
  have he2 : en ≤ 10 := by omega
  obtain ⟨S, hS, hSs, hX, hF, hN⟩ := idx_calls out HRS.out hol off most en he1 he2
  have hwl : ((wantR out off).take most.toNat).length ≤ 30 := by
    have := wantR_le out off out.length
    rw [List.take_length] at this
    rw [List.length_take]
    omega
  obtain ⟨WL, hWL⟩ : ∃ WL, (wantR out off).take most.toNat = WL := ⟨_, rfl⟩
  rw [hWL] at hF hN hwl
  have HWL := hide hWL
  clear hWL
  have HX := hide hX
  have HF := hide hF
  have HN := hide hN
  rw [← hS]
  clear hS hX hF hN OE
  go_wp2_with fail
  refine (HX.out _ (HT.out.below B3.out)).mono ?_
  rintro e w4 ⟨xv, rfl, e4, b4⟩
  have B4 := hide (B3.out.trans (b4.mono B3.out.size))
  have R4 := hide (R3.out.below b4)
  have E4 := hide e4
  obtain ⟨xo, xc, rfl⟩ := ents_shape e4
  clear e4 b4 B3 R3 HX
  go_wp2_with fail
  refine (HF.out _ _ (HT.out.below B4.out) E4.out).mono ?_
  rintro e w5 ⟨va, rfl, ra5, b5⟩
  have B5 := hide (B4.out.trans (b5.mono B4.out.size))
  have R5 := hide (R4.out.below b5)
  have A5 := hide ra5
  obtain ⟨fo, fc, rfl⟩ := recs_shape ra5
  clear ra5 b5 B4 R4 HF E4
  go_wp2_with fail
  refine (HN.out _ (HT.out.below B5.out)).mono ?_
  rintro e w6 ⟨vb, rfl, rb6, b6⟩
  have B6 := hide (B5.out.trans (b6.mono B5.out.size))
  have R6 := hide (R5.out.below b6)
  have A6 := hide (A5.out.below b6)
  have C6 := hide rb6
  obtain ⟨ho, hc, rfl⟩ := recs_shape rb6
  clear rb6 b6 B5 R5 A5 HN
  have HRE : Hid (Calls Tryd.prog 16 #[.slice fo WL.length fc, .slice ho WL.length hc] w6 fun e w' => e = .returned (.bool true) ∧ ∃ n, w' = w6.drewN n) := records_same WL _ _ w6 (by omega) A6.out C6.out
  clear C6
  go_wp2_with fail
  refine HRE.out.mono ?_
  rintro e w7 ⟨rfl, n7, rfl⟩
  have hbn : Below w6.heap.size w6 (w6.drewN n7) := below_drewN (Below.refl _ w6) n7
  have B7 := hide (B6.out.trans (hbn.mono B6.out.size))
  have R7 := hide (R6.out.below hbn)
  have A7 := hide (A6.out.below hbn)
  clear hbn B6 R6 A6 HRE
  generalize w6.drewN n7 = w7 at *
  go_wp2
  go_loopw [17, 18] (fun xv iv wv => ∃ (k : Nat) (qo : Option Addr) (qc : Nat), k ≤ out.length ∧ (wantR (out.take k) off).length ≤ most.toNat ∧ xv = .slice qo (wantR (out.take k) off).length qc ∧ iv = .int .i64 k ∧ Hid (Below w7.heap.size w7 wv) ∧ Hid (wv.ownsRow w7.heap.size 23 5 (.slice qo (wantR (out.take k) off).length qc) (wantR (out.take k) off).length (recRow (wantR (out.take k) off)))) (fun _ iv _ => out.length - (intOf iv).toNat)
  case atStart => exact ⟨0, none, 0, Nat.zero_le _, by simp [wantR], by simp [wantR], rfl, Below.refl _ _, by simp [wantR, recRow]; exact nil_own _ _ _ _⟩
  case round =>
    obtain ⟨k, qo, qc, hk, hm, rfl, rfl, BV, OV⟩ := hrel
    by_cases hk1 : k < out.length
    · by_cases hk2 : ((wantR (out.take k) off).length : Int) < most
      · obtain ⟨_, b, off', rfl, hb, a0, a1, a2, a3, a4⟩ := (R7.out.below BV.out).five k hk1
        have HS := hide (wantR_succ out off k hk1)
        have hi0 : (0 : Int) ≤ (k : Int) := by omega
        have hi1 : (k : Int) < (out.length : Int) := by omega
        have hql := wantR_le out off k
        generalize out[k] = x at *
        generalize hQ : wantR (out.take k) off = Q at *
        clear hQ
        obtain ⟨xo, xp, xs, xk, xv⟩ := x
        simp only at a0 a1 a2 a3 a4
        by_cases hof : off ≤ xo
        · have HS2 : Hid (wantR (out.take (k + 1)) off = Q ++ [⟨xo, xp, xs, xk, xv⟩]) := by have := HS.out; simp only at this; rw [if_pos hof] at this; exact this
          clear HS
          go_wp2_with (at_builtin; refine wpList_append_own _ rfl _ _ 31 rfl w7.heap.size 23 Tryd.t23 Rec.zero.v 5 64 Tryd.underlying31 ?hi ?hz ?hs ?hby rfl (by decide) _ _ _ rfl (OV.out.alloc _) ⟨_, 0, none⟩ 1 1 (Rec.cells ⟨xo, xp, xs, xk, xv⟩) rfl rfl ?hnews ?h1 ?h63 ?hb47 ?hbase ?_)
          case hi => exact Tryd.infoRec
          case hz => exact Tryd.zeroRec
          case hs => exact Tryd.sizeRec
          case hby => exact Tryd.bytesRec
          case hnews => exact fun j u h => h
          case h1 => exact Rec.ones _
          case h63 => unfold maxLen; omega
          case hb47 => omega
          case hbase => have := BV.out.size; simp; omega
          intro v' w8 hown hgrow _
          obtain ⟨no, nc, rfl⟩ := own_slice hown
          have B8 : Hid (Below w7.heap.size w7 w8) := (BV.out.alloc BV.out.size _).grown hgrow (by have := BV.out.size; simp; omega) (fun k hk => (OV.out.lt k hk).1)
          have O8 : Hid (w8.ownsRow w7.heap.size 23 5 (.slice no (Q ++ [(⟨xo, xp, xs, xk, xv⟩ : Rec)]).length nc) (Q ++ [(⟨xo, xp, xs, xk, xv⟩ : Rec)]).length (recRow (Q ++ [(⟨xo, xp, xs, xk, xv⟩ : Rec)]))) := by
            rw [recRow_snoc, List.length_append, List.length_singleton]
            exact hown
          clear hown hgrow
          go_wp2
          go_roundw
          case rel => exact ⟨k + 1, no, nc, by omega, by rw [HS2.out, List.length_append, List.length_singleton]; omega, by rw [HS2.out, List.length_append, List.length_singleton], by go_num, B8.out, by rw [HS2.out]; exact O8.out⟩
          case measure => simp [intOf]; omega
        · have HS2 : Hid (wantR (out.take (k + 1)) off = Q) := by have := HS.out; simp only at this; rw [if_neg hof] at this; exact this
          clear HS
          go_wp2
          go_roundw
          case rel => exact ⟨k + 1, qo, qc, by omega, by rw [HS2.out]; exact hm, by rw [HS2.out], by go_num, BV.out, by rw [HS2.out]; exact OV.out⟩
          case measure => simp [intOf]; omega
      · have HEND : Hid (out.length ≤ k ∨ most ≤ ((wantR (out.take k) off).length : Int)) := Or.inr (by omega)
        have hi1 : (k : Int) < (out.length : Int) := by omega
        have hdone := wantR_done out off most k hm HEND.out
        have C8 := hide (recs_of_row OV.out)
        have A8 := hide (A7.out.below BV.out)
        have HRE2 : Hid (Calls Tryd.prog 16 #[.slice fo WL.length fc, .slice qo (wantR (out.take k) off).length qc] wr fun e w' => e = .returned (.bool true) ∧ ∃ n, w' = wr.drewN n) := by
          have h1 := A8.out
          have h2 := C8.out
          rw [hdone, HWL.out] at h2 ⊢
          exact records_same WL _ _ wr (by omega) h1 h2
        have B8 := hide (B7.out.trans (BV.out.mono B7.out.size))
        clear hdone C8 A8 BV OV
        generalize (wantR (out.take k) off).length = Q at *
        go_wp2_with fail
        refine HRE2.out.mono ?_
        rintro e w9 ⟨rfl, nq, rfl⟩
        go_wp2
        go_ret
        exact ⟨rfl, below_drewN B8.out nq⟩
    · have HEND : Hid (out.length ≤ k ∨ most ≤ ((wantR (out.take k) off).length : Int)) := Or.inl (by omega)
      have hi1 : ¬ (k : Int) < (out.length : Int) := by omega
      have hdone := wantR_done out off most k hm HEND.out
      have C8 := hide (recs_of_row OV.out)
      have A8 := hide (A7.out.below BV.out)
      have HRE2 : Hid (Calls Tryd.prog 16 #[.slice fo WL.length fc, .slice qo (wantR (out.take k) off).length qc] wr fun e w' => e = .returned (.bool true) ∧ ∃ n, w' = wr.drewN n) := by
        have h1 := A8.out
        have h2 := C8.out
        rw [hdone, HWL.out] at h2 ⊢
        exact records_same WL _ _ wr (by omega) h1 h2
      have B8 := hide (B7.out.trans (BV.out.mono B7.out.size))
      clear hdone C8 A8 BV OV
      generalize (wantR (out.take k) off).length = Q at *
      go_wp2_with fail
      refine HRE2.out.mono ?_
      rintro e w9 ⟨rfl, nq, rfl⟩
      go_wp2
      go_ret
      exact ⟨rfl, below_drewN B8.out nq⟩
theorem index_walk (l : List Rec) (v : Value) (every off most : Int) (w : World) (hT : Tab w) (h1 : -9223372036854775808 ≤ every) (h2 : every ≤ 9223372036854775807) (hl : l.length ≤ 4611686018427387904) (hok : ∀ r ∈ l, r.ok) (ha : RecsAt w v l) :
    Calls Tryd.prog 7 #[v, .int .i64 every, .int .i64 off, .int .i64 most] w fun e w' => e = .returned (.bool true) ∧ Below w.heap.size w w' := by
  by_cases h0 : 0 ≤ every
  · obtain ⟨c0, rfl⟩ : ∃ c0 : Nat, every = (c0 : Int) := ⟨every.toNat, by omega⟩
    exact index_pos l v c0 off most w hT (by omega) hl hok ha
  · obtain ⟨c0, rfl⟩ : ∃ c0 : Nat, every = -(c0 : Int) - 1 := ⟨(-(every + 1)).toNat, by omega⟩
    exact index_neg l v c0 off most w hT (by omega) hl hok ha
end Go.Proofs.YtgnehnlmbodijaaDoor
