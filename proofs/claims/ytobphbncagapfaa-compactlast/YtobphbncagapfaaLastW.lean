/-
  CompactLast, as it runs.
-/
import Derived.Test.YtobphbncagapfaaKeepsW
namespace Go.Proofs.Ytobphbncagapfaa
open Go.RowKit Go.Maps

theorem last_at {upto : Int} {l out : List Rec} {i : Nat} (h : i < l.length) (hg : goesF upto l[i] (l.drop (i + 1)) = false) (he : out ++ keepF upto (l.drop i) = keepF upto l) : ∃ ha : out.length < (keepF upto l).length, (keepF upto l)[out.length] = l[i] ∧ (out ++ [l[i]]) ++ keepF upto (l.drop (i + 1)) = keepF upto l := by
  rw [keepF_stay h hg] at he
  have hl := congrArg List.length he
  simp only [List.length_append, List.length_cons] at hl
  refine ⟨by omega, ?_, ?_⟩
  · have e : (keepF upto l)[out.length]? = some l[i] := by
      rw [← he, List.getElem?_append_right (Nat.le_refl _)]
      simp
    rw [List.getElem?_eq_getElem (by omega)] at e
    exact Option.some.inj e
  · rw [List.append_assoc]
    exact he
set_option maxHeartbeats 8000000 in
set_option maxRecDepth 100000 in
theorem last_walk (l : List Rec) (ao : Option Addr) (ac : Nat) (upto : Int) (w : World) (hl : l.length ≤ 1048576) (hok : ∀ r ∈ l, r.ok) (hat : RecsAt w (.slice ao l.length ac) l) :
    Calls Try.prog 4 #[.slice ao l.length ac, .int .i64 upto] w fun e w' => e = .returned (.bool true) ∧ Below w.heap.size w w' := by
  have HE := hide (examples_any w)
  have HK := hide (fun v W h => keep_any upto l hl hok v W h)
  have hkl := keepF_length upto l
  have HK2 : Hid (∀ v W, RecsAt W v (keepF upto l) → Calls Try.prog 6 #[v, .int .i64 upto] W fun e w' => ∃ v', e = .returned v' ∧ w'.ownsRow W.heap.size 30 5 v' (keepF upto l).length (recCells (keepF upto l)) ∧ Below W.heap.size W w') := fun v W h => by
    have := keep_any upto (keepF upto l) (by omega) (fun r hr => hok r (keepF_sub upto l r hr)) v W h
    rw [keepF_again] at this
    exact this
  have HS := hide (fun va vb W h1 h2 => records_below (keepF upto l) va vb W (by omega) h1 h2)
  have HLA : Hid (∀ (out : List Rec) (i : Nat) (h : i < l.length), goesF upto l[i] (l.drop (i + 1)) = false → out ++ keepF upto (l.drop i) = keepF upto l → ∃ ha : out.length < (keepF upto l).length, (keepF upto l)[out.length] = l[i] ∧ (out ++ [l[i]]) ++ keepF upto (l.drop (i + 1)) = keepF upto l) := fun out i h hg he => last_at h hg he
  have HGO : Hid (∀ (i : Nat) (h : i < l.length), goesF upto l[i] (l.drop (i + 1)) = true → keepF upto (l.drop i) = keepF upto (l.drop (i + 1))) := fun i h hg => keepF_go h hg
  have A0 := hide hat
  have HI0 : Hid (([] : List Rec) ++ keepF upto (l.drop 0) = keepF upto l) := rfl
  clear hat hok
  generalize keepF upto l = KL at *
  go_enter Try.func4, Try.ntmps4
  go_wp2_with fail
  refine HE.out.mono ?_
  rintro e w1 ⟨rfl, b1⟩
  have B1 := hide b1
  have A1 := hide (A0.out.below b1)
  clear b1 A0 HE
  go_wp2_with fail
  refine (HK.out _ _ A1.out).mono ?_
  rintro e w2 ⟨v2, rfl, o2, b2⟩
  have B2 := hide (B1.out.trans (b2.mono B1.out.size))
  have A2 := hide (A1.out.below b2)
  have K2 := hide (recs_of_own o2)
  obtain ⟨ko, kc, rfl⟩ := row_slice o2
  clear b2 o2 B1 A1 HK
  go_wp2
  go_loopw [7, 8] (fun av iv wv => ∃ (i : Nat) (out : List Rec), i ≤ l.length ∧ out.length ≤ KL.length ∧ av = .int .i64 out.length ∧ iv = .int .i64 i ∧ Hid (out ++ keepF upto (l.drop i) = KL) ∧ Hid (Below w2.heap.size w2 wv)) (fun _ iv _ => l.length - (intOf iv).toNat)
  case atStart => exact ⟨0, [], Nat.zero_le _, Nat.zero_le _, rfl, rfl, HI0.out, Below.refl _ _⟩
  case round =>
    obtain ⟨i, out, hi, hol, rfl, rfl, HI, BV⟩ := hrel
    by_cases hlt : i < l.length
    · have hi0 : (0 : Int) ≤ (i : Int) := by omega
      have hi1 : (i : Int) < (l.length : Int) := by omega
      have HST := hide (fun hg => HLA.out out i hlt hg HI.out)
      have HGI := hide (HGO.out i hlt)
      have HLS : Hid (∀ k, (h : k < l.length) → laterF l[i].kl (l.drop k) = ((l[k].kl == l[i].kl) || laterF l[i].kl (l.drop (k + 1)))) := fun k h => laterF_step _ l k h
      have HGF : Hid (goesF upto l[i] (l.drop (i + 1)) = ((!l[i].kl.isEmpty && laterF l[i].kl (l.drop (i + 1))) && decide (l[i].off < upto))) := rfl
      obtain ⟨_, b, off, rfl, hb, x0, x1, x2, x3, x4⟩ := A2.out.five i hlt
      generalize goesF upto l[i] (l.drop (i + 1)) = g at *
      have hx : l[i] = l[i] := rfl
      generalize l[i] = x at *
      clear hx
      obtain ⟨xo, xp, xs, xk, xv⟩ := x
      simp only [Rec.kl] at x0 x1 x2 x3 x4 HST HGI HLS HGF
      generalize hR : laterF xk.data.toList (l.drop (i + 1)) = R at *
      have HR := hide hR
      clear hR
      go_wp2
      go_loopw [9, 10] (fun lv kv wv => ∃ (lt : Bool) (k : Nat), i < k ∧ k ≤ l.length ∧ lv = .bool lt ∧ kv = .int .i64 k ∧ Hid ((lt || laterF xk.data.toList (l.drop k)) = R) ∧ Hid (Below w2.heap.size w2 wv)) (fun _ kv _ => l.length - (intOf kv).toNat)
      case atStart => exact ⟨false, i + 1, by omega, by omega, rfl, by go_num, by rw [Bool.false_or]; exact HR.out, BV.out⟩
      case round =>
        obtain ⟨lt, k, hik, hk, rfl, rfl, HJ, BW⟩ := hrel
        by_cases hklt : k < l.length
        · have hj0 : (0 : Int) ≤ (k : Int) := by omega
          have hj1 : (k : Int) < (l.length : Int) := by omega
          cases lt with
          | true =>
            have HJ2 : Hid ((true || laterF xk.data.toList (l.drop (k + 1))) = R) := by have h := HJ.out; simp only [Bool.true_or] at h ⊢; exact h
            go_wp2_with fail
            refine wp_region_quiet_below (by kernel_rfl) (by kernel_rfl) ?_
            repeat (go_big_quiet_step (first | fail))
            refine wpQuiet_nil ?_
            intro _ hw'
            obtain ⟨⟨dq, osq⟩, hw''⟩ := hw'
            subst hw''
            have bb := below_regrown wr dq osq
            have B4 := hide (BW.out.trans (bb.mono BW.out.size))
            generalize Go.Sort.grow (redrawn wr dq) osq = w4 at *
            clear bb
            clear BW
            go_wp2
            exact ⟨⟨true, k + 1, by omega, by omega, rfl, by go_num, HJ2.out, B4.out⟩, by simp [intOf]; omega⟩
          | false =>
            obtain ⟨_, b2, off2, hb2, _, _, _, _, y3, _⟩ := A2.out.five k hklt
            injection hb2 with hb2
            injection hb2 with e1 e2 e3
            subst e1 e2
            have h1 := HLS.out k hklt
            have h2 := HJ.out
            rw [Bool.false_or, h1] at h2
            generalize l[k] = y at *
            obtain ⟨yo, yp, ys, yk, yv⟩ := y
            simp only at y3 h2
            have hc : (yk.toList == xk.toList) = (yk.data.toList == xk.data.toList) := by rw [ByteArray.toList_eq, ByteArray.toList_eq]
            generalize hq : (yk.data.toList == xk.data.toList) = q at *
            have H2 := hide h2
            clear h1 h2 hq
            go_wp2_with fail
            have d_x3 := cell_regrown ((BW.out.cell (p := ⟨b, off + i * 5 + 3, none⟩) hb).trans x3)
            have d_y3 := cell_regrown ((BW.out.cell (p := ⟨b, off + k * 5 + 3, none⟩) hb).trans y3)
            refine wp_region_quiet_below (by kernel_rfl) (by kernel_rfl) ?_
            repeat (go_big_quiet_step (first | fail))
            refine wpQuiet_nil ?_
            intro _ hw'
            obtain ⟨⟨dq, osq⟩, hw''⟩ := hw'
            subst hw''
            have bb := below_regrown wr dq osq
            have B4 := hide (BW.out.trans (bb.mono BW.out.size))
            generalize Go.Sort.grow (redrawn wr dq) osq = w4 at *
            clear bb d_x3 d_y3
            clear BW
            go_wp2
            exact ⟨⟨q, k + 1, by omega, by omega, rfl, by go_num, H2.out, B4.out⟩, by simp [intOf]; omega⟩
        · have hj1 : ¬ (k : Int) < (l.length : Int) := by omega
          have h1 := HJ.out
          rw [laterF_none _ _ _ (by omega), Bool.or_false] at h1
          subst h1
          have z0 := (BW.out.cell (p := ⟨b, off + i * 5, none⟩) hb).trans x0
          have z1 := (BW.out.cell (p := ⟨b, off + i * 5 + 1, none⟩) hb).trans x1
          have z2 := (BW.out.cell (p := ⟨b, off + i * 5 + 2, none⟩) hb).trans x2
          have z3 := (BW.out.cell (p := ⟨b, off + i * 5 + 3, none⟩) hb).trans x3
          have z4 := (BW.out.cell (p := ⟨b, off + i * 5 + 4, none⟩) hb).trans x4
          clear x0 x1 x2 x3 x4 HJ HR HLS
          have hg := HGF.out
          clear HGF
          by_cases hke : xk.data.toList = []
          · have hk1 : xk.toList.isEmpty = true := by rw [ByteArray.toList_eq]; simpa using hke
            have hk2 : xk.data.toList.isEmpty = true := by simpa using hke
            rw [hk2] at hg
            simp only [Bool.not_true, Bool.false_and] at hg
            clear hk2 hke
            rw [hg] at HST
            obtain ⟨ha, he, hn⟩ := HST.out rfl
            obtain ⟨_, ab, af, hab, hab2, a0, a1, a2, a3, a4⟩ := (K2.out.below BW.out).five out.length ha
            subst hab
            rw [he] at a0 a1 a2 a3 a4
            simp only at a0 a1 a2 a3 a4
            have H1 := hide hn
            have hne : ¬ ((out.length : Int) = (KL.length : Int)) := by omega
            have hnd : decide ((out.length : Int) = (KL.length : Int)) = false := decide_eq_false hne
            have hne2 : ((out.length : Int) == (KL.length : Int)) = false := by simpa using hne
            have hne3 : (out.length == KL.length) = false := by simpa using (by omega : ¬ out.length = KL.length)
            have ha0 : (0 : Int) ≤ (out.length : Int) := by omega
            have ha1 : (out.length : Int) < (KL.length : Int) := by omega
            have hlo : (out ++ [(⟨xo, xp, xs, xk, xv⟩ : Rec)]).length = out.length + 1 := by simp
            have HLO := hide hlo
            clear hn he HST HGI hg hlo
            go_wp2_with fail
            have d_z0 := cell_regrown z0
            have d_z1 := cell_regrown z1
            have d_z2 := cell_regrown z2
            have d_z3 := cell_regrown z3
            have d_z4 := cell_regrown z4
            have d_a0 := cell_regrown a0
            have d_a1 := cell_regrown a1
            have d_a2 := cell_regrown a2
            have d_a3 := cell_regrown a3
            have d_a4 := cell_regrown a4
            refine wp_region_quiet_below (by kernel_rfl) (by kernel_rfl) ?_
            repeat (go_big_quiet_step (first | fail))
            refine wpQuiet_nil ?_
            intro _ hw'
            obtain ⟨⟨dq, osq⟩, hw''⟩ := hw'
            subst hw''
            have bb := below_regrown wr dq osq
            have B4 := hide (BW.out.trans (bb.mono BW.out.size))
            generalize Go.Sort.grow (redrawn wr dq) osq = w4 at *
            clear bb d_z0 d_z1 d_z2 d_z3 d_z4 d_a0 d_a1 d_a2 d_a3 d_a4
            clear BW z0 z1 z2 z3 z4 a0 a1 a2 a3 a4
            go_wp2
            exact ⟨⟨i + 1, out ++ [(⟨xo, xp, xs, xk, xv⟩ : Rec)], by omega, by rw [HLO.out]; omega, by rw [HLO.out]; go_num, by go_num, H1.out, B4.out⟩, by simp [intOf]; omega⟩
          · have hk1 : xk.toList.isEmpty = false := by rw [ByteArray.toList_eq]; simpa using hke
            have hk2 : xk.data.toList.isEmpty = false := by simpa using hke
            rw [hk2] at hg
            simp only [Bool.not_false, Bool.true_and] at hg
            clear hk2 hke
            cases lt with
            | false =>
              simp only [Bool.false_and] at hg
              rw [hg] at HST
              obtain ⟨ha, he, hn⟩ := HST.out rfl
              obtain ⟨_, ab, af, hab, hab2, a0, a1, a2, a3, a4⟩ := (K2.out.below BW.out).five out.length ha
              subst hab
              rw [he] at a0 a1 a2 a3 a4
              simp only at a0 a1 a2 a3 a4
              have H1 := hide hn
              have hne : ¬ ((out.length : Int) = (KL.length : Int)) := by omega
              have hnd : decide ((out.length : Int) = (KL.length : Int)) = false := decide_eq_false hne
              have hne2 : ((out.length : Int) == (KL.length : Int)) = false := by simpa using hne
              have hne3 : (out.length == KL.length) = false := by simpa using (by omega : ¬ out.length = KL.length)
              have ha0 : (0 : Int) ≤ (out.length : Int) := by omega
              have ha1 : (out.length : Int) < (KL.length : Int) := by omega
              have hlo : (out ++ [(⟨xo, xp, xs, xk, xv⟩ : Rec)]).length = out.length + 1 := by simp
              have HLO := hide hlo
              clear hn he HST HGI hg hlo
              go_wp2_with fail
              have d_z0 := cell_regrown z0
              have d_z1 := cell_regrown z1
              have d_z2 := cell_regrown z2
              have d_z3 := cell_regrown z3
              have d_z4 := cell_regrown z4
              have d_a0 := cell_regrown a0
              have d_a1 := cell_regrown a1
              have d_a2 := cell_regrown a2
              have d_a3 := cell_regrown a3
              have d_a4 := cell_regrown a4
              refine wp_region_quiet_below (by kernel_rfl) (by kernel_rfl) ?_
              repeat (go_big_quiet_step (first | fail))
              refine wpQuiet_nil ?_
              intro _ hw'
              obtain ⟨⟨dq, osq⟩, hw''⟩ := hw'
              subst hw''
              have bb := below_regrown wr dq osq
              have B4 := hide (BW.out.trans (bb.mono BW.out.size))
              generalize Go.Sort.grow (redrawn wr dq) osq = w4 at *
              clear bb d_z0 d_z1 d_z2 d_z3 d_z4 d_a0 d_a1 d_a2 d_a3 d_a4
              clear BW z0 z1 z2 z3 z4 a0 a1 a2 a3 a4
              go_wp2
              exact ⟨⟨i + 1, out ++ [(⟨xo, xp, xs, xk, xv⟩ : Rec)], by omega, by rw [HLO.out]; omega, by rw [HLO.out]; go_num, by go_num, H1.out, B4.out⟩, by simp [intOf]; omega⟩
            | true =>
              simp only [Bool.true_and] at hg
              by_cases hu : xo < upto
              · have hu2 : decide (xo < upto) = true := decide_eq_true hu
                rw [hu2] at hg
                rw [hg] at HGI
                have h1 := HI.out
                rw [HGI.out rfl] at h1
                have H1 := hide h1
                clear h1 hg HST HGI hu2
                go_wp2
                exact ⟨⟨i + 1, out, by omega, hol, rfl, by go_num, H1.out, BW.out⟩, by simp [intOf]; omega⟩
              · have hu2 : decide (xo < upto) = false := decide_eq_false hu
                rw [hu2] at hg
                clear hu2
                rw [hg] at HST
                obtain ⟨ha, he, hn⟩ := HST.out rfl
                obtain ⟨_, ab, af, hab, hab2, a0, a1, a2, a3, a4⟩ := (K2.out.below BW.out).five out.length ha
                subst hab
                rw [he] at a0 a1 a2 a3 a4
                simp only at a0 a1 a2 a3 a4
                have H1 := hide hn
                have hne : ¬ ((out.length : Int) = (KL.length : Int)) := by omega
                have hnd : decide ((out.length : Int) = (KL.length : Int)) = false := decide_eq_false hne
                have hne2 : ((out.length : Int) == (KL.length : Int)) = false := by simpa using hne
                have hne3 : (out.length == KL.length) = false := by simpa using (by omega : ¬ out.length = KL.length)
                have ha0 : (0 : Int) ≤ (out.length : Int) := by omega
                have ha1 : (out.length : Int) < (KL.length : Int) := by omega
                have hlo : (out ++ [(⟨xo, xp, xs, xk, xv⟩ : Rec)]).length = out.length + 1 := by simp
                have HLO := hide hlo
                clear hn he HST HGI hg hlo
                go_wp2_with fail
                have d_z0 := cell_regrown z0
                have d_z1 := cell_regrown z1
                have d_z2 := cell_regrown z2
                have d_z3 := cell_regrown z3
                have d_z4 := cell_regrown z4
                have d_a0 := cell_regrown a0
                have d_a1 := cell_regrown a1
                have d_a2 := cell_regrown a2
                have d_a3 := cell_regrown a3
                have d_a4 := cell_regrown a4
                refine wp_region_quiet_below (by kernel_rfl) (by kernel_rfl) ?_
                repeat (go_big_quiet_step (first | fail))
                refine wpQuiet_nil ?_
                intro _ hw'
                obtain ⟨⟨dq, osq⟩, hw''⟩ := hw'
                subst hw''
                have bb := below_regrown wr dq osq
                have B4 := hide (BW.out.trans (bb.mono BW.out.size))
                generalize Go.Sort.grow (redrawn wr dq) osq = w4 at *
                clear bb d_z0 d_z1 d_z2 d_z3 d_z4 d_a0 d_a1 d_a2 d_a3 d_a4
                clear BW z0 z1 z2 z3 z4 a0 a1 a2 a3 a4
                go_wp2
                exact ⟨⟨i + 1, out ++ [(⟨xo, xp, xs, xk, xv⟩ : Rec)], by omega, by rw [HLO.out]; omega, by rw [HLO.out]; go_num, by go_num, H1.out, B4.out⟩, by simp [intOf]; omega⟩
    · have hi1 : ¬ (i : Int) < (l.length : Int) := by omega
      have h1 := HI.out
      rw [List.drop_eq_nil_of_le (by omega)] at h1
      simp only [keepF, List.append_nil] at h1
      subst h1
      have K3 := hide (K2.out.below BV.out)
      have B3 := hide (B2.out.trans (BV.out.mono B2.out.size))
      clear HI HLA HGO HI0 A2 K2 B2 BV
      go_wp2_with fail
      refine (HK2.out _ _ K3.out).mono ?_
      rintro e w4 ⟨v4, rfl, o4, b4⟩
      have B4 := hide (B3.out.trans (b4.mono B3.out.size))
      have K4 := hide (K3.out.below b4)
      have R4 := hide (recs_of_own o4)
      obtain ⟨so, sc, rfl⟩ := row_slice o4
      clear b4 o4 K3 B3 HK2
      go_wp2_with fail
      refine (HS.out _ _ _ K4.out R4.out).mono ?_
      rintro e w5 ⟨rfl, b5⟩
      have B5 := hide (B4.out.trans (b5.mono B4.out.size))
      clear b5 K4 R4 B4 HS
      go_wp2
      go_ret
      exact ⟨rfl, B5.out⟩
end Go.Proofs.Ytobphbncagapfaa
