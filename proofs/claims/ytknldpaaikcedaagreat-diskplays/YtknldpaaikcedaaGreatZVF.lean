/-
  texts, files, as they run: the two disks' files are the same.
-/
import Derived.Test.YtknldpaaikcedaaGreatZGE
import Derived.Lib.QuietBelow
import Derived.BigQuiet
namespace Go.Proofs.YtknldpaaikcedaaGreat
open Go.RowKit Go.Maps Go.Sort

/-- Texts of names that lie somewhere. -/
def VTexts (w : World) (ao : Option Addr) (ss : List (List UInt8)) : Prop := ∀ i (hi : i < ss.length), ∃ g, ao = some ⟨g, 0, none⟩ ∧ g < w.heap.size ∧ w.cell? ⟨g, i, none⟩ = some (.string ⟨ss[i].toArray⟩)
theorem vtexts_row {w : World} {base n cp : Nat} {ao : Option Addr} {ss : List (List UInt8)} (hn : n = ss.length) (h : w.ownsRow base 9 1 (.slice ao n cp) n (ss.map encStr)) : VTexts w ao ss := fun i hi => by
  subst hn
  obtain ⟨g, cap, hform, _, _⟩ := h.form (by omega)
  obtain ⟨rfl, rfl⟩ : ao = some ⟨g, 0, none⟩ ∧ cp = cap := by cases hform; exact ⟨rfl, rfl⟩
  have hat : (ss.map encStr)[i]? = some (.string ⟨ss[i].toArray⟩) := by rw [List.getElem?_map, List.getElem?_eq_getElem hi]; rfl
  exact ⟨g, rfl, row_lt h rfl, (row_cell h i _ hat).1⟩
theorem VTexts.below {w w' : World} {ao : Option Addr} {ss : List (List UInt8)} (h : VTexts w ao ss) (hb : RowKit.Below w.heap.size w w') : VTexts w' ao ss := fun i hi => by
  obtain ⟨g, h1, h2, h3⟩ := h i hi
  exact ⟨g, h1, Nat.lt_of_lt_of_le h2 hb.size, (hb.cell (p := ⟨g, i, none⟩) h2).trans h3⟩
set_option maxRecDepth 100000 in
set_option maxHeartbeats 4000000 in
theorem vtexts_same (ao bo : Option Addr) (ca cb : Nat) (ss : List (List UInt8)) (w : World) (hl : ss.length ≤ 100000) (ha : VTexts w ao ss) (hb : VTexts w bo ss) :
    Calls Tryz.prog 42 #[.slice ao ss.length ca, .slice bo ss.length cb] w fun e w' => e = .returned (.bool true) ∧ RowKit.Below w.heap.size w w' := by
  have HA := hide ha
  have HB := hide hb
  clear ha hb
  go_enter Tryz.func42, Tryz.ntmps42
  go_wp2
  go_loopw [5] (fun iv wv => ∃ i n : Nat, iv = .int .i64 i ∧ i ≤ ss.length ∧ wv = w.drewN n) (fun iv _ => ss.length - (intOf iv).toNat)
  case atStart => exact ⟨0, 0, rfl, Nat.zero_le _, rfl⟩
  case round =>
    obtain ⟨i, n, rfl, hi, rfl⟩ := hrel
    by_cases hlt : i < ss.length
    · obtain ⟨g, rfl, _, c1⟩ := HA.out i hlt
      obtain ⟨g', rfl, _, c2⟩ := HB.out i hlt
      obtain ⟨nm, hnm⟩ : ∃ nm : ByteArray, (⟨ss[i].toArray⟩ : ByteArray) = nm := ⟨_, rfl⟩
      rw [hnm] at c1 c2
      clear hnm
      have hi0 : (0 : Int) ≤ (i : Int) := by omega
      have hi1 : (i : Int) < (ss.length : Int) := by omega
      go_wp2
      go_quiet (fail)
      go_wp2
      go_roundw
      case rel => exact ⟨i + 1, n + nq, by go_num, by omega, by first | rfl | exact World.drewN_drewN⟩
      case measure => simp [intOf]; omega
    · have hi1 : ¬ (i : Int) < (ss.length : Int) := by omega
      go_wp2
      go_ret
      exact ⟨rfl, ⟨rfl, rfl, rfl, Nat.le_refl _, fun _ _ => rfl⟩⟩
section
variable {F : Nat → Prop} {w w' : World} {b x : Nat} {G : DG} {S : RD} {X : XG} {φ : Nat → Nat}
/-- Both lists: the same names. -/
theorem lists_same (h : Duo F w b G x S X φ) (hn : G.n < 900) : ∃ (ss : List (List UInt8)) (er : Int), ss.length ≤ 1000 ∧ (∀ s ∈ ss, s.length ≤ 40) ∧ (Calls Tryz.prog 21 #[.pointer (some ⟨b, 0, none⟩)] w fun e w' => ∃ ao cp, e = .returned (.tuple #[.slice ao ss.length cp, .int .i64 er]) ∧ VTexts w' ao ss ∧ RowKit.Below w.heap.size w w') ∧
    ∀ W, RowKit.Below w.heap.size w W → Calls Tryz.prog 41 #[.pointer (some ⟨x, 0, none⟩)] W fun e w' => ∃ ao cp, e = .returned (.tuple #[.slice ao ss.length cp, .int .i64 er]) ∧ VTexts w' ao ss ∧ RowKit.Below W.heap.size W w' := by
  have hd := h.rel.down
  cases hdn : S.down with
  | true =>
    rw [hdn] at hd
    refine ⟨[], 9, by decide, fun s hs => (by cases hs), ?_, fun W hb => ?_⟩
    · refine (list_down h.rep hd).mono ?_
      rintro e w' ⟨rfl, hw⟩
      subst hw
      exact ⟨none, 0, rfl, fun i hi => (by cases hi), Below.refl _ _⟩
    · refine (zlist_any (h.xr.below hb)).mono ?_
      rintro e w' ⟨v, rfl, ho, hb2⟩
      rw [hdn] at ho
      simp only [if_true] at ho
      obtain ⟨ao, cp, rfl⟩ := row_slice ho
      exact ⟨ao, cp, by rw [hdn]; rfl, fun i hi => (by cases hi), hb2⟩
  | false =>
    rw [hdn] at hd
    have hnm := rel_names h.rep h.rel
    have hsz := names_length h.rep
    have hsl := h.rep.now.size_le
    refine ⟨dnames G.D, 0, by omega, fun s hs => (names_short h.rep s hs).1, ?_, fun W hb => ?_⟩
    · refine (list_up h.rep (by omega) hd).mono ?_
      rintro e w' ⟨ao, cp, rfl, ho, hb⟩
      exact ⟨ao, cp, rfl, vtexts_row rfl ho, hb⟩
    · refine (zlist_any (h.xr.below hb)).mono ?_
      rintro e w' ⟨v, rfl, ho, hb2⟩
      rw [hdn] at ho
      simp only [Bool.false_eq_true, if_false] at ho
      have e1 : S.names.map Value.string = (dnames G.D).map encStr := by
        rw [← hnm]
        unfold RD.names
        rw [List.map_map, List.map_map]
        refine List.map_congr_left fun p _ => ?_
        show Value.string p.1 = Value.string ⟨p.1.data.toList.toArray⟩
        congr 1
      have e2 : S.names.length = (dnames G.D).length := by rw [← hnm]; unfold RD.names; simp
      rw [e1, e2] at ho
      obtain ⟨ao, cp, rfl⟩ := row_slice ho
      exact ⟨ao, cp, by rw [hdn]; rfl, vtexts_row rfl ho, hb2⟩
set_option maxRecDepth 100000 in
set_option maxHeartbeats 8000000 in
theorem files_any (h : Duo F w b G x S X φ) (hn : G.n < 900) :
    Calls Tryz.prog 15 #[.pointer (some ⟨b, 0, none⟩), .pointer (some ⟨x, 0, none⟩)] w fun e w' => e = .returned (.bool true) ∧ RowKit.Below w.heap.size w w' := by
  obtain ⟨ss, er, hsl, hss, HL1, HL2⟩ := lists_same h hn
  have hsm := (rel_ok h.rep (by omega) h.rel).2
  have HU1 := hide (fun W (hb : RowKit.Below w.heap.size w W) => used_any (h.rep.below hb) (by omega))
  have HU2 := hide (fun W (hb : RowKit.Below w.heap.size w W) => zused_any (h.xr.below hb) hsm)
  have HF1 := hide (fun W (hb : RowKit.Below w.heap.size w W) => free_any (h.rep.below hb) (by omega))
  have HF2 := hide (fun W (hb : RowKit.Below w.heap.size w W) => zfree_any (h.xr.below hb) hsm)
  have HD1 := hide (fun W (hb : RowKit.Below w.heap.size w W) => down_any (h.rep.below hb))
  have HR1 := hide (fun W (hb : RowKit.Below w.heap.size w W) k (hk : k.size ≤ maxLen) => read_any (h.rep.below hb) k hk)
  have HR2 := hide (fun W (hb : RowKit.Below w.heap.size w W) k => zread_any (h.xr.below hb) k)
  have HRR := hide (fun k => read_rel h.rep h.rel k)
  obtain ⟨_, _, _, _, _, _, c6⟩ := h.xr.c
  have hxl : x < w.heap.size := heap_lt h.xr.box
  rw [rel_used h.rep h.rel] at HU1
  rw [rel_used h.rep h.rel, h.rel.room] at HF1
  rw [h.rel.down] at HD1
  have HSS := hide hss
  have H1 := hide HL1
  have H2 := hide HL2
  clear h hsm HL1 HL2 hss
  generalize (S.used S.dir.length) = U at *
  generalize S.room - (U : Int) = Fr at *
  go_enter Tryz.func15, Tryz.ntmps15
  go_wp2_with fail
  refine H1.out.mono ?_
  rintro e w1 ⟨ao, ac, rfl, t1, b1⟩
  have T1 := hide t1
  have B1 := hide b1
  clear t1 b1 H1
  go_wp2_with fail
  refine (H2.out _ B1.out).mono ?_
  rintro e w2 ⟨bo, bc, rfl, t2, b2⟩
  have T2 := hide t2
  have T3 := hide (T1.out.below b2)
  have B2 := hide (B1.out.trans (b2.mono B1.out.size))
  clear t2 b2 H2 T1 B1
  have HTX := hide (vtexts_same ao bo ac bc ss w2 (by omega) T3.out T2.out)
  go_wp2_with fail
  refine HTX.out.mono ?_
  rintro e w3 ⟨rfl, b3⟩
  have T4 := hide (T3.out.below b3)
  have B3 := hide (B2.out.trans (b3.mono B2.out.size))
  clear b3 HTX T2 T3 B2
  have d6 := (B3.out.cell (p := ⟨x, 6, none⟩) hxl).trans c6
  go_wp2_with fail
  have q6 := cell_regrown d6
  have HBR : Hid (∀ d os, RowKit.Below w.heap.size w (Go.Sort.grow (redrawn w3 d) os)) := fun d os => B3.out.trans ((below_regrown w3 d os).mono B3.out.size)
  have K1 := hide (fun d os => HU1.out _ (HBR.out d os))
  have K2 := hide (fun d os => HU2.out _ (HBR.out d os))
  have K3 := hide (fun d os => HF1.out _ (HBR.out d os))
  have K4 := hide (fun d os => HF2.out _ (HBR.out d os))
  have K5 : Hid (∀ d os, Calls Tryz.prog 23 #[.pointer (some ⟨b, 0, none⟩)] (Go.Sort.grow (redrawn w3 d) os) fun e w' => e = .returned (.bool S.down) ∧ RowKit.Below (Go.Sort.grow (redrawn w3 d) os).heap.size (Go.Sort.grow (redrawn w3 d) os) w') := fun d os => (HD1.out _ (HBR.out d os)).mono fun e w' ⟨he, hw⟩ => ⟨he, by rw [hw]; exact Below.refl _ _⟩
  generalize S.down = dn at *
  refine wp_region_quiet_below (by kernel_rfl) (by kernel_rfl) ?_
  repeat (go_big_quiet_step (first | (go_at_call 43; exact Calls.regrown_of (K1.out _ _)) | (go_at_call 44; exact Calls.regrown_of (K2.out _ _)) | (go_at_call 45; exact Calls.regrown_of (K3.out _ _)) | (go_at_call 46; exact Calls.regrown_of (K4.out _ _)) | (go_at_call 23; exact Calls.regrown_of (K5.out _ _))))
  refine wpQuiet_nil ?_
  intro _ hw'
  obtain ⟨⟨dq, osq⟩, hw''⟩ := hw'
  subst hw''
  have bb := below_regrown w3 dq osq
  have B4 := hide (B3.out.trans (bb.mono B3.out.size))
  have T5 := hide (T4.out.below bb)
  generalize Go.Sort.grow (redrawn w3 dq) osq = w4 at *
  clear bb B3 T4 K1 K2 K3 K4 K5 HBR q6 d6 c6 HU1 HU2 HF1 HF2 HD1
  go_wp2
  go_loopw [10] (fun iv wv => ∃ i : Nat, iv = .int .i64 i ∧ i ≤ ss.length ∧ Hid (RowKit.Below w4.heap.size w4 wv)) (fun iv _ => ss.length - (intOf iv).toNat)
  case atStart => exact ⟨0, rfl, Nat.zero_le _, Below.refl _ _⟩
  case round =>
    obtain ⟨i, rfl, hi, BV⟩ := hrel
    by_cases hlt : i < ss.length
    · obtain ⟨g, rfl, hg, c1⟩ := T5.out i hlt
      have e1 := (BV.out.cell (p := ⟨g, i, none⟩) hg).trans c1
      have hks := HSS.out _ (List.getElem_mem hlt)
      have hksz : (⟨ss[i].toArray⟩ : ByteArray).size ≤ 40 := by show ss[i].toArray.size ≤ 40; rw [List.size_toArray]; exact hks
      generalize (⟨ss[i].toArray⟩ : ByteArray) = nm at *
      have BW := hide (B4.out.trans (BV.out.mono B4.out.size))
      have HQ1 := hide (HR1.out _ BW.out nm (by unfold maxLen; omega))
      obtain ⟨r1, r2⟩ := HRR.out nm
      rw [r1, r2] at HQ1
      have HQ2 := hide (HR2.out _ BW.out nm)
      generalize S.read nm = rd at *
      obtain ⟨rs, re⟩ := rd
      simp only at HQ1 HQ2
      have hi0 : (0 : Int) ≤ (i : Int) := by omega
      have hi1 : (i : Int) < (ss.length : Int) := by omega
      clear r1 r2 hks c1
      go_wp2_with fail
      refine HQ1.out.mono ?_
      rintro e w5 ⟨rfl, hw⟩
      obtain rfl := hw.symm
      clear hw HQ1
      go_wp2_with fail
      refine HQ2.out.mono ?_
      rintro e w6 ⟨rfl, b6⟩
      have B6 := hide (BV.out.trans (b6.mono BV.out.size))
      clear b6 HQ2 BV BW e1
      go_wp2
      exact ⟨⟨i + 1, by go_num, by omega, B6.out⟩, by simp [intOf]; omega⟩
    · have hi1 : ¬ (i : Int) < (ss.length : Int) := by omega
      go_wp2
      go_ret
      exact ⟨rfl, B4.out.trans (BV.out.mono B4.out.size)⟩
end
end Go.Proofs.YtknldpaaikcedaaGreat
