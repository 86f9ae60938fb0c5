/-
  carillonref04's Crash, as it runs.
-/
import Derived.Test.YtknldpaaikcedaaGreatZZ18
namespace Go.Proofs.YtknldpaaikcedaaGreat
open Go.RowKit

section
variable {w w' w2 : World} {b : Nat} {S : RD} {X X' X2 : XG} {n n' n2 : Nat}
theorem st_get (l : List ZS) (i : Nat) (h : i < l.length) : (stCells l)[i * 4]? = some (.int .i64 l[i].kind) ∧ (stCells l)[i * 4 + 1]? = some (.string l[i].a) ∧ (stCells l)[i * 4 + 2]? = some (.string l[i].b) ∧ (stCells l)[i * 4 + 3]? = some (.int .i64 l[i].id) := by
  induction l generalizing i with
  | nil => simp at h
  | cons x l ih =>
    have e : stCells (x :: l) = [.int .i64 x.kind, .string x.a, .string x.b, .int .i64 x.id] ++ stCells l := by simp [stCells]
    rw [e]
    cases i with
    | zero => exact ⟨rfl, rfl, rfl, rfl⟩
    | succ i =>
      have h1 := ih i (by simpa using h)
      rw [List.getElem?_append_right (by simp; omega), List.getElem?_append_right (by simp; omega), List.getElem?_append_right (by simp; omega), List.getElem?_append_right (by simp; omega)]
      rw [show (i + 1) * 4 - ([Value.int .i64 x.kind, .string x.a, .string x.b, .int .i64 x.id] : List Value).length = i * 4 by simp; omega, show (i + 1) * 4 + 1 - ([Value.int .i64 x.kind, .string x.a, .string x.b, .int .i64 x.id] : List Value).length = i * 4 + 1 by simp; omega, show (i + 1) * 4 + 2 - ([Value.int .i64 x.kind, .string x.a, .string x.b, .int .i64 x.id] : List Value).length = i * 4 + 2 by simp; omega, show (i + 1) * 4 + 3 - ([Value.int .i64 x.kind, .string x.a, .string x.b, .int .i64 x.id] : List Value).length = i * 4 + 3 by simp; omega]
      simpa using h1
theorem st_at {w : World} {B : Nat} {ao : Option Addr} {c : Nat} {l : List ZS} (h : w.ownsRow B 72 4 (.slice ao l.length c) l.length (stCells l)) (i : Nat) (hi : i < l.length) : ∃ g, ao = some ⟨g, 0, none⟩ ∧ g < w.heap.size ∧ w.cell? ⟨g, i * 4, none⟩ = some (.int .i64 l[i].kind) ∧ w.cell? ⟨g, i * 4 + 1, none⟩ = some (.string l[i].a) ∧ w.cell? ⟨g, i * 4 + 2, none⟩ = some (.string l[i].b) ∧ w.cell? ⟨g, i * 4 + 3, none⟩ = some (.int .i64 l[i].id) := by
  rcases h.2 with ⟨_, h2⟩ | ⟨g, c', cur, hv, hb, hh, h1, h2, h3, h4⟩
  · omega
  · injection hv with e1 e2 e3
    obtain ⟨a0, a1, a2, a3⟩ := st_get l i hi
    have key : ∀ k u, (stCells l)[k]? = some u → w.cell? ⟨g, k, none⟩ = some u := fun k u hu => by
      have hk : k < (stCells l).length := (List.getElem?_eq_some_iff.1 hu).1
      rw [Lib.cell_of_heap hh]
      rw [← h4, List.getElem?_take] at hu
      split at hu
      · simpa using hu
      · cases hu
    exact ⟨g, e1, heap_lt hh, key _ _ a0, key _ _ a1, key _ _ a2, key _ _ a3⟩
theorem zsum_mem {l : List ZU} {u : ZU} (h : u ∈ l) : u.s.size ≤ zsum l := by
  induction l with
  | nil => cases h
  | cons v l ih =>
    simp only [zsum]
    rcases List.mem_cons.1 h with rfl | h
    · omega
    · have := ih h; omega
theorem cell_off2 {W : World} {c g k1 k2 o : Nat} {u v x : Value} (hne : c ≠ g) (h : W.cell? ⟨c, o, none⟩ = some x) : ((W.setCell ⟨g, k1, none⟩ u).setCell ⟨g, k2, none⟩ v).cell? ⟨c, o, none⟩ = some x := by
  rw [World.cell?_setCell_other _ _ _ _ (fun e => hne (congrArg Addr.block e).symm), World.cell?_setCell_other _ _ _ _ (fun e => hne (congrArg Addr.block e).symm)]
  exact h
/-- A file of the list is crashed. -/
theorem XR.crashU (h : XR w b S X) {i : Nat} (hi : i < S.files.length) (n : Int) {g c : Nat} (hfv : X.fv = .slice (some ⟨g, 0, none⟩) S.files.length c) :
    XR ((w.setCell ⟨g, i * 2, none⟩ (.string (S.files[i].crashed n).lasts)).setCell ⟨g, i * 2 + 1, none⟩ (.slice none 0 0)) b { S with files := S.files.set i (S.files[i].crashed n) } { X with uv := upd X.uv i (.slice none 0 0) } ∧ XStep w ((w.setCell ⟨g, i * 2, none⟩ (.string (S.files[i].crashed n).lasts)).setCell ⟨g, i * 2 + 1, none⟩ (.slice none 0 0)) b S.files.length S.files.length X { X with uv := upd X.uv i (.slice none 0 0) } := by
  have hfg : X.fv.ownBlock = some g := by rw [hfv]; rfl
  refine h.fput hi (S.files[i].crashed n) (crashed_ok (h.ok.files _ (List.getElem_mem hi)) n) (.slice none 0 0) (((Touch.refl _ w).setCell _ _ fun _ => .inl hfg).setCell _ _ fun _ => .inl hfg) ?_ (World.ownsRow_nil _ _ _ _) (fun j hj => by cases hj)
  have hf := h.files
  rw [filesC_set]
  rw [hfv] at hf ⊢
  exact own_set (own_set hf _ (by omega)) _ (by omega)
set_option maxHeartbeats 8000000 in
set_option maxRecDepth 100000 in
theorem zcrash_any (h : XR w b S X) (dirs : Int) (hdi : -9223372036854775808 ≤ dirs ∧ dirs ≤ 9223372036854775807) (ko : Option Addr) (kc : Nat) (us : List Int) (hus : ∀ u ∈ us, -9223372036854775808 ≤ u ∧ u ≤ 9223372036854775807) (hul : us.length ≤ 4611686018427387904) (hk : NumsAt w ko us) (hk0 : us ≠ [] → ∀ kb off, ko = some ⟨kb, off, none⟩ → ¬ X.own b S.files.length kb)
    (hfi : ∀ i (hi : i < S.since.length), S.since[i].kind = 2 → 0 ≤ zfind (zfold S.lasts (S.since.take i)) S.since[i].a ∧ zfind (zfold S.lasts (S.since.take i)) S.since[i].a ≤ 1000000) (hid : ∀ x ∈ S.since, x.id ≤ 1000000) (hok : (S.crash dirs us).ok) :
    Calls Tryz.prog 13 #[.pointer (some ⟨b, 0, none⟩), .int .i64 dirs, .slice ko us.length kc] w fun e w' => e = .returned (.tuple #[]) ∧ ∃ X', XR w' b (S.crash dirs us) X' ∧ XStep w w' b S.files.length (S.crash dirs us).files.length X X' := by
  have HH := hide h
  have HK := hide hk
  have HK0 := hide hk0
  have HUS := hide hus
  have HFI := hide hfi
  have HID := hide hid
  have HOK := hide hok
  obtain ⟨lo, lc, hlv⟩ := row_slice h.lasts
  have HLV := hide hlv
  obtain ⟨so, sc, hsv⟩ := row_slice h.steps
  obtain ⟨_, _, c2, c3, c4, c5, c6⟩ := h.c
  have hc3 := c3
  rw [hlv] at hc3
  have hln := h.ok.nl
  have hsn := h.ok.ns
  have hbl : b < w.heap.size := heap_lt h.box
  have HL0 := h.lasts
  rw [hlv] at HL0
  have HLR := hide HL0
  have HSR := h.steps
  rw [hsv] at HSR
  have HSR := hide HSR
  have hc4 := c4
  rw [hsv] at hc4
  clear h hk hk0 hus hfi hid hok c3 c4 HL0
  go_enter Tryz.func13, Tryz.ntmps13
  go_wp2
  go_loopw [6, 7] (fun dv iv wv => ∃ (i : Nat) (ao : Option Addr) (c : Nat), i ≤ S.since.length ∧ (i : Int) ≤ max dirs 0 ∧ iv = .int .i64 i ∧ dv = .slice ao (zfold S.lasts (S.since.take i)).length c ∧ Hid (wv.ownsRow 0 77 2 (.slice ao (zfold S.lasts (S.since.take i)).length c) (zfold S.lasts (S.since.take i)).length (nmCells (zfold S.lasts (S.since.take i)))) ∧ Hid (i = 0 → ao = lo) ∧ Hid (0 < i → ∀ j, (Value.slice ao (zfold S.lasts (S.since.take i)).length c).ownBlock = some j → w.heap.size ≤ j) ∧ Hid (Below w.heap.size w wv)) (fun _ iv _ => S.since.length - (intOf iv).toNat)
  case atStart => exact ⟨0, lo, lc, Nat.zero_le _, by omega, rfl, rfl, HLR.out, fun _ => rfl, fun e => by omega, Below.refl _ _⟩
  case round =>
    obtain ⟨i, ao, c, hi, hid2, rfl, rfl, OV, HA0, HAN, BV⟩ := hrel
    have d4 := (BV.out.cell (p := ⟨b, 4, none⟩) hbl).trans hc4
    by_cases hlt : i < S.since.length
    · have hi0 : (0 : Int) ≤ (i : Int) := by omega
      have hi1 : (i : Int) < (S.since.length : Int) := by omega
      by_cases hdr : (i : Int) < dirs
      · obtain ⟨g, rfl, hg, a0, a1, a2, a3⟩ := st_at (zown_below HSR.out BV.out) i hlt
        have hle := zfold_le S.lasts (S.since.take i)
        have hll : (S.since.take i).length ≤ 1000 := by rw [List.length_take]; omega
        have HG := hide (zgone_any ao c (zfold S.lasts (S.since.take i)) S.since[i] wr 0 (by omega) (HID.out _ (List.getElem_mem hlt)) (fun e => HFI.out i hlt e) OV.out)
        have HSN := hide (zfold_snoc S.lasts S.since i hlt)
        rw [← HSN.out] at HG
        generalize zfold S.lasts (S.since.take i) = D1 at *
        generalize hD2 : zfold S.lasts (S.since.take (i + 1)) = D2 at *
        have HD2 := hide hD2
        clear HFI HID hD2
        generalize S.since[i] = x at *
        obtain ⟨xk, xa, xb, xi⟩ := x
        simp only [ZS.v] at a0 a1 a2 a3 HG
        go_wp2_with fail
        refine HG.out.mono ?_
        rintro e w4 ⟨ro, rc, rfl, o4, b4⟩
        have O4 := hide o4
        have B4 := hide (BV.out.trans (b4.mono BV.out.size))
        have hsz := BV.out.size
        clear b4 o4 HG
        go_wp2
        refine ⟨⟨i + 1, ro, rc, by omega, by omega, by go_num, by rw [HD2.out], by rw [HD2.out]; exact own_base2 O4.out (Nat.zero_le _), fun e => by omega, fun _ j hj => ?_, B4.out⟩, by simp [intOf]; omega⟩
        rw [HD2.out] at hj
        have := (O4.out.lt j hj).1
        omega
      · have hi9 : ¬ (i : Int) < dirs := hdr
        have hzm : zmany dirs S.since.length = i := by unfold zmany; omega
        have hOKD := HOK.out
        unfold RD.crash at hOKD
        simp only [hzm] at hOKD
        have HOKD := hide hOKD
        have HCR : Hid (S.crash dirs us = ⟨S.room, -1, false, zcrashN (zfold S.lasts (S.since.take i)) us S.files (zfold S.lasts (S.since.take i)).length, zfold S.lasts (S.since.take i), zfold S.lasts (S.since.take i), []⟩) := hide (by unfold RD.crash; simp only [hzm])
        clear hOKD hzm HFI HID HOK
        generalize zfold S.lasts (S.since.take i) = D at *
        have HX1 : Hid (XR (((wr.setCell ⟨b, 2, none⟩ (.slice ao D.length c)).setCell ⟨b, 3, none⟩ (.slice ao D.length c)).setCell ⟨b, 4, none⟩ (.slice none 0 0)) b { S with dir := D, lasts := D, since := [] } { X with dv := .slice ao D.length c, lv := .slice ao D.length c, sv := .slice none 0 0 } ∧ XStep w (((wr.setCell ⟨b, 2, none⟩ (.slice ao D.length c)).setCell ⟨b, 3, none⟩ (.slice ao D.length c)).setCell ⟨b, 4, none⟩ (.slice none 0 0)) b S.files.length S.files.length X { X with dv := .slice ao D.length c, lv := .slice ao D.length c, sv := .slice none 0 0 }) := by
          have hXr := HH.out.below BV.out
          have hnb : (Value.slice ao D.length c).ownBlock ≠ some b := fun e => absurd (zown_type OV.out e hXr.box) (by decide)
          have hrow := set_row (set_row (set_row OV.out b 2 (.slice ao D.length c) hnb) b 3 (.slice ao D.length c) hnb) b 4 (.slice none 0 0) hnb
          refine HH.out.dirs (S' := { S with dir := D, lasts := D, since := [] }) (X' := { X with dv := .slice ao D.length c, lv := .slice ao D.length c, sv := .slice none 0 0 }) ⟨HH.out.ok.room, HH.out.ok.fuse, HH.out.ok.files, HH.out.ok.nf, HOKD.out.nd, HOKD.out.nd, Nat.zero_le _, fun p hp => by have := HOKD.out.dir p hp; rw [zcrashN_length] at this; exact this, fun p hp => by have := HOKD.out.dir p hp; rw [zcrashN_length] at this; exact this⟩ rfl rfl rfl ((((Touch.of_below BV.out).setCell _ _ fun _ => .inl rfl).setCell _ _ fun _ => .inl rfl).setCell _ _ fun _ => .inl rfl) (box_set (box_set (box_set hXr.box 2 _) 3 _) 4 _) hrow hrow (World.ownsRow_nil _ _ _ _) ?_
          have hold : ∀ j, (Value.slice ao D.length c).ownBlock = some j → X.lv.ownBlock = some j ∨ w.heap.size ≤ j := fun j hj => by
            by_cases e : i = 0
            · left
              rw [HLV.out]
              have := HA0.out e
              rw [this] at hj
              cases lo with
              | none => cases hj
              | some a => exact hj
            · exact .inr (HAN.out (by omega) j hj)
          rintro v (rfl | rfl | rfl) j hj
          · exact (hold j hj).imp (fun e => .inr (.inl e)) id
          · exact (hold j hj).imp (fun e => .inr (.inl e)) id
          · cases hj
        have d2 := (BV.out.cell (p := ⟨b, 2, none⟩) hbl).trans c2
        have d3 := (BV.out.cell (p := ⟨b, 3, none⟩) hbl).trans hc3
        have f2 := box_free (HH.out.below BV.out).box 2
        have f3 := box_free (HH.out.below BV.out).box 3
        have f4 := box_free (HH.out.below BV.out).box 4
        have hdn := HOKD.out.nd
        simp only at hdn
        go_wp2_with fail
        generalize ((wr.setCell ⟨b, 2, none⟩ (.slice ao D.length c)).setCell ⟨b, 3, none⟩ (.slice ao D.length c)).setCell ⟨b, 4, none⟩ (.slice none 0 0) = W1 at *
        clear OV HA0 HAN BV d2 d3 f2 f3 f4 d4
        go_loopw [8] (fun iv wv => ∃ (k : Nat) (Y : XG), k ≤ D.length ∧ iv = .int .i64 k ∧ Hid (Y.dv = .slice ao D.length c) ∧ Hid (XR wv b { S with dir := D, lasts := D, since := [], files := zcrashN D us S.files k } Y) ∧ Hid (XStep w wv b S.files.length S.files.length X Y)) (fun iv _ => D.length - (intOf iv).toNat)
        case atStart => exact ⟨0, { X with dv := .slice ao D.length c, lv := .slice ao D.length c, sv := .slice none 0 0 }, Nat.zero_le _, rfl, hide rfl, HX1.out.1, HX1.out.2⟩
        case round =>
          obtain ⟨k, Y, hkd, rfl, HY, XV, SV⟩ := hrel
          by_cases hkl : k < D.length
          · have hk0 : (0 : Int) ≤ (k : Int) := by omega
            have hk1 : (k : Int) < (D.length : Int) := by omega
            have hfl := zcrashN_length D us S.files k
            have hdr := XV.out.dir
            try simp only at hdr
            rw [HY.out] at hdr
            obtain ⟨g, rfl, hg, _, n1⟩ := nm_at hdr k hkl
            have hdi3 : D[k].2 < (zcrashN D us S.files k).length := XV.out.ok.dir _ (List.getElem_mem hkl)
            have e1 : D.getD k (⟨#[]⟩, 0) = D[k] := by rw [List.getD_eq_getElem?_getD, List.getElem?_eq_getElem hkl]; rfl
            have hzs : zcrashN D us S.files (k + 1) = zcrash1 (zcrashN D us S.files k) D[k].2 (us.getD k 0) := by rw [zcrashN, e1]
            obtain ⟨di, hdid⟩ : ∃ di, D[k].2 = di := ⟨_, rfl⟩
            rw [hdid] at n1 hdi3 hzs
            have hdi2 := hdi3
            obtain ⟨fg, fc, uo, uc, hfv, hfg, huv, f0, f1⟩ := XV.out.file (i := di) hdi2
            obtain ⟨_, e1, _⟩ := XV.out.c
            rw [hfv] at e1
            have hfn := XV.out.ok.nf
            have hfok := XV.out.ok.files _ (List.getElem_mem hdi2)
            have hou := XV.out.units di hdi2
            rw [huv] at hou
            have HCU := hide (fun (W : World) (hb : Below wr.heap.size wr W) => (XV.out.below hb).crashU (i := di) hdi2 (us.getD k 0) hfv)
            have e2 : (zcrashN D us S.files k).getD di ⟨⟨#[]⟩, []⟩ = (zcrashN D us S.files k)[di] := by rw [List.getD_eq_getElem?_getD, List.getElem?_eq_getElem hdi2]; rfl
            rw [zcrash1, e2] at hzs
            simp only at f0 f1 hfv huv hfn hfok hou e1 HCU
            generalize (zcrashN D us S.files k)[di] = F at *
            have HOU := hide hou
            have HFK := hide hfok
            have hdb : (di : Int) < ((zcrashN D us S.files k).length : Int) := by omega
            have hd0 : (0 : Int) ≤ (di : Int) := by omega
            clear hou hfok hdr e2 hdid hfl
            by_cases hku : k < us.length
            · have hku1 : (k : Int) < (us.length : Int) := by omega
              have hnu := HK.out.touch SV.out.touch HK0.out
              obtain ⟨kb, koff, rfl, hkb, kn⟩ := hnu k hku
              have hgd : us.getD k 0 = us[k] := by rw [List.getD_eq_getElem?_getD, List.getElem?_eq_getElem hku]; rfl
              rw [hgd] at HCU hzs
              have HZS := hide hzs
              clear hzs
              have hub := HUS.out _ (List.getElem_mem hku)
              generalize us[k] = un at *
              generalize hnf : (zcrashN D us S.files k).length = nf at e1 hdb hfn
              generalize hul9 : F.since.length = ul at f1
              generalize hfl9 : F.lasts = fl at f0
              go_wp2_with fail
              go_region_held (fun w' => w'.cell? ⟨b, 1, none⟩ = some (.slice (some ⟨fg, 0, none⟩) nf fc) ∧ w'.cell? ⟨g, k * 2 + 1, none⟩ = some (.int .i64 di) ∧ w'.cell? ⟨fg, di * 2, none⟩ = some (.string fl) ∧ w'.cell? ⟨fg, di * 2 + 1, none⟩ = some (.slice uo ul uc)) (go_keep) (fail)
              have hB0 : Below wr.heap.size wr (wr.alloc (Obj.cells #[.string fl, .slice uo ul uc] 75)).drew := ((Below.refl _ _).alloc (Nat.le_refl _) _).drew
              have hx0 : (wr.alloc (Obj.cells #[.string fl, .slice uo ul uc] 75)).drew.heap[wr.heap.size]? = some (Obj.cells #[.string fl, .slice uo ul uc] 75) := heap_alloc_new wr _
              all_goals (
                generalize (wr.alloc (Obj.cells #[.string fl, .slice uo ul uc] 75)).drew = W0 at *
                have B0 := hide hB0
                have hbw : b < wr.heap.size := heap_lt XV.out.box
                generalize hfb : wr.heap.size = fb at hx0 ⊢
                have s1 := (B0.out.cell (p := ⟨b, 1, none⟩) hbw).trans e1
                have s2 := (B0.out.cell (p := ⟨g, k * 2 + 1, none⟩) hg).trans n1
                have s3 := box_cell hx0 0 (v := .string fl) rfl
                have s4 := box_cell hx0 1 (v := .slice uo ul uc) rfl
                have hfb2 : fb < W0.heap.size := heap_lt hx0
                have hb2 : b < W0.heap.size := Nat.lt_of_lt_of_le hbw B0.out.size
                have hg2 : g < W0.heap.size := Nat.lt_of_lt_of_le hg B0.out.size
                have hbf : b ≠ fg := fun e => XV.out.ne _ (.inl rfl) (by rw [hfv, e]; rfl)
                have hgf : g ≠ fg := fun e => by
                  have hd7 := XV.out.dir
                  rw [HY.out] at hd7
                  rcases XV.out.files.2 with ⟨hv, _⟩ | ⟨g', c', cur, hv, _, hh, _⟩
                  · rw [hfv] at hv; cases hv
                  · rw [hfv] at hv
                    injection hv with q1 _ _
                    injection q1 with q1
                    injection q1 with q1 _ _
                    subst q1
                    subst e
                    exact absurd (zown_type hd7 rfl hh) (by decide)
                have hff : fb ≠ fg := by omega
                have HUNS : Hid (∀ u ∈ F.since, u.s.size ≤ 9223372036854775807 ∧ -9223372036854775808 ≤ u.n ∧ u.n ≤ 9223372036854775807) := fun u hu => ⟨by have := zsum_mem hu; have := HFK.out.big; omega, HFK.out.num u hu⟩
                have HKC : Hid (∀ W, Below W0.heap.size W0 W → Calls Tryz.prog 32 #[.slice uo ul uc, .int .i64 un] W fun e w' => ∃ ro rc, e = .returned (.slice ro (zkept F.since un).length rc) ∧ w'.ownsRow W.heap.size 112 2 (.slice ro (zkept F.since un).length rc) (zkept F.since un).length (unCells (zkept F.since un)) ∧ Below W.heap.size W w') := fun W hb => by
                  rw [← hul9]
                  exact zkept_any uo uc F.since un W 0 (by have := HFK.out.few; omega) hub HUNS.out (zown_below (zown_below HOU.out B0.out) hb)
                have HDC : Hid (∀ W ro rc B, W.ownsRow B 112 2 (.slice ro (zkept F.since un).length rc) (zkept F.since un).length (unCells (zkept F.since un)) → Calls Tryz.prog 31 #[.string fl, .slice ro (zkept F.since un).length rc] W fun e w' => e = .returned (.string (F.crashed un).lasts) ∧ w' = W) := fun W ro rc B hr => by
                  rw [← hfl9]
                  exact zdone_any F.lasts ro rc (zkept F.since un) W B (by have := zkept_len F.since un; have := HFK.out.few; omega) (zkept_fits _ _ _ HFK.out.fits) (by have := zkept_sum F.since un; have := HFK.out.big; omega) (zkept_num F.since un (fun x => -9223372036854775808 ≤ x ∧ x ≤ 9223372036854775807) HFK.out.num) hr
                have HC : Hid (∀ (W : World), Below W0.heap.size W0 W → (∃ v0 v1, W.cell? ⟨fg, di * 2, none⟩ = some v0 ∧ W.cell? ⟨fg, di * 2 + 1, none⟩ = some v1) ∧ W.frozen? ⟨fg, di * 2, none⟩ = false ∧ W.frozen? ⟨fg, di * 2 + 1, none⟩ = false) := fun W hb => by
                  have hbb : Below wr.heap.size wr W := B0.out.trans (hb.mono B0.out.size)
                  have q0 := (hbb.cell (p := ⟨fg, di * 2, none⟩) hfg).trans f0
                  have q1 := (hbb.cell (p := ⟨fg, di * 2 + 1, none⟩) hfg).trans f1
                  have hX := XV.out.below hbb
                  rcases hX.files.2 with ⟨hv, _⟩ | ⟨g2, c2, cur, hv, _, hh, _⟩
                  · rw [hfv] at hv; cases hv
                  · rw [hfv] at hv
                    injection hv with q2 _ _
                    injection q2 with q2
                    injection q2 with q2 _ _
                    subst q2
                    exact ⟨⟨_, _, q0, q1⟩, box_free hh _, box_free hh _⟩
                have HK1 := hide (enters_of Tryz.func32 (by kernel_rfl) rfl)
                have HK2 := hide (enters_of Tryz.func31 (by kernel_rfl) rfl)
                generalize (zkept F.since un).length = kl at *
                generalize unCells (zkept F.since un) = kcs at *
                generalize (F.crashed un).lasts = cl at *
                have HCU2 : Hid (∀ (W : World), Below W0.heap.size W0 W → XR ((W.setCell ⟨fg, di * 2, none⟩ (.string cl)).setCell ⟨fg, di * 2 + 1, none⟩ (.slice none 0 0)) b { S with dir := D, lasts := D, since := [], files := zcrashN D us S.files (k + 1) } { Y with uv := upd Y.uv di (.slice none 0 0) } ∧ XStep wr ((W.setCell ⟨fg, di * 2, none⟩ (.string cl)).setCell ⟨fg, di * 2 + 1, none⟩ (.slice none 0 0)) b (zcrashN D us S.files k).length (zcrashN D us S.files k).length Y { Y with uv := upd Y.uv di (.slice none 0 0) }) := fun W hb => by
                  have hbb : Below wr.heap.size wr W := B0.out.trans (hb.mono B0.out.size)
                  have h7 := HCU.out W hbb
                  rw [HZS.out]
                  exact ⟨h7.1, (XStep.same _ _ _ hbb).trans h7.2⟩
                have HLN := hide (zcrashN_length D us S.files k)
                have HY2 := hide HY.out
                have HSV := hide SV.out
                clear HCU HZS HUNS XV SV HOU HFK f0 f1 e1 n1 hx0 hB0 hul9 hfl9 hfv huv HY HX1
                go_wp2_with fail
                go_region_held_law (fun w' => w'.cell? ⟨b, 1, none⟩ = some (.slice (some ⟨fg, 0, none⟩) nf fc) ∧ w'.cell? ⟨g, k * 2 + 1, none⟩ = some (.int .i64 di) ∧ w'.cell? ⟨fb, 0, none⟩ = some (.string fl) ∧ w'.cell? ⟨fb, 1, none⟩ = some (.slice uo ul uc)) (first | go_keep | exact ⟨z1, z2, z3, z4⟩ | exact z9 _ _) (first
                  | (refine zstep_fn (by rfl) 88 (by rfl) 32 _ _ (by rfl) HK1.out [.slice uo ul uc, .int .i64 un] (by rfl) (HKC.out _ (by first | exact Below.refl _ _ | exact (Below.refl _ _).drew)) ?_; rintro e w6 ⟨ro, rc, rfl, o6, b6⟩; refine ⟨_, rfl, ?_⟩; have O6 := hide o6; have B6 : Hid (Below W0.heap.size W0 w6) := ⟨b6.os, b6.tape, b6.output, b6.size, b6.block⟩; have z1 := (B6.out.cell (p := ⟨b, 1, none⟩) hb2).trans s1; have z2 := (B6.out.cell (p := ⟨g, k * 2 + 1, none⟩) hg2).trans s2; have z3 := (B6.out.cell (p := ⟨fb, 0, none⟩) hfb2).trans s3; have z4 := (B6.out.cell (p := ⟨fb, 1, none⟩) hfb2).trans s4; have z9 : ∀ u v : Value, ((w6.setCell ⟨fg, di * 2, none⟩ u).setCell ⟨fg, di * 2 + 1, none⟩ v).cell? ⟨b, 1, none⟩ = some (.slice (some ⟨fg, 0, none⟩) nf fc) ∧ ((w6.setCell ⟨fg, di * 2, none⟩ u).setCell ⟨fg, di * 2 + 1, none⟩ v).cell? ⟨g, k * 2 + 1, none⟩ = some (.int .i64 di) ∧ ((w6.setCell ⟨fg, di * 2, none⟩ u).setCell ⟨fg, di * 2 + 1, none⟩ v).cell? ⟨fb, 0, none⟩ = some (.string fl) ∧ ((w6.setCell ⟨fg, di * 2, none⟩ u).setCell ⟨fg, di * 2 + 1, none⟩ v).cell? ⟨fb, 1, none⟩ = some (.slice uo ul uc) := (fun u v => ⟨cell_off2 hbf z1, cell_off2 hgf z2, cell_off2 hff z3, cell_off2 hff z4⟩); obtain ⟨⟨v0, v1, y0, y1⟩, g0, g1⟩ := HC.out w6 B6.out; clear b6 o6)
                  | (refine zstep_fn (by rfl) 89 (by rfl) 31 _ _ (by rfl) HK2.out [.string fl, .slice ro kl rc] (by rfl) (HDC.out _ ro rc _ (by first | exact O6.out | exact O6.out.drew)) ?_; rintro e w7 ⟨rfl, hw7⟩; obtain rfl := hw7.symm; refine ⟨_, rfl, ?_⟩; clear hw7))
                all_goals (
                  go_wp2
                  have h8 := HCU2.out w6 B6.out
                  have s8 := h8.2
                  rw [HLN.out] at s8
                  exact ⟨⟨k + 1, { Y with uv := upd Y.uv di (.slice none 0 0) }, by omega, by go_num, HY2.out, h8.1, HSV.out.trans s8⟩, by simp [intOf]; omega⟩))
            · have hku1 : ¬ (k : Int) < (us.length : Int) := by omega
              have hgd : us.getD k 0 = 0 := by rw [List.getD_eq_getElem?_getD, List.getElem?_eq_none (by omega)]; rfl
              rw [hgd] at HCU hzs
              have HZS := hide hzs
              clear hzs
              generalize hnf : (zcrashN D us S.files k).length = nf at e1 hdb hfn
              generalize hul9 : F.since.length = ul at f1
              generalize hfl9 : F.lasts = fl at f0
              go_wp2_with fail
              go_region_held (fun w' => w'.cell? ⟨b, 1, none⟩ = some (.slice (some ⟨fg, 0, none⟩) nf fc) ∧ w'.cell? ⟨g, k * 2 + 1, none⟩ = some (.int .i64 di) ∧ w'.cell? ⟨fg, di * 2, none⟩ = some (.string fl) ∧ w'.cell? ⟨fg, di * 2 + 1, none⟩ = some (.slice uo ul uc)) (go_keep) (fail)
              have hB0 : Below wr.heap.size wr (wr.alloc (Obj.cells #[.string fl, .slice uo ul uc] 75)).drew := ((Below.refl _ _).alloc (Nat.le_refl _) _).drew
              have hx0 : (wr.alloc (Obj.cells #[.string fl, .slice uo ul uc] 75)).drew.heap[wr.heap.size]? = some (Obj.cells #[.string fl, .slice uo ul uc] 75) := heap_alloc_new wr _
              all_goals (
                generalize (wr.alloc (Obj.cells #[.string fl, .slice uo ul uc] 75)).drew = W0 at *
                have B0 := hide hB0
                have hbw : b < wr.heap.size := heap_lt XV.out.box
                generalize hfb : wr.heap.size = fb at hx0 ⊢
                have s1 := (B0.out.cell (p := ⟨b, 1, none⟩) hbw).trans e1
                have s2 := (B0.out.cell (p := ⟨g, k * 2 + 1, none⟩) hg).trans n1
                have s3 := box_cell hx0 0 (v := .string fl) rfl
                have s4 := box_cell hx0 1 (v := .slice uo ul uc) rfl
                have hfb2 : fb < W0.heap.size := heap_lt hx0
                have hb2 : b < W0.heap.size := Nat.lt_of_lt_of_le hbw B0.out.size
                have hg2 : g < W0.heap.size := Nat.lt_of_lt_of_le hg B0.out.size
                have hbf : b ≠ fg := fun e => XV.out.ne _ (.inl rfl) (by rw [hfv, e]; rfl)
                have hgf : g ≠ fg := fun e => by
                  have hd7 := XV.out.dir
                  rw [HY.out] at hd7
                  rcases XV.out.files.2 with ⟨hv, _⟩ | ⟨g', c', cur, hv, _, hh, _⟩
                  · rw [hfv] at hv; cases hv
                  · rw [hfv] at hv
                    injection hv with q1 _ _
                    injection q1 with q1
                    injection q1 with q1 _ _
                    subst q1
                    subst e
                    exact absurd (zown_type hd7 rfl hh) (by decide)
                have hff : fb ≠ fg := by omega
                have HUNS : Hid (∀ u ∈ F.since, u.s.size ≤ 9223372036854775807 ∧ -9223372036854775808 ≤ u.n ∧ u.n ≤ 9223372036854775807) := fun u hu => ⟨by have := zsum_mem hu; have := HFK.out.big; omega, HFK.out.num u hu⟩
                have HKC : Hid (∀ W, Below W0.heap.size W0 W → Calls Tryz.prog 32 #[.slice uo ul uc, .int .i64 0] W fun e w' => ∃ ro rc, e = .returned (.slice ro (zkept F.since 0).length rc) ∧ w'.ownsRow W.heap.size 112 2 (.slice ro (zkept F.since 0).length rc) (zkept F.since 0).length (unCells (zkept F.since 0)) ∧ Below W.heap.size W w') := fun W hb => by
                  rw [← hul9]
                  exact zkept_any uo uc F.since 0 W 0 (by have := HFK.out.few; omega) (by decide) HUNS.out (zown_below (zown_below HOU.out B0.out) hb)
                have HDC : Hid (∀ W ro rc B, W.ownsRow B 112 2 (.slice ro (zkept F.since 0).length rc) (zkept F.since 0).length (unCells (zkept F.since 0)) → Calls Tryz.prog 31 #[.string fl, .slice ro (zkept F.since 0).length rc] W fun e w' => e = .returned (.string (F.crashed 0).lasts) ∧ w' = W) := fun W ro rc B hr => by
                  rw [← hfl9]
                  exact zdone_any F.lasts ro rc (zkept F.since 0) W B (by have := zkept_len F.since 0; have := HFK.out.few; omega) (zkept_fits _ _ _ HFK.out.fits) (by have := zkept_sum F.since 0; have := HFK.out.big; omega) (zkept_num F.since 0 (fun x => -9223372036854775808 ≤ x ∧ x ≤ 9223372036854775807) HFK.out.num) hr
                have HC : Hid (∀ (W : World), Below W0.heap.size W0 W → (∃ v0 v1, W.cell? ⟨fg, di * 2, none⟩ = some v0 ∧ W.cell? ⟨fg, di * 2 + 1, none⟩ = some v1) ∧ W.frozen? ⟨fg, di * 2, none⟩ = false ∧ W.frozen? ⟨fg, di * 2 + 1, none⟩ = false) := fun W hb => by
                  have hbb : Below wr.heap.size wr W := B0.out.trans (hb.mono B0.out.size)
                  have q0 := (hbb.cell (p := ⟨fg, di * 2, none⟩) hfg).trans f0
                  have q1 := (hbb.cell (p := ⟨fg, di * 2 + 1, none⟩) hfg).trans f1
                  have hX := XV.out.below hbb
                  rcases hX.files.2 with ⟨hv, _⟩ | ⟨g2, c2, cur, hv, _, hh, _⟩
                  · rw [hfv] at hv; cases hv
                  · rw [hfv] at hv
                    injection hv with q2 _ _
                    injection q2 with q2
                    injection q2 with q2 _ _
                    subst q2
                    exact ⟨⟨_, _, q0, q1⟩, box_free hh _, box_free hh _⟩
                have HK1 := hide (enters_of Tryz.func32 (by kernel_rfl) rfl)
                have HK2 := hide (enters_of Tryz.func31 (by kernel_rfl) rfl)
                generalize (zkept F.since 0).length = kl at *
                generalize unCells (zkept F.since 0) = kcs at *
                generalize (F.crashed 0).lasts = cl at *
                have HCU2 : Hid (∀ (W : World), Below W0.heap.size W0 W → XR ((W.setCell ⟨fg, di * 2, none⟩ (.string cl)).setCell ⟨fg, di * 2 + 1, none⟩ (.slice none 0 0)) b { S with dir := D, lasts := D, since := [], files := zcrashN D us S.files (k + 1) } { Y with uv := upd Y.uv di (.slice none 0 0) } ∧ XStep wr ((W.setCell ⟨fg, di * 2, none⟩ (.string cl)).setCell ⟨fg, di * 2 + 1, none⟩ (.slice none 0 0)) b (zcrashN D us S.files k).length (zcrashN D us S.files k).length Y { Y with uv := upd Y.uv di (.slice none 0 0) }) := fun W hb => by
                  have hbb : Below wr.heap.size wr W := B0.out.trans (hb.mono B0.out.size)
                  have h7 := HCU.out W hbb
                  rw [HZS.out]
                  exact ⟨h7.1, (XStep.same _ _ _ hbb).trans h7.2⟩
                have HLN := hide (zcrashN_length D us S.files k)
                have HY2 := hide HY.out
                have HSV := hide SV.out
                clear HCU HZS HUNS XV SV HOU HFK f0 f1 e1 n1 hx0 hB0 hul9 hfl9 hfv huv HY HX1
                go_wp2_with fail
                go_region_held_law (fun w' => w'.cell? ⟨b, 1, none⟩ = some (.slice (some ⟨fg, 0, none⟩) nf fc) ∧ w'.cell? ⟨g, k * 2 + 1, none⟩ = some (.int .i64 di) ∧ w'.cell? ⟨fb, 0, none⟩ = some (.string fl) ∧ w'.cell? ⟨fb, 1, none⟩ = some (.slice uo ul uc)) (first | go_keep | exact ⟨z1, z2, z3, z4⟩ | exact z9 _ _) (first
                  | (refine zstep_fn (by rfl) 88 (by rfl) 32 _ _ (by rfl) HK1.out [.slice uo ul uc, .int .i64 0] (by rfl) (HKC.out _ (by first | exact Below.refl _ _ | exact (Below.refl _ _).drew)) ?_; rintro e w6 ⟨ro, rc, rfl, o6, b6⟩; refine ⟨_, rfl, ?_⟩; have O6 := hide o6; have B6 : Hid (Below W0.heap.size W0 w6) := ⟨b6.os, b6.tape, b6.output, b6.size, b6.block⟩; have z1 := (B6.out.cell (p := ⟨b, 1, none⟩) hb2).trans s1; have z2 := (B6.out.cell (p := ⟨g, k * 2 + 1, none⟩) hg2).trans s2; have z3 := (B6.out.cell (p := ⟨fb, 0, none⟩) hfb2).trans s3; have z4 := (B6.out.cell (p := ⟨fb, 1, none⟩) hfb2).trans s4; have z9 : ∀ u v : Value, ((w6.setCell ⟨fg, di * 2, none⟩ u).setCell ⟨fg, di * 2 + 1, none⟩ v).cell? ⟨b, 1, none⟩ = some (.slice (some ⟨fg, 0, none⟩) nf fc) ∧ ((w6.setCell ⟨fg, di * 2, none⟩ u).setCell ⟨fg, di * 2 + 1, none⟩ v).cell? ⟨g, k * 2 + 1, none⟩ = some (.int .i64 di) ∧ ((w6.setCell ⟨fg, di * 2, none⟩ u).setCell ⟨fg, di * 2 + 1, none⟩ v).cell? ⟨fb, 0, none⟩ = some (.string fl) ∧ ((w6.setCell ⟨fg, di * 2, none⟩ u).setCell ⟨fg, di * 2 + 1, none⟩ v).cell? ⟨fb, 1, none⟩ = some (.slice uo ul uc) := (fun u v => ⟨cell_off2 hbf z1, cell_off2 hgf z2, cell_off2 hff z3, cell_off2 hff z4⟩); obtain ⟨⟨v0, v1, y0, y1⟩, g0, g1⟩ := HC.out w6 B6.out; clear b6 o6)
                  | (refine zstep_fn (by rfl) 89 (by rfl) 31 _ _ (by rfl) HK2.out [.string fl, .slice ro kl rc] (by rfl) (HDC.out _ ro rc _ (by first | exact O6.out | exact O6.out.drew)) ?_; rintro e w7 ⟨rfl, hw7⟩; obtain rfl := hw7.symm; refine ⟨_, rfl, ?_⟩; clear hw7))
                all_goals (
                  go_wp2
                  have h8 := HCU2.out w6 B6.out
                  have s8 := h8.2
                  rw [HLN.out] at s8
                  exact ⟨⟨k + 1, { Y with uv := upd Y.uv di (.slice none 0 0) }, by omega, by go_num, HY2.out, h8.1, HSV.out.trans s8⟩, by simp [intOf]; omega⟩))
          · have hk1 : ¬ (k : Int) < (D.length : Int) := by omega
            obtain rfl : k = D.length := by omega
            obtain ⟨_, _, _, _, _, g5, g6⟩ := XV.out.c
            have q5 := box_free XV.out.box 5
            have q6 := box_free XV.out.box 6
            have HE : Hid (XR ((wr.setCell ⟨b, 5, none⟩ (.int .i64 (-1))).setCell ⟨b, 6, none⟩ (.bool false)) b ⟨S.room, -1, false, zcrashN D us S.files D.length, D, D, []⟩ Y ∧ XStep wr ((wr.setCell ⟨b, 5, none⟩ (.int .i64 (-1))).setCell ⟨b, 6, none⟩ (.bool false)) b (zcrashN D us S.files D.length).length (zcrashN D us S.files D.length).length Y Y) :=
              XV.out.boxed (S' := ⟨S.room, -1, false, zcrashN D us S.files D.length, D, D, []⟩) HOKD.out rfl rfl rfl rfl (((Touch.refl (fun j => j = b) wr).setCell _ _ fun _ => rfl).setCell _ _ fun _ => rfl) (box_set (box_set XV.out.box 5 _) 6 _) XV.out.ne
            have HLN := hide (zcrashN_length D us S.files D.length)
            simp only at g5 g6
            clear HX1 HOKD
            go_wp2
            go_end0
            refine ⟨rfl, Y, by rw [HCR.out]; exact HE.out.1, ?_⟩
            have s9 := HE.out.2
            rw [HCR.out]
            rw [HLN.out] at s9 ⊢
            exact SV.out.trans s9
    · have hi1 : ¬ (i : Int) < (S.since.length : Int) := by omega
      have hzm : zmany dirs S.since.length = i := by unfold zmany; omega
      have hOKD := HOK.out
      unfold RD.crash at hOKD
      simp only [hzm] at hOKD
      have HOKD := hide hOKD
      have HCR : Hid (S.crash dirs us = ⟨S.room, -1, false, zcrashN (zfold S.lasts (S.since.take i)) us S.files (zfold S.lasts (S.since.take i)).length, zfold S.lasts (S.since.take i), zfold S.lasts (S.since.take i), []⟩) := hide (by unfold RD.crash; simp only [hzm])
      clear hOKD hzm HFI HID HOK
      generalize zfold S.lasts (S.since.take i) = D at *
      have HX1 : Hid (XR (((wr.setCell ⟨b, 2, none⟩ (.slice ao D.length c)).setCell ⟨b, 3, none⟩ (.slice ao D.length c)).setCell ⟨b, 4, none⟩ (.slice none 0 0)) b { S with dir := D, lasts := D, since := [] } { X with dv := .slice ao D.length c, lv := .slice ao D.length c, sv := .slice none 0 0 } ∧ XStep w (((wr.setCell ⟨b, 2, none⟩ (.slice ao D.length c)).setCell ⟨b, 3, none⟩ (.slice ao D.length c)).setCell ⟨b, 4, none⟩ (.slice none 0 0)) b S.files.length S.files.length X { X with dv := .slice ao D.length c, lv := .slice ao D.length c, sv := .slice none 0 0 }) := by
        have hXr := HH.out.below BV.out
        have hnb : (Value.slice ao D.length c).ownBlock ≠ some b := fun e => absurd (zown_type OV.out e hXr.box) (by decide)
        have hrow := set_row (set_row (set_row OV.out b 2 (.slice ao D.length c) hnb) b 3 (.slice ao D.length c) hnb) b 4 (.slice none 0 0) hnb
        refine HH.out.dirs (S' := { S with dir := D, lasts := D, since := [] }) (X' := { X with dv := .slice ao D.length c, lv := .slice ao D.length c, sv := .slice none 0 0 }) ⟨HH.out.ok.room, HH.out.ok.fuse, HH.out.ok.files, HH.out.ok.nf, HOKD.out.nd, HOKD.out.nd, Nat.zero_le _, fun p hp => by have := HOKD.out.dir p hp; rw [zcrashN_length] at this; exact this, fun p hp => by have := HOKD.out.dir p hp; rw [zcrashN_length] at this; exact this⟩ rfl rfl rfl ((((Touch.of_below BV.out).setCell _ _ fun _ => .inl rfl).setCell _ _ fun _ => .inl rfl).setCell _ _ fun _ => .inl rfl) (box_set (box_set (box_set hXr.box 2 _) 3 _) 4 _) hrow hrow (World.ownsRow_nil _ _ _ _) ?_
        have hold : ∀ j, (Value.slice ao D.length c).ownBlock = some j → X.lv.ownBlock = some j ∨ w.heap.size ≤ j := fun j hj => by
          by_cases e : i = 0
          · left
            rw [HLV.out]
            have := HA0.out e
            rw [this] at hj
            cases lo with
            | none => cases hj
            | some a => exact hj
          · exact .inr (HAN.out (by omega) j hj)
        rintro v (rfl | rfl | rfl) j hj
        · exact (hold j hj).imp (fun e => .inr (.inl e)) id
        · exact (hold j hj).imp (fun e => .inr (.inl e)) id
        · cases hj
      have d2 := (BV.out.cell (p := ⟨b, 2, none⟩) hbl).trans c2
      have d3 := (BV.out.cell (p := ⟨b, 3, none⟩) hbl).trans hc3
      have f2 := box_free (HH.out.below BV.out).box 2
      have f3 := box_free (HH.out.below BV.out).box 3
      have f4 := box_free (HH.out.below BV.out).box 4
      have hdn := HOKD.out.nd
      simp only at hdn
      go_wp2_with fail
      generalize ((wr.setCell ⟨b, 2, none⟩ (.slice ao D.length c)).setCell ⟨b, 3, none⟩ (.slice ao D.length c)).setCell ⟨b, 4, none⟩ (.slice none 0 0) = W1 at *
      clear OV HA0 HAN BV d2 d3 f2 f3 f4 d4
      go_loopw [8] (fun iv wv => ∃ (k : Nat) (Y : XG), k ≤ D.length ∧ iv = .int .i64 k ∧ Hid (Y.dv = .slice ao D.length c) ∧ Hid (XR wv b { S with dir := D, lasts := D, since := [], files := zcrashN D us S.files k } Y) ∧ Hid (XStep w wv b S.files.length S.files.length X Y)) (fun iv _ => D.length - (intOf iv).toNat)
      case atStart => exact ⟨0, { X with dv := .slice ao D.length c, lv := .slice ao D.length c, sv := .slice none 0 0 }, Nat.zero_le _, rfl, hide rfl, HX1.out.1, HX1.out.2⟩
      case round =>
        obtain ⟨k, Y, hkd, rfl, HY, XV, SV⟩ := hrel
        by_cases hkl : k < D.length
        · have hk0 : (0 : Int) ≤ (k : Int) := by omega
          have hk1 : (k : Int) < (D.length : Int) := by omega
          have hfl := zcrashN_length D us S.files k
          have hdr := XV.out.dir
          try simp only at hdr
          rw [HY.out] at hdr
          obtain ⟨g, rfl, hg, _, n1⟩ := nm_at hdr k hkl
          have hdi3 : D[k].2 < (zcrashN D us S.files k).length := XV.out.ok.dir _ (List.getElem_mem hkl)
          have e1 : D.getD k (⟨#[]⟩, 0) = D[k] := by rw [List.getD_eq_getElem?_getD, List.getElem?_eq_getElem hkl]; rfl
          have hzs : zcrashN D us S.files (k + 1) = zcrash1 (zcrashN D us S.files k) D[k].2 (us.getD k 0) := by rw [zcrashN, e1]
          obtain ⟨di, hdid⟩ : ∃ di, D[k].2 = di := ⟨_, rfl⟩
          rw [hdid] at n1 hdi3 hzs
          have hdi2 := hdi3
          obtain ⟨fg, fc, uo, uc, hfv, hfg, huv, f0, f1⟩ := XV.out.file (i := di) hdi2
          obtain ⟨_, e1, _⟩ := XV.out.c
          rw [hfv] at e1
          have hfn := XV.out.ok.nf
          have hfok := XV.out.ok.files _ (List.getElem_mem hdi2)
          have hou := XV.out.units di hdi2
          rw [huv] at hou
          have HCU := hide (fun (W : World) (hb : Below wr.heap.size wr W) => (XV.out.below hb).crashU (i := di) hdi2 (us.getD k 0) hfv)
          have e2 : (zcrashN D us S.files k).getD di ⟨⟨#[]⟩, []⟩ = (zcrashN D us S.files k)[di] := by rw [List.getD_eq_getElem?_getD, List.getElem?_eq_getElem hdi2]; rfl
          rw [zcrash1, e2] at hzs
          simp only at f0 f1 hfv huv hfn hfok hou e1 HCU
          generalize (zcrashN D us S.files k)[di] = F at *
          have HOU := hide hou
          have HFK := hide hfok
          have hdb : (di : Int) < ((zcrashN D us S.files k).length : Int) := by omega
          have hd0 : (0 : Int) ≤ (di : Int) := by omega
          clear hou hfok hdr e2 hdid hfl
          by_cases hku : k < us.length
          · have hku1 : (k : Int) < (us.length : Int) := by omega
            have hnu := HK.out.touch SV.out.touch HK0.out
            obtain ⟨kb, koff, rfl, hkb, kn⟩ := hnu k hku
            have hgd : us.getD k 0 = us[k] := by rw [List.getD_eq_getElem?_getD, List.getElem?_eq_getElem hku]; rfl
            rw [hgd] at HCU hzs
            have HZS := hide hzs
            clear hzs
            have hub := HUS.out _ (List.getElem_mem hku)
            generalize us[k] = un at *
            generalize hnf : (zcrashN D us S.files k).length = nf at e1 hdb hfn
            generalize hul9 : F.since.length = ul at f1
            generalize hfl9 : F.lasts = fl at f0
            go_wp2_with fail
            go_region_held (fun w' => w'.cell? ⟨b, 1, none⟩ = some (.slice (some ⟨fg, 0, none⟩) nf fc) ∧ w'.cell? ⟨g, k * 2 + 1, none⟩ = some (.int .i64 di) ∧ w'.cell? ⟨fg, di * 2, none⟩ = some (.string fl) ∧ w'.cell? ⟨fg, di * 2 + 1, none⟩ = some (.slice uo ul uc)) (go_keep) (fail)
            have hB0 : Below wr.heap.size wr (wr.alloc (Obj.cells #[.string fl, .slice uo ul uc] 75)).drew := ((Below.refl _ _).alloc (Nat.le_refl _) _).drew
            have hx0 : (wr.alloc (Obj.cells #[.string fl, .slice uo ul uc] 75)).drew.heap[wr.heap.size]? = some (Obj.cells #[.string fl, .slice uo ul uc] 75) := heap_alloc_new wr _
            all_goals (
              generalize (wr.alloc (Obj.cells #[.string fl, .slice uo ul uc] 75)).drew = W0 at *
              have B0 := hide hB0
              have hbw : b < wr.heap.size := heap_lt XV.out.box
              generalize hfb : wr.heap.size = fb at hx0 ⊢
              have s1 := (B0.out.cell (p := ⟨b, 1, none⟩) hbw).trans e1
              have s2 := (B0.out.cell (p := ⟨g, k * 2 + 1, none⟩) hg).trans n1
              have s3 := box_cell hx0 0 (v := .string fl) rfl
              have s4 := box_cell hx0 1 (v := .slice uo ul uc) rfl
              have hfb2 : fb < W0.heap.size := heap_lt hx0
              have hb2 : b < W0.heap.size := Nat.lt_of_lt_of_le hbw B0.out.size
              have hg2 : g < W0.heap.size := Nat.lt_of_lt_of_le hg B0.out.size
              have hbf : b ≠ fg := fun e => XV.out.ne _ (.inl rfl) (by rw [hfv, e]; rfl)
              have hgf : g ≠ fg := fun e => by
                have hd7 := XV.out.dir
                rw [HY.out] at hd7
                rcases XV.out.files.2 with ⟨hv, _⟩ | ⟨g', c', cur, hv, _, hh, _⟩
                · rw [hfv] at hv; cases hv
                · rw [hfv] at hv
                  injection hv with q1 _ _
                  injection q1 with q1
                  injection q1 with q1 _ _
                  subst q1
                  subst e
                  exact absurd (zown_type hd7 rfl hh) (by decide)
              have hff : fb ≠ fg := by omega
              have HUNS : Hid (∀ u ∈ F.since, u.s.size ≤ 9223372036854775807 ∧ -9223372036854775808 ≤ u.n ∧ u.n ≤ 9223372036854775807) := fun u hu => ⟨by have := zsum_mem hu; have := HFK.out.big; omega, HFK.out.num u hu⟩
              have HKC : Hid (∀ W, Below W0.heap.size W0 W → Calls Tryz.prog 32 #[.slice uo ul uc, .int .i64 un] W fun e w' => ∃ ro rc, e = .returned (.slice ro (zkept F.since un).length rc) ∧ w'.ownsRow W.heap.size 112 2 (.slice ro (zkept F.since un).length rc) (zkept F.since un).length (unCells (zkept F.since un)) ∧ Below W.heap.size W w') := fun W hb => by
                rw [← hul9]
                exact zkept_any uo uc F.since un W 0 (by have := HFK.out.few; omega) hub HUNS.out (zown_below (zown_below HOU.out B0.out) hb)
              have HDC : Hid (∀ W ro rc B, W.ownsRow B 112 2 (.slice ro (zkept F.since un).length rc) (zkept F.since un).length (unCells (zkept F.since un)) → Calls Tryz.prog 31 #[.string fl, .slice ro (zkept F.since un).length rc] W fun e w' => e = .returned (.string (F.crashed un).lasts) ∧ w' = W) := fun W ro rc B hr => by
                rw [← hfl9]
                exact zdone_any F.lasts ro rc (zkept F.since un) W B (by have := zkept_len F.since un; have := HFK.out.few; omega) (zkept_fits _ _ _ HFK.out.fits) (by have := zkept_sum F.since un; have := HFK.out.big; omega) (zkept_num F.since un (fun x => -9223372036854775808 ≤ x ∧ x ≤ 9223372036854775807) HFK.out.num) hr
              have HC : Hid (∀ (W : World), Below W0.heap.size W0 W → (∃ v0 v1, W.cell? ⟨fg, di * 2, none⟩ = some v0 ∧ W.cell? ⟨fg, di * 2 + 1, none⟩ = some v1) ∧ W.frozen? ⟨fg, di * 2, none⟩ = false ∧ W.frozen? ⟨fg, di * 2 + 1, none⟩ = false) := fun W hb => by
                have hbb : Below wr.heap.size wr W := B0.out.trans (hb.mono B0.out.size)
                have q0 := (hbb.cell (p := ⟨fg, di * 2, none⟩) hfg).trans f0
                have q1 := (hbb.cell (p := ⟨fg, di * 2 + 1, none⟩) hfg).trans f1
                have hX := XV.out.below hbb
                rcases hX.files.2 with ⟨hv, _⟩ | ⟨g2, c2, cur, hv, _, hh, _⟩
                · rw [hfv] at hv; cases hv
                · rw [hfv] at hv
                  injection hv with q2 _ _
                  injection q2 with q2
                  injection q2 with q2 _ _
                  subst q2
                  exact ⟨⟨_, _, q0, q1⟩, box_free hh _, box_free hh _⟩
              have HK1 := hide (enters_of Tryz.func32 (by kernel_rfl) rfl)
              have HK2 := hide (enters_of Tryz.func31 (by kernel_rfl) rfl)
              generalize (zkept F.since un).length = kl at *
              generalize unCells (zkept F.since un) = kcs at *
              generalize (F.crashed un).lasts = cl at *
              have HCU2 : Hid (∀ (W : World), Below W0.heap.size W0 W → XR ((W.setCell ⟨fg, di * 2, none⟩ (.string cl)).setCell ⟨fg, di * 2 + 1, none⟩ (.slice none 0 0)) b { S with dir := D, lasts := D, since := [], files := zcrashN D us S.files (k + 1) } { Y with uv := upd Y.uv di (.slice none 0 0) } ∧ XStep wr ((W.setCell ⟨fg, di * 2, none⟩ (.string cl)).setCell ⟨fg, di * 2 + 1, none⟩ (.slice none 0 0)) b (zcrashN D us S.files k).length (zcrashN D us S.files k).length Y { Y with uv := upd Y.uv di (.slice none 0 0) }) := fun W hb => by
                have hbb : Below wr.heap.size wr W := B0.out.trans (hb.mono B0.out.size)
                have h7 := HCU.out W hbb
                rw [HZS.out]
                exact ⟨h7.1, (XStep.same _ _ _ hbb).trans h7.2⟩
              have HLN := hide (zcrashN_length D us S.files k)
              have HY2 := hide HY.out
              have HSV := hide SV.out
              clear HCU HZS HUNS XV SV HOU HFK f0 f1 e1 n1 hx0 hB0 hul9 hfl9 hfv huv HY HX1
              go_wp2_with fail
              go_region_held_law (fun w' => w'.cell? ⟨b, 1, none⟩ = some (.slice (some ⟨fg, 0, none⟩) nf fc) ∧ w'.cell? ⟨g, k * 2 + 1, none⟩ = some (.int .i64 di) ∧ w'.cell? ⟨fb, 0, none⟩ = some (.string fl) ∧ w'.cell? ⟨fb, 1, none⟩ = some (.slice uo ul uc)) (first | go_keep | exact ⟨z1, z2, z3, z4⟩ | exact z9 _ _) (first
                | (refine zstep_fn (by rfl) 88 (by rfl) 32 _ _ (by rfl) HK1.out [.slice uo ul uc, .int .i64 un] (by rfl) (HKC.out _ (by first | exact Below.refl _ _ | exact (Below.refl _ _).drew)) ?_; rintro e w6 ⟨ro, rc, rfl, o6, b6⟩; refine ⟨_, rfl, ?_⟩; have O6 := hide o6; have B6 : Hid (Below W0.heap.size W0 w6) := ⟨b6.os, b6.tape, b6.output, b6.size, b6.block⟩; have z1 := (B6.out.cell (p := ⟨b, 1, none⟩) hb2).trans s1; have z2 := (B6.out.cell (p := ⟨g, k * 2 + 1, none⟩) hg2).trans s2; have z3 := (B6.out.cell (p := ⟨fb, 0, none⟩) hfb2).trans s3; have z4 := (B6.out.cell (p := ⟨fb, 1, none⟩) hfb2).trans s4; have z9 : ∀ u v : Value, ((w6.setCell ⟨fg, di * 2, none⟩ u).setCell ⟨fg, di * 2 + 1, none⟩ v).cell? ⟨b, 1, none⟩ = some (.slice (some ⟨fg, 0, none⟩) nf fc) ∧ ((w6.setCell ⟨fg, di * 2, none⟩ u).setCell ⟨fg, di * 2 + 1, none⟩ v).cell? ⟨g, k * 2 + 1, none⟩ = some (.int .i64 di) ∧ ((w6.setCell ⟨fg, di * 2, none⟩ u).setCell ⟨fg, di * 2 + 1, none⟩ v).cell? ⟨fb, 0, none⟩ = some (.string fl) ∧ ((w6.setCell ⟨fg, di * 2, none⟩ u).setCell ⟨fg, di * 2 + 1, none⟩ v).cell? ⟨fb, 1, none⟩ = some (.slice uo ul uc) := (fun u v => ⟨cell_off2 hbf z1, cell_off2 hgf z2, cell_off2 hff z3, cell_off2 hff z4⟩); obtain ⟨⟨v0, v1, y0, y1⟩, g0, g1⟩ := HC.out w6 B6.out; clear b6 o6)
                | (refine zstep_fn (by rfl) 89 (by rfl) 31 _ _ (by rfl) HK2.out [.string fl, .slice ro kl rc] (by rfl) (HDC.out _ ro rc _ (by first | exact O6.out | exact O6.out.drew)) ?_; rintro e w7 ⟨rfl, hw7⟩; obtain rfl := hw7.symm; refine ⟨_, rfl, ?_⟩; clear hw7))
              all_goals (
                go_wp2
                have h8 := HCU2.out w6 B6.out
                have s8 := h8.2
                rw [HLN.out] at s8
                exact ⟨⟨k + 1, { Y with uv := upd Y.uv di (.slice none 0 0) }, by omega, by go_num, HY2.out, h8.1, HSV.out.trans s8⟩, by simp [intOf]; omega⟩))
          · have hku1 : ¬ (k : Int) < (us.length : Int) := by omega
            have hgd : us.getD k 0 = 0 := by rw [List.getD_eq_getElem?_getD, List.getElem?_eq_none (by omega)]; rfl
            rw [hgd] at HCU hzs
            have HZS := hide hzs
            clear hzs
            generalize hnf : (zcrashN D us S.files k).length = nf at e1 hdb hfn
            generalize hul9 : F.since.length = ul at f1
            generalize hfl9 : F.lasts = fl at f0
            go_wp2_with fail
            go_region_held (fun w' => w'.cell? ⟨b, 1, none⟩ = some (.slice (some ⟨fg, 0, none⟩) nf fc) ∧ w'.cell? ⟨g, k * 2 + 1, none⟩ = some (.int .i64 di) ∧ w'.cell? ⟨fg, di * 2, none⟩ = some (.string fl) ∧ w'.cell? ⟨fg, di * 2 + 1, none⟩ = some (.slice uo ul uc)) (go_keep) (fail)
            have hB0 : Below wr.heap.size wr (wr.alloc (Obj.cells #[.string fl, .slice uo ul uc] 75)).drew := ((Below.refl _ _).alloc (Nat.le_refl _) _).drew
            have hx0 : (wr.alloc (Obj.cells #[.string fl, .slice uo ul uc] 75)).drew.heap[wr.heap.size]? = some (Obj.cells #[.string fl, .slice uo ul uc] 75) := heap_alloc_new wr _
            all_goals (
              generalize (wr.alloc (Obj.cells #[.string fl, .slice uo ul uc] 75)).drew = W0 at *
              have B0 := hide hB0
              have hbw : b < wr.heap.size := heap_lt XV.out.box
              generalize hfb : wr.heap.size = fb at hx0 ⊢
              have s1 := (B0.out.cell (p := ⟨b, 1, none⟩) hbw).trans e1
              have s2 := (B0.out.cell (p := ⟨g, k * 2 + 1, none⟩) hg).trans n1
              have s3 := box_cell hx0 0 (v := .string fl) rfl
              have s4 := box_cell hx0 1 (v := .slice uo ul uc) rfl
              have hfb2 : fb < W0.heap.size := heap_lt hx0
              have hb2 : b < W0.heap.size := Nat.lt_of_lt_of_le hbw B0.out.size
              have hg2 : g < W0.heap.size := Nat.lt_of_lt_of_le hg B0.out.size
              have hbf : b ≠ fg := fun e => XV.out.ne _ (.inl rfl) (by rw [hfv, e]; rfl)
              have hgf : g ≠ fg := fun e => by
                have hd7 := XV.out.dir
                rw [HY.out] at hd7
                rcases XV.out.files.2 with ⟨hv, _⟩ | ⟨g', c', cur, hv, _, hh, _⟩
                · rw [hfv] at hv; cases hv
                · rw [hfv] at hv
                  injection hv with q1 _ _
                  injection q1 with q1
                  injection q1 with q1 _ _
                  subst q1
                  subst e
                  exact absurd (zown_type hd7 rfl hh) (by decide)
              have hff : fb ≠ fg := by omega
              have HUNS : Hid (∀ u ∈ F.since, u.s.size ≤ 9223372036854775807 ∧ -9223372036854775808 ≤ u.n ∧ u.n ≤ 9223372036854775807) := fun u hu => ⟨by have := zsum_mem hu; have := HFK.out.big; omega, HFK.out.num u hu⟩
              have HKC : Hid (∀ W, Below W0.heap.size W0 W → Calls Tryz.prog 32 #[.slice uo ul uc, .int .i64 0] W fun e w' => ∃ ro rc, e = .returned (.slice ro (zkept F.since 0).length rc) ∧ w'.ownsRow W.heap.size 112 2 (.slice ro (zkept F.since 0).length rc) (zkept F.since 0).length (unCells (zkept F.since 0)) ∧ Below W.heap.size W w') := fun W hb => by
                rw [← hul9]
                exact zkept_any uo uc F.since 0 W 0 (by have := HFK.out.few; omega) (by decide) HUNS.out (zown_below (zown_below HOU.out B0.out) hb)
              have HDC : Hid (∀ W ro rc B, W.ownsRow B 112 2 (.slice ro (zkept F.since 0).length rc) (zkept F.since 0).length (unCells (zkept F.since 0)) → Calls Tryz.prog 31 #[.string fl, .slice ro (zkept F.since 0).length rc] W fun e w' => e = .returned (.string (F.crashed 0).lasts) ∧ w' = W) := fun W ro rc B hr => by
                rw [← hfl9]
                exact zdone_any F.lasts ro rc (zkept F.since 0) W B (by have := zkept_len F.since 0; have := HFK.out.few; omega) (zkept_fits _ _ _ HFK.out.fits) (by have := zkept_sum F.since 0; have := HFK.out.big; omega) (zkept_num F.since 0 (fun x => -9223372036854775808 ≤ x ∧ x ≤ 9223372036854775807) HFK.out.num) hr
              have HC : Hid (∀ (W : World), Below W0.heap.size W0 W → (∃ v0 v1, W.cell? ⟨fg, di * 2, none⟩ = some v0 ∧ W.cell? ⟨fg, di * 2 + 1, none⟩ = some v1) ∧ W.frozen? ⟨fg, di * 2, none⟩ = false ∧ W.frozen? ⟨fg, di * 2 + 1, none⟩ = false) := fun W hb => by
                have hbb : Below wr.heap.size wr W := B0.out.trans (hb.mono B0.out.size)
                have q0 := (hbb.cell (p := ⟨fg, di * 2, none⟩) hfg).trans f0
                have q1 := (hbb.cell (p := ⟨fg, di * 2 + 1, none⟩) hfg).trans f1
                have hX := XV.out.below hbb
                rcases hX.files.2 with ⟨hv, _⟩ | ⟨g2, c2, cur, hv, _, hh, _⟩
                · rw [hfv] at hv; cases hv
                · rw [hfv] at hv
                  injection hv with q2 _ _
                  injection q2 with q2
                  injection q2 with q2 _ _
                  subst q2
                  exact ⟨⟨_, _, q0, q1⟩, box_free hh _, box_free hh _⟩
              have HK1 := hide (enters_of Tryz.func32 (by kernel_rfl) rfl)
              have HK2 := hide (enters_of Tryz.func31 (by kernel_rfl) rfl)
              generalize (zkept F.since 0).length = kl at *
              generalize unCells (zkept F.since 0) = kcs at *
              generalize (F.crashed 0).lasts = cl at *
              have HCU2 : Hid (∀ (W : World), Below W0.heap.size W0 W → XR ((W.setCell ⟨fg, di * 2, none⟩ (.string cl)).setCell ⟨fg, di * 2 + 1, none⟩ (.slice none 0 0)) b { S with dir := D, lasts := D, since := [], files := zcrashN D us S.files (k + 1) } { Y with uv := upd Y.uv di (.slice none 0 0) } ∧ XStep wr ((W.setCell ⟨fg, di * 2, none⟩ (.string cl)).setCell ⟨fg, di * 2 + 1, none⟩ (.slice none 0 0)) b (zcrashN D us S.files k).length (zcrashN D us S.files k).length Y { Y with uv := upd Y.uv di (.slice none 0 0) }) := fun W hb => by
                have hbb : Below wr.heap.size wr W := B0.out.trans (hb.mono B0.out.size)
                have h7 := HCU.out W hbb
                rw [HZS.out]
                exact ⟨h7.1, (XStep.same _ _ _ hbb).trans h7.2⟩
              have HLN := hide (zcrashN_length D us S.files k)
              have HY2 := hide HY.out
              have HSV := hide SV.out
              clear HCU HZS HUNS XV SV HOU HFK f0 f1 e1 n1 hx0 hB0 hul9 hfl9 hfv huv HY HX1
              go_wp2_with fail
              go_region_held_law (fun w' => w'.cell? ⟨b, 1, none⟩ = some (.slice (some ⟨fg, 0, none⟩) nf fc) ∧ w'.cell? ⟨g, k * 2 + 1, none⟩ = some (.int .i64 di) ∧ w'.cell? ⟨fb, 0, none⟩ = some (.string fl) ∧ w'.cell? ⟨fb, 1, none⟩ = some (.slice uo ul uc)) (first | go_keep | exact ⟨z1, z2, z3, z4⟩ | exact z9 _ _) (first
                | (refine zstep_fn (by rfl) 88 (by rfl) 32 _ _ (by rfl) HK1.out [.slice uo ul uc, .int .i64 0] (by rfl) (HKC.out _ (by first | exact Below.refl _ _ | exact (Below.refl _ _).drew)) ?_; rintro e w6 ⟨ro, rc, rfl, o6, b6⟩; refine ⟨_, rfl, ?_⟩; have O6 := hide o6; have B6 : Hid (Below W0.heap.size W0 w6) := ⟨b6.os, b6.tape, b6.output, b6.size, b6.block⟩; have z1 := (B6.out.cell (p := ⟨b, 1, none⟩) hb2).trans s1; have z2 := (B6.out.cell (p := ⟨g, k * 2 + 1, none⟩) hg2).trans s2; have z3 := (B6.out.cell (p := ⟨fb, 0, none⟩) hfb2).trans s3; have z4 := (B6.out.cell (p := ⟨fb, 1, none⟩) hfb2).trans s4; have z9 : ∀ u v : Value, ((w6.setCell ⟨fg, di * 2, none⟩ u).setCell ⟨fg, di * 2 + 1, none⟩ v).cell? ⟨b, 1, none⟩ = some (.slice (some ⟨fg, 0, none⟩) nf fc) ∧ ((w6.setCell ⟨fg, di * 2, none⟩ u).setCell ⟨fg, di * 2 + 1, none⟩ v).cell? ⟨g, k * 2 + 1, none⟩ = some (.int .i64 di) ∧ ((w6.setCell ⟨fg, di * 2, none⟩ u).setCell ⟨fg, di * 2 + 1, none⟩ v).cell? ⟨fb, 0, none⟩ = some (.string fl) ∧ ((w6.setCell ⟨fg, di * 2, none⟩ u).setCell ⟨fg, di * 2 + 1, none⟩ v).cell? ⟨fb, 1, none⟩ = some (.slice uo ul uc) := (fun u v => ⟨cell_off2 hbf z1, cell_off2 hgf z2, cell_off2 hff z3, cell_off2 hff z4⟩); obtain ⟨⟨v0, v1, y0, y1⟩, g0, g1⟩ := HC.out w6 B6.out; clear b6 o6)
                | (refine zstep_fn (by rfl) 89 (by rfl) 31 _ _ (by rfl) HK2.out [.string fl, .slice ro kl rc] (by rfl) (HDC.out _ ro rc _ (by first | exact O6.out | exact O6.out.drew)) ?_; rintro e w7 ⟨rfl, hw7⟩; obtain rfl := hw7.symm; refine ⟨_, rfl, ?_⟩; clear hw7))
              all_goals (
                go_wp2
                have h8 := HCU2.out w6 B6.out
                have s8 := h8.2
                rw [HLN.out] at s8
                exact ⟨⟨k + 1, { Y with uv := upd Y.uv di (.slice none 0 0) }, by omega, by go_num, HY2.out, h8.1, HSV.out.trans s8⟩, by simp [intOf]; omega⟩))
        · have hk1 : ¬ (k : Int) < (D.length : Int) := by omega
          obtain rfl : k = D.length := by omega
          obtain ⟨_, _, _, _, _, g5, g6⟩ := XV.out.c
          have q5 := box_free XV.out.box 5
          have q6 := box_free XV.out.box 6
          have HE : Hid (XR ((wr.setCell ⟨b, 5, none⟩ (.int .i64 (-1))).setCell ⟨b, 6, none⟩ (.bool false)) b ⟨S.room, -1, false, zcrashN D us S.files D.length, D, D, []⟩ Y ∧ XStep wr ((wr.setCell ⟨b, 5, none⟩ (.int .i64 (-1))).setCell ⟨b, 6, none⟩ (.bool false)) b (zcrashN D us S.files D.length).length (zcrashN D us S.files D.length).length Y Y) :=
            XV.out.boxed (S' := ⟨S.room, -1, false, zcrashN D us S.files D.length, D, D, []⟩) HOKD.out rfl rfl rfl rfl (((Touch.refl (fun j => j = b) wr).setCell _ _ fun _ => rfl).setCell _ _ fun _ => rfl) (box_set (box_set XV.out.box 5 _) 6 _) XV.out.ne
          have HLN := hide (zcrashN_length D us S.files D.length)
          simp only at g5 g6
          clear HX1 HOKD
          go_wp2
          go_end0
          refine ⟨rfl, Y, by rw [HCR.out]; exact HE.out.1, ?_⟩
          have s9 := HE.out.2
          rw [HCR.out]
          rw [HLN.out] at s9 ⊢
          exact SV.out.trans s9
end
end Go.Proofs.YtknldpaaikcedaaGreat
