/-
  DiskSwaps as it runs.
-/
import Derived.Test.YtddmnmeijnncmaaLastsW
import Derived.Test.YtddmnmeijnncmaaPick
namespace Go.Proofs.Ytddmnmeijnncmaa
open Go.RowKit Go.Maps Go.Sort

/-- The names m and t. -/
def D2 (f g : Nat) : DataW Nat := .map [(.string [109], .lit (.int .i64 f)), (.string [116], .lit (.int .i64 g))]
theorem put_two (f g : Nat) : dput (D1 [109] f) [116] g = D2 f g := rfl
theorem get_two_m (f g : Nat) : dget (D2 f g) [109] = some f := by
  rw [← put_two, dget_put_other _ (by decide)]
  exact dget_one _ _
theorem get_two_t (f g : Nat) : dget (D2 f g) [116] = some g := by
  rw [← put_two]
  exact dget_put_same ⟨_, rfl⟩ _ _
theorem del_two (f g : Nat) : ddel (D2 f g) [116] = D1 [109] f := by
  unfold ddel D1 D2 DataW.del
  simp [Lit.sameKey]
theorem put_over (f g : Nat) : dput (D1 [109] f) [109] g = D1 [109] g := rfl
theorem rename_two (f g : Nat) (x : DA) (h1 : x.kind = 1) (h2 : x.a = ⟨#[116]⟩) (h3 : x.b = ⟨#[109]⟩) : x.run (D2 f g) = D1 [109] g := by
  have e : x.a.data.toList = [116] := by rw [h2]
  have e3 : x.b.data.toList = [109] := by rw [h3]
  unfold DA.run
  rw [h1]
  simp only [e, e3, get_two_t, del_two]
  exact put_over f g
theorem create_two (f g : Nat) (x : DA) (h1 : x.kind = 0) (h2 : x.a = ⟨#[116]⟩) (h3 : x.id = g) : x.run (D1 [109] f) = D2 f g := by
  have e : x.a.data.toList = [116] := by rw [h2]
  unfold DA.run
  rw [h1]
  simp only [e, h3]
  exact put_two f g
theorem used_two {G : DG} {f g : Nat} {n1 l1 n2 l2 : List UInt8} {a1 a2 : List FA} (hD : G.D = D2 f g) (h1 : G.core f = some (n1, l1, a1)) (h2 : G.core g = some (n2, l2, a2)) : used G = n1.length + n2.length := by
  obtain ⟨F1, hF1, e1⟩ := file_some h1
  obtain ⟨F2, hF2, e2⟩ := file_some h2
  have e3 : F1.now = n1 := congrArg Prod.fst e1
  have e4 : F2.now = n2 := congrArg Prod.fst e2
  unfold used usedL
  rw [hD]
  show ([[109], [116]].map (flen G)).sum = _
  simp only [List.map_cons, List.map_nil, List.sum_cons, List.sum_nil, Nat.add_zero]
  unfold flen
  rw [hD, get_two_m, get_two_t]
  simp only [hF1, hF2, e3, e4]

/-- Whatever is kept, the name m has the old text or the new one, and that was synced. -/
def Good (G : DG) (old anew : ByteArray) : Prop := ∀ i, ∃ (f : Nat) (S : ByteArray), dget (drunAll G.LD (G.X.take i)) [109] = some f ∧ G.core f = some (S.data.toList, S.data.toList, []) ∧ (S = old ∨ S = anew)
theorem Good.fall {G : DG} {old anew : ByteArray} (h : Good G old anew) : Good G.fall old anew := h
theorem good_read {G G' : DG} {old anew : ByteArray} {dirs : Int} {us : List Int} (h : Good G old anew) (c : Crashed G G' dirs us) : ∃ S, (S = old ∨ S = anew) ∧ readS G' ⟨#[109]⟩ = S ∧ readE G' ⟨#[109]⟩ = 0 := by
  obtain ⟨f, S, h1, h2, h3⟩ := h (dmany dirs G.X.length)
  have h4 : G'.core f = some (S.data.toList, S.data.toList, []) := by
    rw [c.core]
    exact crashN_stable _ _ _ _ _ _ h2
  obtain ⟨e1, e2⟩ := read_of (k := ⟨#[109]⟩) c.down (by rw [c.D]; exact h1) h4
  exact ⟨S, h3, e1, e2⟩
theorem good_0 {G : DG} {old anew : ByteArray} {f : Nat} (hL : G.LD = D1 [109] f) (hX : G.X = []) (h : G.core f = some (old.data.toList, old.data.toList, [])) : Good G old anew := fun i => ⟨f, old, by rw [hX, hL, List.take_nil]; exact dget_one _ _, h, .inl rfl⟩
theorem good_1 {G : DG} {old anew : ByteArray} {f g : Nat} {x : DA} (hL : G.LD = D1 [109] f) (hX : G.X = [x]) (hr : x.run (D1 [109] f) = D2 f g) (h : G.core f = some (old.data.toList, old.data.toList, [])) : Good G old anew := fun i => ⟨f, old, by
  rw [hX, hL]
  cases i with
  | zero => exact dget_one _ _
  | succ i =>
    show dget (drunAll (x.run (D1 [109] f)) (List.take i [])) [109] = _
    rw [List.take_nil, hr]
    exact get_two_m f g, h, .inl rfl⟩
theorem good_2 {G : DG} {old anew : ByteArray} {f g : Nat} {x y : DA} (hL : G.LD = D1 [109] f) (hX : G.X = [x, y]) (hr : x.run (D1 [109] f) = D2 f g) (hy : y.run (D2 f g) = D1 [109] g) (h : G.core f = some (old.data.toList, old.data.toList, [])) (hg : G.core g = some (anew.data.toList, anew.data.toList, [])) : Good G old anew := fun i => by
  rw [hX, hL]
  cases i with
  | zero => exact ⟨f, old, dget_one _ _, h, .inl rfl⟩
  | succ i =>
    cases i with
    | zero => exact ⟨f, old, by
        show dget (x.run (D1 [109] f)) [109] = _
        rw [hr]
        exact get_two_m f g, h, .inl rfl⟩
    | succ i => exact ⟨g, anew, by
        show dget (drunAll (y.run (x.run (D1 [109] f))) (List.take i [])) [109] = _
        rw [List.take_nil, hr, hy]
        exact dget_one _ _, hg, .inr rfl⟩
theorem good_3 {G : DG} {old anew : ByteArray} {g : Nat} (hL : G.LD = D1 [109] g) (hX : G.X = []) (h : G.core g = some (anew.data.toList, anew.data.toList, [])) : Good G old anew := fun i => ⟨g, anew, by rw [hX, hL, List.take_nil]; exact dget_one _ _, h, .inr rfl⟩
theorem tickF_pos {z : Int} (h : 0 < z) : tickF z = z - 1 := by unfold tickF; rw [if_pos h]

set_option maxRecDepth 100000 in
set_option maxHeartbeats 4000000 in
theorem swaps_big (old anew : ByteArray) (fuse dirs : Int) (ko : Option Addr) (kc : Nat) (us : List Int) (w : World) (ho : old.size ≤ 140737488351232) (ha : anew.size ≤ 140737488351232) (hbig : 500000 < old.size + anew.size) :
    Calls Try.prog 4 #[.string old, .string anew, .int .i64 fuse, .int .i64 dirs, .slice ko us.length kc] w fun e w' => e = .returned (.bool true) ∧ RowKit.Below w.heap.size w w' := by
  have HE := hide (examples_any w)
  go_enter Try.func4, Try.ntmps4
  go_wp2_with fail
  refine HE.out.mono ?_
  rintro e w0 ⟨rfl, be⟩
  have BE := hide be
  have HNew := hide (new_ok 1000000 w0 (by omega) 1000000 (by omega))
  clear be HE
  go_wp2_with fail
  refine HNew.out.mono ?_
  rintro e w1 ⟨b, G0, rfl, r0, fr, ow, b0⟩
  have B0 : Hid (RowKit.Below w.heap.size w w1) := BE.out.trans (b0.mono BE.out.size)
  clear b0 ow fr HNew BE r0
  go_wp2
  go_ret
  exact ⟨rfl, B0.out⟩

set_option maxRecDepth 100000 in
set_option maxHeartbeats 8000000 in
theorem swaps_all (old anew : ByteArray) (fuse dirs : Int) (ko : Option Addr) (kc : Nat) (us : List Int) (w : World) (ho : old.size ≤ 140737488351232) (ha : anew.size ≤ 140737488351232) (hbig : ¬ 500000 < old.size + anew.size) (hfu : -9223372036854775808 ≤ fuse ∧ fuse ≤ 9223372036854775807) (hdi : -9223372036854775808 ≤ dirs ∧ dirs ≤ 9223372036854775807) (hcm : Came w ko us) :
    Calls Try.prog 4 #[.string old, .string anew, .int .i64 fuse, .int .i64 dirs, .slice ko us.length kc] w fun e w' => e = .returned (.bool true) ∧ RowKit.Below w.heap.size w w' := by
  have HE := hide (examples_any w)
  have HCM := hide hcm
  clear hcm
  go_enter Try.func4, Try.ntmps4
  go_wp2_with fail
  refine HE.out.mono ?_
  rintro e w0 ⟨rfl, be⟩
  have BE := hide be
  have HNew := hide (new_ok 1000000 w0 (by omega) 1000000 (by omega))
  clear be HE
  go_wp2_with fail
  refine HNew.out.mono ?_
  rintro e w1 ⟨b, G0, rfl, r0, fr, ow, b0⟩
  have B0 : Hid (RowKit.Below w.heap.size w w1) := BE.out.trans (b0.mono BE.out.size)
  have OW : Hid (∀ j, G0.own j → w.heap.size ≤ j) := fun j e => Nat.le_trans BE.out.size (ow j e)
  obtain ⟨i0, k0⟩ := fr.is
  have R0 := hide r0
  have I0 := hide i0
  have K0 := hide k0
  clear b0 ow fr HNew BE r0 i0 k0
  -- Create m
  have H1 := hide (create_go R0.out ⟨#[109]⟩ (by decide) (by rw [I0.out.n]; omega) I0.out.down (by decide) (by rw [I0.out.D]; rfl) (by rw [I0.out.D]; decide) (by rw [I0.out.fuse]; decide))
  go_wp2_with fail
  refine H1.out.mono ?_
  rintro e w2 ⟨rfl, f, G1, s1, c1⟩
  have S1 := hide s1
  obtain ⟨⟨x1, x1a, x1b, x1c, i1⟩, _, k1⟩ := I0.out.created c1
  replace i1 := i1.tickneg (by omega)
  have i1D : G1.D = D1 [109] f := i1.D
  have k1f : G1.core f = some ([], [], []) := by rw [k1]; simp
  obtain ⟨F1, hF1, e1⟩ := file_some k1f
  have u1 := used_one i1D k1f
  -- Append m old
  have H2 := hide (append_go s1.rep ⟨#[109]⟩ (by decide) old (by unfold maxLen; omega) (by rw [i1.n]; omega) f (by rw [i1D]; exact dget_one _ _) F1 hF1 i1.down (by rw [i1.room, u1]; show ¬ (1000000 : Int) - 0 < _; omega) (by rw [i1.fuse]; decide) (by rw [i1.q]; omega))
  have I1 := hide i1
  have E1 := hide e1
  clear c1 s1 i1 k1 H1 u1 k1f hF1 e1 i1D x1a x1b x1c
  go_wp2_with fail
  refine H2.out.mono ?_
  rintro e w3 ⟨rfl, G2, F2, c2, s2, a2⟩
  have S2 := hide (S1.out.trans s2)
  obtain ⟨i2, k2⟩ := I1.out.acted a2
  replace i2 := i2.tickneg (by omega)
  have hta : old.data.toList.take old.size = old.data.toList := List.take_of_length_le (by simp)
  have k2f : G2.core f = some (old.data.toList, [], [⟨false, c2, old, 0⟩]) := by
    rw [k2]
    have e2 : F1.now = [] := congrArg Prod.fst E1.out
    have e3 : F1.last = [] := congrArg (fun t => t.2.1) E1.out
    have e4 : F1.acts = [] := congrArg (fun t => t.2.2) E1.out
    simp only [if_true, e2, e3, e4, FA.run, FA.units, List.nil_append, hta]
  obtain ⟨F2', hF2, e2⟩ := file_some k2f
  -- Sync m
  have H3 := hide (sync_go s2.rep (by rw [i2.n]; omega) ⟨#[109]⟩ (by decide) i2.down f (by rw [i2.D]; exact dget_one _ _) F2' hF2 (by rw [i2.fuse]; decide))
  have I2 := hide i2
  have E2 : Hid (F2'.now = old.data.toList) := congrArg Prod.fst e2
  clear s2 a2 i2 k2 k2f H2 hta hF2 e2 E1 I1
  go_wp2_with fail
  refine H3.out.mono ?_
  rintro e w4 ⟨rfl, G3, F3, s3, y3⟩
  have S3 := hide (S2.out.trans s3)
  obtain ⟨i3, k3⟩ := I2.out.synced y3
  replace i3 := i3.tickneg (by omega)
  have K3 : Hid (G3.core f = some (old.data.toList, old.data.toList, [])) := by
    rw [k3]
    simp only [if_true, E2.out]
    exact trivial
  -- DirSync
  have H4 := hide (dirsync_go s3.rep (by rw [i3.n]; omega) i3.down (by rw [i3.fuse]; decide))
  have I3 := hide i3
  clear s3 y3 i3 k3 H3 I2 E2
  go_wp2_with fail
  refine H4.out.mono ?_
  rintro e w5 ⟨rfl, G4, s4, d4⟩
  have S4 := hide (S3.out.trans s4)
  obtain ⟨i4, k4⟩ := I3.out.dirsynced d4
  replace i4 := i4.tickneg (by omega)
  have i4' : Is G4 1000000 (-1) false (D1 [109] f) (D1 [109] f) [] 2 1000000 := i4
  have K4 : Hid (G4.core f = some (old.data.toList, old.data.toList, [])) := by rw [k4]; exact K3.out
  -- Fuse
  have HP := hide (pick_any fuse 8 w5 hfu (by omega))
  have hz := pickZ_range fuse 8 (by omega)
  generalize hzz : pickZ fuse 8 = z at HP hz
  have H5 := hide (fuse_any s4.rep z (by omega))
  have I4 := hide i4'
  clear s4 d4 i4 i4' k4 H4 I3 K3
  go_wp2_with fail
  refine HP.out.mono ?_
  rintro e wp ⟨rfl, hw⟩
  obtain rfl := hw.symm
  clear HP hzz
  go_wp2_with fail
  refine H5.out.mono ?_
  rintro e w6 ⟨rfl, s5⟩
  have S5 := hide (S4.out.trans s5)
  have R5 := hide s5.rep
  have I5 : Hid (Is { G4 with fuse := z } 1000000 z false (D1 [109] f) (D1 [109] f) [] 2 1000000) := ⟨I4.out.room, rfl, I4.out.down, I4.out.D, I4.out.LD, I4.out.X, I4.out.n, I4.out.q⟩
  have K5 : Hid (DG.core { G4 with fuse := z } f = some (old.data.toList, old.data.toList, [])) := K4.out
  clear s5 H5 I4 K4
  generalize hG5 : ({ G4 with fuse := z } : DG) = G5 at S5 R5 I5 K5
  clear hG5
  by_cases z0 : z = 0
  · have H6 := hide (create_stop R5.out ⟨#[116]⟩ (by decide) I5.out.down (by decide) (by rw [I5.out.D]; rfl) (by rw [I5.out.D]; show ¬ 200 ≤ 1; decide) (by rw [I5.out.fuse]; exact z0))
    go_wp2_with fail
    refine H6.out.mono ?_
    rintro e w7 ⟨rfl, s6⟩
    have S6 := hide s6
    clear s6 H6
    have BO := hide (Step.old B0.out OW.out (S5.out.trans S6.out))
    have HC := hide (crash_any S6.out.rep (by show G5.n < _; rw [I5.out.n]; omega) dirs hdi ko kc us HCM.out.ints HCM.out.len (HCM.out.at BO.out.1) (HCM.out.apart BO.out.2))
    have GD : Hid (Good G5.fall old anew) := (good_0 I5.out.LD I5.out.X K5.out).fall
    have SZ := hide (S5.out.trans S6.out)
    go_wp2_with fail
    refine HC.out.mono ?_
    rintro e wc ⟨rfl, GC, sc, crc⟩
    obtain ⟨S, hS, e1, e2⟩ := good_read GD.out crc
    have h7 := read_any sc.rep ⟨#[109]⟩ (by decide)
    rw [e1, e2] at h7
    have H7 := hide h7
    have BF := hide (Step.old B0.out OW.out (SZ.out.trans sc)).1
    clear h7 e1 e2 sc crc HC GD BO SZ
    rcases hS with rfl | rfl
    · go_wp2_with (go_at_call 15; refine H7.out.mono ?_; rintro e w8 ⟨rfl, hw⟩; obtain rfl := hw.symm)
      go_ret
      exact ⟨rfl, BF.out⟩
    · go_wp2_with (go_at_call 15; refine H7.out.mono ?_; rintro e w8 ⟨rfl, hw⟩; obtain rfl := hw.symm)
      all_goals (go_ret; exact ⟨rfl, BF.out⟩)
  -- Create t
  have H6 := hide (create_go R5.out ⟨#[116]⟩ (by decide) (by rw [I5.out.n]; omega) I5.out.down (by decide) (by rw [I5.out.D]; rfl) (by rw [I5.out.D]; show ¬ 200 ≤ 1; decide) (by rw [I5.out.fuse]; exact z0))
  go_wp2_with fail
  refine H6.out.mono ?_
  rintro e w7 ⟨rfl, g, G6, s6, c6⟩
  have S6 := hide (S5.out.trans s6)
  have R6 := hide s6.rep
  obtain ⟨⟨x6, x6a, x6b, x6c, i6⟩, k6n, k6⟩ := I5.out.created c6
  have i6' : Is G6 1000000 (z - 1) false (D2 f g) (D1 [109] f) [x6] 3 1000000 := by
    have h := i6
    rw [tickF_pos (by omega)] at h
    rw [← put_two]
    exact h
  have hfg : f ≠ g := fun e => by rw [← e, K5.out] at k6n; cases k6n
  have K6 : Hid (G6.core f = some (old.data.toList, old.data.toList, [])) := by
    rw [k6]
    simp only [if_neg hfg]
    exact K5.out
  have l6 : G6.core g = some ([], [], []) := by rw [k6]; simp
  have L6 := hide l6
  clear l6
  have X6 := hide (create_two f g x6 x6a x6b x6c)
  have I6 := hide i6'
  obtain ⟨F6, hF6, e6⟩ := file_some L6.out
  have u6 := used_two i6'.D K6.out L6.out
  have hlo : old.data.toList.length = old.size := by simp
  have U6 : Hid (used G6 = old.size) := by rw [u6, hlo]; rfl
  have HF6 := hide hF6
  have E6 := hide e6
  clear s6 H6 c6 i6 i6' k6 k6n x6a x6b x6c hF6 e6 u6 hlo R5
  by_cases z1 : z = 1
  · have H7 := hide (append_stop R6.out ⟨#[116]⟩ (by decide) anew (by unfold maxLen; omega) (by rw [I6.out.n]; omega) g (by rw [I6.out.D]; exact get_two_t f g) I6.out.down (by rw [I6.out.room, U6.out]; omega) (by rw [I6.out.fuse]; omega))
    go_wp2_with fail
    refine H7.out.mono ?_
    rintro e w8 ⟨rfl, s7⟩
    have S7 := hide s7
    clear s7 H7
    have BO := hide (Step.old B0.out OW.out (S6.out.trans S7.out))
    have HC := hide (crash_any S7.out.rep (by show G6.n < _; rw [I6.out.n]; omega) dirs hdi ko kc us HCM.out.ints HCM.out.len (HCM.out.at BO.out.1) (HCM.out.apart BO.out.2))
    have GD : Hid (Good G6.fall old anew) := (good_1 I6.out.LD I6.out.X X6.out K6.out).fall
    have SZ := hide (S6.out.trans S7.out)
    go_wp2_with fail
    refine HC.out.mono ?_
    rintro e wc ⟨rfl, GC, sc, crc⟩
    obtain ⟨S, hS, e1, e2⟩ := good_read GD.out crc
    have h7 := read_any sc.rep ⟨#[109]⟩ (by decide)
    rw [e1, e2] at h7
    have H7 := hide h7
    have BF := hide (Step.old B0.out OW.out (SZ.out.trans sc)).1
    clear h7 e1 e2 sc crc HC GD BO SZ
    rcases hS with rfl | rfl
    · go_wp2_with (go_at_call 15; refine H7.out.mono ?_; rintro e w8 ⟨rfl, hw⟩; obtain rfl := hw.symm)
      go_ret
      exact ⟨rfl, BF.out⟩
    · go_wp2_with (go_at_call 15; refine H7.out.mono ?_; rintro e w8 ⟨rfl, hw⟩; obtain rfl := hw.symm)
      all_goals (go_ret; exact ⟨rfl, BF.out⟩)
  -- Append t anew
  have H7 := hide (append_go R6.out ⟨#[116]⟩ (by decide) anew (by unfold maxLen; omega) (by rw [I6.out.n]; omega) g (by rw [I6.out.D]; exact get_two_t f g) F6 HF6.out I6.out.down (by rw [I6.out.room, U6.out]; omega) (by rw [I6.out.fuse]; omega) (by rw [I6.out.q]; omega))
  go_wp2_with fail
  refine H7.out.mono ?_
  rintro e w8 ⟨rfl, G7, F7, c7, s7, a7⟩
  have S7 := hide (S6.out.trans s7)
  have R7 := hide s7.rep
  obtain ⟨i7, k7⟩ := I6.out.acted a7
  rw [tickF_pos (by omega)] at i7
  have hta : anew.data.toList.take anew.size = anew.data.toList := List.take_of_length_le (by simp)
  have L7 : Hid (G7.core g = some (anew.data.toList, [], [⟨false, c7, anew, 0⟩])) := by
    rw [k7]
    have e2 : F6.now = [] := congrArg Prod.fst E6.out
    have e3 : F6.last = [] := congrArg (fun t => t.2.1) E6.out
    have e4 : F6.acts = [] := congrArg (fun t => t.2.2) E6.out
    simp only [if_true, e2, e3, e4, FA.run, FA.units, List.nil_append, hta]
    exact trivial
  have K7 : Hid (G7.core f = some (old.data.toList, old.data.toList, [])) := by
    rw [k7]
    simp only [if_neg hfg]
    exact K6.out
  have I7 := hide i7
  obtain ⟨F7', hF7, e7⟩ := file_some L7.out
  have HF7 := hide hF7
  have E7 : Hid (F7'.now = anew.data.toList) := congrArg Prod.fst e7
  clear s7 a7 i7 k7 H7 hta hF7 e7 R6 E6 HF6 U6 L6
  by_cases z2 : z = 2
  · have H8 := hide (sync_stop R7.out ⟨#[116]⟩ (by decide) I7.out.down g (by rw [I7.out.D]; exact get_two_t f g) (by rw [I7.out.fuse]; omega))
    go_wp2_with fail
    refine H8.out.mono ?_
    rintro e w9 ⟨rfl, s8⟩
    have S8 := hide s8
    clear s8 H8
    have BO := hide (Step.old B0.out OW.out (S7.out.trans S8.out))
    have HC := hide (crash_any S8.out.rep (by show G7.n < _; rw [I7.out.n]; omega) dirs hdi ko kc us HCM.out.ints HCM.out.len (HCM.out.at BO.out.1) (HCM.out.apart BO.out.2))
    have GD : Hid (Good G7.fall old anew) := (good_1 I7.out.LD I7.out.X X6.out K7.out).fall
    have SZ := hide (S7.out.trans S8.out)
    go_wp2_with fail
    refine HC.out.mono ?_
    rintro e wc ⟨rfl, GC, sc, crc⟩
    obtain ⟨S, hS, e1, e2⟩ := good_read GD.out crc
    have h7 := read_any sc.rep ⟨#[109]⟩ (by decide)
    rw [e1, e2] at h7
    have H7 := hide h7
    have BF := hide (Step.old B0.out OW.out (SZ.out.trans sc)).1
    clear h7 e1 e2 sc crc HC GD BO SZ
    rcases hS with rfl | rfl
    · go_wp2_with (go_at_call 15; refine H7.out.mono ?_; rintro e w8 ⟨rfl, hw⟩; obtain rfl := hw.symm)
      go_ret
      exact ⟨rfl, BF.out⟩
    · go_wp2_with (go_at_call 15; refine H7.out.mono ?_; rintro e w8 ⟨rfl, hw⟩; obtain rfl := hw.symm)
      all_goals (go_ret; exact ⟨rfl, BF.out⟩)
  -- Sync t
  have H8 := hide (sync_go R7.out (by rw [I7.out.n]; omega) ⟨#[116]⟩ (by decide) I7.out.down g (by rw [I7.out.D]; exact get_two_t f g) F7' HF7.out (by rw [I7.out.fuse]; omega))
  go_wp2_with fail
  refine H8.out.mono ?_
  rintro e w9 ⟨rfl, G8, F8, s8, y8⟩
  have S8 := hide (S7.out.trans s8)
  have R8 := hide s8.rep
  obtain ⟨i8, k8⟩ := I7.out.synced y8
  rw [tickF_pos (by omega)] at i8
  have L8 : Hid (G8.core g = some (anew.data.toList, anew.data.toList, [])) := by
    rw [k8]
    simp only [if_true, E7.out]
    exact trivial
  have K8 : Hid (G8.core f = some (old.data.toList, old.data.toList, [])) := by
    rw [k8]
    simp only [if_neg hfg]
    exact K7.out
  have I8 := hide i8
  clear s8 y8 i8 k8 H8 R7 E7 HF7 L7
  by_cases z3 : z = 3
  · have H9 := hide (rename_stop R8.out ⟨#[116]⟩ ⟨#[109]⟩ (by decide) (by decide) I8.out.down g (by rw [I8.out.D]; exact get_two_t f g) (by decide) (by rw [I8.out.fuse]; omega))
    go_wp2_with fail
    refine H9.out.mono ?_
    rintro e w10 ⟨rfl, s9⟩
    have S9 := hide s9
    clear s9 H9
    have BO := hide (Step.old B0.out OW.out (S8.out.trans S9.out))
    have HC := hide (crash_any S9.out.rep (by show G8.n < _; rw [I8.out.n]; omega) dirs hdi ko kc us HCM.out.ints HCM.out.len (HCM.out.at BO.out.1) (HCM.out.apart BO.out.2))
    have GD : Hid (Good G8.fall old anew) := (good_1 I8.out.LD I8.out.X X6.out K8.out).fall
    have SZ := hide (S8.out.trans S9.out)
    go_wp2_with fail
    refine HC.out.mono ?_
    rintro e wc ⟨rfl, GC, sc, crc⟩
    obtain ⟨S, hS, e1, e2⟩ := good_read GD.out crc
    have h7 := read_any sc.rep ⟨#[109]⟩ (by decide)
    rw [e1, e2] at h7
    have H7 := hide h7
    have BF := hide (Step.old B0.out OW.out (SZ.out.trans sc)).1
    clear h7 e1 e2 sc crc HC GD BO SZ
    rcases hS with rfl | rfl
    · go_wp2_with (go_at_call 15; refine H7.out.mono ?_; rintro e w8 ⟨rfl, hw⟩; obtain rfl := hw.symm)
      go_ret
      exact ⟨rfl, BF.out⟩
    · go_wp2_with (go_at_call 15; refine H7.out.mono ?_; rintro e w8 ⟨rfl, hw⟩; obtain rfl := hw.symm)
      all_goals (go_ret; exact ⟨rfl, BF.out⟩)
  -- Rename t m
  have H9 := hide (rename_go R8.out ⟨#[116]⟩ ⟨#[109]⟩ (by decide) (by decide) (by rw [I8.out.n]; omega) I8.out.down g (by rw [I8.out.D]; exact get_two_t f g) (by decide) (by rw [I8.out.fuse]; omega))
  go_wp2_with fail
  refine H9.out.mono ?_
  rintro e w10 ⟨rfl, G9, x9, s9, n9, x9a, x9b, x9c⟩
  have S9 := hide (S8.out.trans s9)
  have R9 := hide s9.rep
  have X9 := hide (rename_two f g x9 x9a x9b x9c)
  obtain ⟨i9, k9⟩ := I8.out.named n9
  rw [tickF_pos (by omega), X9.out] at i9
  have L9 : Hid (G9.core g = some (anew.data.toList, anew.data.toList, [])) := by rw [k9]; exact L8.out
  have K9 : Hid (G9.core f = some (old.data.toList, old.data.toList, [])) := by rw [k9]; exact K8.out
  have I9 := hide i9
  clear s9 n9 i9 k9 H9 R8 x9a x9b x9c
  by_cases z4 : z = 4
  · have H10 := hide (dirsync_stop R9.out I9.out.down (by rw [I9.out.fuse]; omega))
    go_wp2_with fail
    refine H10.out.mono ?_
    rintro e w11 ⟨rfl, s10⟩
    have S10 := hide s10
    clear s10 H10
    have BO := hide (Step.old B0.out OW.out (S9.out.trans S10.out))
    have HC := hide (crash_any S10.out.rep (by show G9.n < _; rw [I9.out.n]; omega) dirs hdi ko kc us HCM.out.ints HCM.out.len (HCM.out.at BO.out.1) (HCM.out.apart BO.out.2))
    have GD : Hid (Good G9.fall old anew) := (good_2 I9.out.LD I9.out.X X6.out X9.out K9.out L9.out).fall
    have SZ := hide (S9.out.trans S10.out)
    go_wp2_with fail
    refine HC.out.mono ?_
    rintro e wc ⟨rfl, GC, sc, crc⟩
    obtain ⟨S, hS, e1, e2⟩ := good_read GD.out crc
    have h7 := read_any sc.rep ⟨#[109]⟩ (by decide)
    rw [e1, e2] at h7
    have H7 := hide h7
    have BF := hide (Step.old B0.out OW.out (SZ.out.trans sc)).1
    clear h7 e1 e2 sc crc HC GD BO SZ
    rcases hS with rfl | rfl
    · go_wp2_with (go_at_call 15; refine H7.out.mono ?_; rintro e w8 ⟨rfl, hw⟩; obtain rfl := hw.symm)
      go_ret
      exact ⟨rfl, BF.out⟩
    · go_wp2_with (go_at_call 15; refine H7.out.mono ?_; rintro e w8 ⟨rfl, hw⟩; obtain rfl := hw.symm)
      all_goals (go_ret; exact ⟨rfl, BF.out⟩)
  -- DirSync
  have H10 := hide (dirsync_go R9.out (by rw [I9.out.n]; omega) I9.out.down (by rw [I9.out.fuse]; omega))
  go_wp2_with fail
  refine H10.out.mono ?_
  rintro e w11 ⟨rfl, G10, s10, d10⟩
  have S10 := hide (S9.out.trans s10)
  have R10 := hide s10.rep
  obtain ⟨i10, k10⟩ := I9.out.dirsynced d10
  have L10 : Hid (G10.core g = some (anew.data.toList, anew.data.toList, [])) := by rw [k10]; exact L9.out
  have I10 := hide i10
  clear s10 d10 i10 k10 H10 R9
  have BO := hide (Step.old B0.out OW.out S10.out)
  have HC := hide (crash_any R10.out (by rw [I10.out.n]; omega) dirs hdi ko kc us HCM.out.ints HCM.out.len (HCM.out.at BO.out.1) (HCM.out.apart BO.out.2))
  have GD : Hid (Good G10 old anew) := good_3 I10.out.LD I10.out.X L10.out
  have SZ := hide S10.out
  go_wp2_with fail
  refine HC.out.mono ?_
  rintro e wc ⟨rfl, GC, sc, crc⟩
  obtain ⟨S, hS, e1, e2⟩ := good_read GD.out crc
  have h7 := read_any sc.rep ⟨#[109]⟩ (by decide)
  rw [e1, e2] at h7
  have H7 := hide h7
  have BF := hide (Step.old B0.out OW.out (SZ.out.trans sc)).1
  clear h7 e1 e2 sc crc HC GD BO SZ
  rcases hS with rfl | rfl
  · go_wp2_with (go_at_call 15; refine H7.out.mono ?_; rintro e w8 ⟨rfl, hw⟩; obtain rfl := hw.symm)
    go_ret
    exact ⟨rfl, BF.out⟩
  · go_wp2_with (go_at_call 15; refine H7.out.mono ?_; rintro e w8 ⟨rfl, hw⟩; obtain rfl := hw.symm)
    all_goals (go_ret; exact ⟨rfl, BF.out⟩)

theorem swaps_walk (old anew : ByteArray) (fuse dirs : Int) (ko : Option Addr) (kc : Nat) (us : List Int) (w : World) (ho : old.size ≤ 140737488351232) (ha : anew.size ≤ 140737488351232) (hfu : -9223372036854775808 ≤ fuse ∧ fuse ≤ 9223372036854775807) (hdi : -9223372036854775808 ≤ dirs ∧ dirs ≤ 9223372036854775807) (hcm : Came w ko us) :
    Calls Try.prog 4 #[.string old, .string anew, .int .i64 fuse, .int .i64 dirs, .slice ko us.length kc] w fun e w' => e = .returned (.bool true) ∧ RowKit.Below w.heap.size w w' := by
  by_cases h : 500000 < old.size + anew.size
  · exact swaps_big old anew fuse dirs ko kc us w ho ha h
  · exact swaps_all old anew fuse dirs ko kc us w ho ha h hfu hdi hcm
end Go.Proofs.Ytddmnmeijnncmaa
