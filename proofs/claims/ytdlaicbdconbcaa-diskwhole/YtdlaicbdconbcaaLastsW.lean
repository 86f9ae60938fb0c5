/-
  DiskLasts as it runs.
-/
import Derived.Test.YtdlaicbdconbcaaE1
namespace Go.Proofs.Ytdlaicbdconbcaa
open Go.RowKit Go.Maps Go.Sort

/-- A slice of numbers that came in. -/
structure Came (w : World) (ko : Option Addr) (us : List Int) : Prop where
  nums : NumsAt w ko us
  old : us ≠ [] → ∀ kb off, ko = some ⟨kb, off, none⟩ → kb < w.heap.size
  ints : ∀ u ∈ us, -9223372036854775808 ≤ u ∧ u ≤ 9223372036854775807
  len : us.length ≤ 4611686018427387904
/-- It lies beside a disk that was made later. -/
theorem Came.apart {w : World} {ko : Option Addr} {us : List Int} {G : DG} (h : Came w ko us) (ho : ∀ j, G.own j → w.heap.size ≤ j) : us ≠ [] → ∀ kb off, ko = some ⟨kb, off, none⟩ → G.role kb = (0, 0) := fun hne kb off e =>
  Classical.byContradiction fun e1 => by have h1 := ho kb e1; have h2 := h.old hne kb off e; omega
theorem Came.at {w w1 : World} {ko : Option Addr} {us : List Int} (h : Came w ko us) (hb : RowKit.Below w.heap.size w w1) : NumsAt w1 ko us := fun i hi => by
  obtain ⟨b, off, h1, h2, h3⟩ := h.nums i hi
  exact ⟨b, off, h1, Nat.lt_of_lt_of_le h2 hb.size, (hb.cell (p := ⟨b, off + i, none⟩) h2).trans h3⟩
/-- What a call on a new disk leaves of what was there. -/
theorem Step.old {w w1 w2 : World} {b : Nat} {G G2 : DG} (hb : RowKit.Below w.heap.size w w1) (ho : ∀ j, G.own j → w.heap.size ≤ j) (h : Step w1 b G w2 G2) : RowKit.Below w.heap.size w w2 ∧ ∀ j, G2.own j → w.heap.size ≤ j :=
  ⟨hb.trans (h.touch.toBelow hb.size fun j hj e => by have := ho j e; omega), fun j e => by
    rcases h.grow j e with e | e
    · exact ho j e
    · exact Nat.le_trans hb.size e⟩
theorem settle_one (l : List UInt8) (c : Nat) (s : ByteArray) (u : Int) : ∃ m, m ≤ s.size ∧ settleL l [⟨false, c, s, 0⟩] u = l ++ s.data.toList.take m := by
  by_cases hu : u ≤ 0
  · exact ⟨0, Nat.zero_le _, by rw [settleL_none _ _ _ hu]; simp⟩
  · refine ⟨(min u (s.size : Int)).toNat, by omega, ?_⟩
    rw [settleL_step _ _ _ _ hu]
    rfl
/-- A beginning of two texts that has the first. -/
theorem begin_of (a c S : ByteArray) (m : Nat) (h : S.data.toList = a.data.toList ++ c.data.toList.take m) : a.size ≤ S.size ∧ S.size ≤ (a ++ c).size ∧ (a ++ c).extract 0 S.size = S := by
  have hl : S.size = (a.data.toList ++ c.data.toList.take m).length := by rw [← h]; simp
  have ha : a.data.toList.length = a.size := by simp
  have hc : c.data.toList.length = c.size := by simp
  have hac : (a ++ c).size = a.size + c.size := by simp
  rw [List.length_append, List.length_take, ha, hc] at hl
  refine ⟨by omega, by omega, ?_⟩
  apply ByteArray.ext
  apply Array.ext'
  rw [extract_list, show (a ++ c).data.toList = a.data.toList ++ c.data.toList by simp, h, hl, List.take_append, ha]
  rw [List.take_of_length_le (by omega)]
  congr 1
  rw [show a.size + min m c.size - a.size = min m c.size by omega]
  by_cases hm : m ≤ c.size
  · rw [Nat.min_eq_left hm]
  · rw [Nat.min_eq_right (by omega), List.take_of_length_le (by omega), List.take_of_length_le (by omega)]

set_option maxRecDepth 100000 in
set_option maxHeartbeats 4000000 in
theorem lasts_name (k a c : ByteArray) (dirs : Int) (ko : Option Addr) (kc : Nat) (us : List Int) (w : World) (hk : k.size ≤ 140737488351232) (_ha : a.size ≤ 140737488351232) (_hc : c.size ≤ 140737488351232) (_hdi : -9223372036854775808 ≤ dirs ∧ dirs ≤ 9223372036854775807) (_hcm : Came w ko us) (hnm : isName k = false) :
    Calls Try.prog 3 #[.string k, .string a, .string c, .int .i64 dirs, .slice ko us.length kc] w fun e w' => e = .returned (.bool true) ∧ RowKit.Below w.heap.size w w' := by
  have HE := hide (examples_any w)
  go_enter Try.func3, Try.ntmps3
  go_wp2_with fail
  refine HE.out.mono ?_
  rintro e w0 ⟨rfl, be⟩
  have BE := hide be
  have HNew := hide (new_ok 1000000 w0 (by omega) 1000000 (by omega))
  clear be HE
  go_wp2_with fail
  refine HNew.out.mono ?_
  rintro e w1 ⟨b, G0, rfl, r0, fr, ow, b0⟩
  have B0 : Hid (RowKit.Below w.heap.size w w1) := BE.out.trans (b0.mono BE.out.size)
  have OW : Hid (∀ j, G0.own j → w.heap.size ≤ j) := fun j e => Nat.le_trans BE.out.size (ow j e)
  obtain ⟨i0, k0⟩ := fr.is
  have R0 := hide r0
  have I0 := hide i0
  have K0 := hide k0
  clear b0 ow fr HNew BE r0 i0 k0
  have H1 := hide (create_name R0.out k (by unfold maxLen; omega) I0.out.down hnm)
  go_wp2_with fail
  refine H1.out.mono ?_
  rintro e w2 ⟨rfl, b2⟩
  have B2 := hide (B0.out.trans (b2.mono B0.out.size))
  clear b2
  go_wp2
  go_ret
  exact ⟨rfl, B2.out⟩

set_option maxRecDepth 100000 in
set_option maxHeartbeats 4000000 in
theorem lasts_full (k a c : ByteArray) (dirs : Int) (ko : Option Addr) (kc : Nat) (us : List Int) (w : World) (hk : k.size ≤ 140737488351232) (ha : a.size ≤ 140737488351232) (_hc : c.size ≤ 140737488351232) (_hdi : -9223372036854775808 ≤ dirs ∧ dirs ≤ 9223372036854775807) (_hcm : Came w ko us) (hnm : isName k = true) (hbig : 1000000 < a.size) :
    Calls Try.prog 3 #[.string k, .string a, .string c, .int .i64 dirs, .slice ko us.length kc] w fun e w' => e = .returned (.bool true) ∧ RowKit.Below w.heap.size w w' := by
  have HE := hide (examples_any w)
  go_enter Try.func3, Try.ntmps3
  go_wp2_with fail
  refine HE.out.mono ?_
  rintro e w0 ⟨rfl, be⟩
  have BE := hide be
  have HNew := hide (new_ok 1000000 w0 (by omega) 1000000 (by omega))
  clear be HE
  go_wp2_with fail
  refine HNew.out.mono ?_
  rintro e w1 ⟨b, G0, rfl, r0, fr, ow, b0⟩
  have B0 : Hid (RowKit.Below w.heap.size w w1) := BE.out.trans (b0.mono BE.out.size)
  have OW : Hid (∀ j, G0.own j → w.heap.size ≤ j) := fun j e => Nat.le_trans BE.out.size (ow j e)
  obtain ⟨i0, k0⟩ := fr.is
  have R0 := hide r0
  have I0 := hide i0
  have K0 := hide k0
  clear b0 ow fr HNew BE r0 i0 k0
  have H1 := hide (create_go R0.out k (by unfold maxLen; omega) (by rw [I0.out.n]; omega) I0.out.down hnm (by rw [I0.out.D]; rfl) (by rw [I0.out.D]; decide) (by rw [I0.out.fuse]; decide))
  go_wp2_with fail
  refine H1.out.mono ?_
  rintro e w2 ⟨rfl, f, G1, s1, c1⟩
  have S1 := hide s1
  obtain ⟨⟨x1, x1a, x1b, x1c, i1⟩, _, k1⟩ := I0.out.created c1
  replace i1 := i1.tickneg (by omega)
  have i1D : G1.D = D1 k.data.toList f := i1.D
  have k1f : G1.core f = some ([], [], []) := by rw [k1]; simp
  obtain ⟨F1, hF1, e1⟩ := file_some k1f
  have u1 := used_one i1D k1f
  have I1 := hide i1
  have R1 := hide s1.rep
  have g1 : Hid (dget G1.D k.data.toList = some f) := by rw [i1D]; exact dget_one _ _
  have U1 := hide u1
  have HF1 := hide hF1
  have E1 := hide e1
  have ID1 := hide i1D
  clear c1 s1 i1 k1 H1 u1 k1f hF1 e1 i1D x1a x1b x1c
  have H2 := hide (append_full R1.out k (by unfold maxLen; omega) a (by unfold maxLen; omega) (by rw [I1.out.n]; omega) f g1.out I1.out.down (by rw [I1.out.room, U1.out]; show (1000000 : Int) - 0 < _; omega))
  go_wp2_with fail
  refine H2.out.mono ?_
  rintro e w3 ⟨rfl, b3⟩
  have S2 := hide (S1.out.below b3)
  clear b3
  go_wp2
  go_ret
  exact ⟨rfl, (Step.old B0.out OW.out S2.out).1⟩

set_option maxRecDepth 100000 in
set_option maxHeartbeats 4000000 in
theorem lasts_few (k a c : ByteArray) (dirs : Int) (ko : Option Addr) (kc : Nat) (us : List Int) (w : World) (hk : k.size ≤ 140737488351232) (ha : a.size ≤ 140737488351232) (hc : c.size ≤ 140737488351232) (hdi : -9223372036854775808 ≤ dirs ∧ dirs ≤ 9223372036854775807) (hcm : Came w ko us) (hnm : isName k = true) (hbig : a.size ≤ 1000000) (hmore : 1000000 < a.size + c.size) :
    Calls Try.prog 3 #[.string k, .string a, .string c, .int .i64 dirs, .slice ko us.length kc] w fun e w' => e = .returned (.bool true) ∧ RowKit.Below w.heap.size w w' := by
  have HE := hide (examples_any w)
  have HCM := hide hcm
  clear hcm
  go_enter Try.func3, Try.ntmps3
  go_wp2_with fail
  refine HE.out.mono ?_
  rintro e w0 ⟨rfl, be⟩
  have BE := hide be
  have HNew := hide (new_ok 1000000 w0 (by omega) 1000000 (by omega))
  clear be HE
  go_wp2_with fail
  refine HNew.out.mono ?_
  rintro e w1 ⟨b, G0, rfl, r0, fr, ow, b0⟩
  have B0 : Hid (RowKit.Below w.heap.size w w1) := BE.out.trans (b0.mono BE.out.size)
  have OW : Hid (∀ j, G0.own j → w.heap.size ≤ j) := fun j e => Nat.le_trans BE.out.size (ow j e)
  obtain ⟨i0, k0⟩ := fr.is
  have R0 := hide r0
  have I0 := hide i0
  have K0 := hide k0
  clear b0 ow fr HNew BE r0 i0 k0
  have H1 := hide (create_go R0.out k (by unfold maxLen; omega) (by rw [I0.out.n]; omega) I0.out.down hnm (by rw [I0.out.D]; rfl) (by rw [I0.out.D]; decide) (by rw [I0.out.fuse]; decide))
  go_wp2_with fail
  refine H1.out.mono ?_
  rintro e w2 ⟨rfl, f, G1, s1, c1⟩
  have S1 := hide s1
  obtain ⟨⟨x1, x1a, x1b, x1c, i1⟩, _, k1⟩ := I0.out.created c1
  replace i1 := i1.tickneg (by omega)
  have i1D : G1.D = D1 k.data.toList f := i1.D
  have k1f : G1.core f = some ([], [], []) := by rw [k1]; simp
  obtain ⟨F1, hF1, e1⟩ := file_some k1f
  have u1 := used_one i1D k1f
  have I1 := hide i1
  have R1 := hide s1.rep
  have g1 : Hid (dget G1.D k.data.toList = some f) := by rw [i1D]; exact dget_one _ _
  have U1 := hide u1
  have HF1 := hide hF1
  have E1 := hide e1
  have ID1 := hide i1D
  clear c1 s1 i1 k1 H1 u1 k1f hF1 e1 i1D x1a x1b x1c
  have H2 := hide (append_go R1.out k (by unfold maxLen; omega) a (by unfold maxLen; omega) (by rw [I1.out.n]; omega) f g1.out F1 HF1.out I1.out.down (by rw [I1.out.room, U1.out]; show ¬ (1000000 : Int) - 0 < _; omega) (by rw [I1.out.fuse]; decide) (by rw [I1.out.q]; omega))
  go_wp2_with fail
  refine H2.out.mono ?_
  rintro e w3 ⟨rfl, G2, F2, c2, s2, a2⟩
  have S2 := hide (S1.out.trans s2)
  obtain ⟨i2, k2⟩ := I1.out.acted a2
  replace i2 := i2.tickneg (by omega)
  have hta : a.data.toList.take a.size = a.data.toList := List.take_of_length_le (by simp)
  have k2f : G2.core f = some (a.data.toList, [], [⟨false, c2, a, 0⟩]) := by
    rw [k2]
    have e2 : F1.now = [] := congrArg Prod.fst E1.out
    have e3 : F1.last = [] := congrArg (fun t => t.2.1) E1.out
    have e4 : F1.acts = [] := congrArg (fun t => t.2.2) E1.out
    simp only [if_true, e2, e3, e4, FA.run, FA.units, List.nil_append, hta]
  obtain ⟨F2', hF2, e2⟩ := file_some k2f
  have I2 := hide i2
  have H3 := hide (sync_go s2.rep (by rw [i2.n]; omega) k (by unfold maxLen; omega) i2.down f (by rw [i2.D]; exact dget_one _ _) F2' hF2 (by rw [i2.fuse]; decide))
  have E2 : Hid (F2'.now = a.data.toList) := congrArg Prod.fst e2
  clear s2 a2 i2 k2 k2f H2 hta hF2 e2
  go_wp2_with fail
  refine H3.out.mono ?_
  rintro e w4 ⟨rfl, G3, F3, s3, y3⟩
  have S3 := hide (S2.out.trans s3)
  obtain ⟨i3, k3⟩ := I2.out.synced y3
  replace i3 := i3.tickneg (by omega)
  have K3 : Hid (G3.core f = some (a.data.toList, a.data.toList, [])) := by
    rw [k3]
    simp only [if_true, E2.out]
    exact trivial
  have I3 := hide i3
  have H4 := hide (dirsync_go s3.rep (by rw [i3.n]; omega) i3.down (by rw [i3.fuse]; decide))
  clear s3 y3 i3 k3 H3
  go_wp2_with fail
  refine H4.out.mono ?_
  rintro e w5 ⟨rfl, G4, s4, d4⟩
  have S4 := hide (S3.out.trans s4)
  obtain ⟨i4, k4⟩ := I3.out.dirsynced d4
  replace i4 := i4.tickneg (by omega)
  have i4' : Is G4 1000000 (-1) false (D1 k.data.toList f) (D1 k.data.toList f) [] 2 1000000 := i4
  have K4 : Hid (G4.core f = some (a.data.toList, a.data.toList, [])) := by rw [k4]; exact K3.out
  obtain ⟨F4, hF4, e4⟩ := file_some K4.out
  have u4 := used_one i4'.D K4.out
  have hla : a.data.toList.length = a.size := by simp
  rw [hla] at u4
  have g4 : Hid (dget G4.D k.data.toList = some f) := by rw [i4'.D]; exact dget_one _ _
  have I4 := hide i4'
  have R4 := hide s4.rep
  have U4 := hide u4
  have HF4 := hide hF4
  have E4 := hide e4
  clear s4 d4 i4 i4' k4 H4 u4 hF4 e4 hla
  have H5 := hide (append_full R4.out k (by unfold maxLen; omega) c (by unfold maxLen; omega) (by rw [I4.out.n]; omega) f g4.out I4.out.down (by rw [I4.out.room, U4.out]; omega))
  go_wp2_with fail
  refine H5.out.mono ?_
  rintro e w6 ⟨rfl, b6⟩
  have S5 := hide (S4.out.below b6)
  have R5 := hide (R4.out.below b6)
  have I5 := I4
  have K5 := K4
  clear b6 H5
  have BO := hide (Step.old B0.out OW.out S5.out)
  have H6 := hide (crash_any R5.out (by rw [I5.out.n]; omega) dirs hdi ko kc us HCM.out.ints HCM.out.len (HCM.out.at BO.out.1) (HCM.out.apart BO.out.2))
  go_wp2_with fail
  refine H6.out.mono ?_
  rintro e w7 ⟨rfl, G6, s6, cr6⟩
  have S6 := hide (S5.out.trans s6)
  obtain ⟨i6, k6⟩ := I5.out.crashed cr6
  have i6' : Is G6 1000000 (-1) false (D1 k.data.toList f) (D1 k.data.toList f) [] 2 1000000 := by have h := i6; rw [List.take_nil] at h; exact h
  obtain ⟨S, now, lst, act, hc6, hS, hfin⟩ : ∃ (S : ByteArray) (now lst : List UInt8) (act : List FA), G6.core f = some (now, lst, act) ∧ (⟨now.toArray⟩ : ByteArray) = S ∧ S = a := by
    rw [k6]
    rcases crashN_cases _ G4.core _ us f _ _ _ K5.out with h | ⟨u, h⟩
    · exact ⟨_, _, _, _, h, rfl, by simp⟩
    · exact ⟨_, _, _, _, h, rfl, by simp [settleL]⟩
  obtain ⟨e6a, e6b⟩ := read_of (k := k) i6'.down (by rw [i6'.D]; exact dget_one _ _) hc6
  rw [hS] at e6a
  have h7 := read_any s6.rep k (by unfold maxLen; omega)
  rw [e6a, e6b] at h7
  have H7 := hide h7
  clear s6 cr6 i6 i6' k6 H6 h7 e6a e6b hc6 hS
  subst hfin
  have hb := begin_of S c S 0 (by simp)
  obtain ⟨q1, q2, q3⟩ := hb
  have q4 : (S ++ c).size = S.size + c.size := by simp
  have hadd : S.size + c.size ≤ 9223372036854775807 := by omega
  go_wp2_with (go_at_call 15; refine H7.out.mono ?_; rintro e w8 ⟨rfl, hw⟩; obtain rfl := hw.symm)
  go_ret
  exact ⟨rfl, (Step.old B0.out OW.out S6.out).1⟩

set_option maxRecDepth 100000 in
set_option maxHeartbeats 4000000 in
theorem lasts_all (k a c : ByteArray) (dirs : Int) (ko : Option Addr) (kc : Nat) (us : List Int) (w : World) (hk : k.size ≤ 140737488351232) (ha : a.size ≤ 140737488351232) (hc : c.size ≤ 140737488351232) (hdi : -9223372036854775808 ≤ dirs ∧ dirs ≤ 9223372036854775807) (hcm : Came w ko us) (hnm : isName k = true) (hmore : ¬ 1000000 < a.size + c.size) :
    Calls Try.prog 3 #[.string k, .string a, .string c, .int .i64 dirs, .slice ko us.length kc] w fun e w' => e = .returned (.bool true) ∧ RowKit.Below w.heap.size w w' := by
  have HE := hide (examples_any w)
  have HCM := hide hcm
  clear hcm
  go_enter Try.func3, Try.ntmps3
  go_wp2_with fail
  refine HE.out.mono ?_
  rintro e w0 ⟨rfl, be⟩
  have BE := hide be
  have HNew := hide (new_ok 1000000 w0 (by omega) 1000000 (by omega))
  clear be HE
  go_wp2_with fail
  refine HNew.out.mono ?_
  rintro e w1 ⟨b, G0, rfl, r0, fr, ow, b0⟩
  have B0 : Hid (RowKit.Below w.heap.size w w1) := BE.out.trans (b0.mono BE.out.size)
  have OW : Hid (∀ j, G0.own j → w.heap.size ≤ j) := fun j e => Nat.le_trans BE.out.size (ow j e)
  obtain ⟨i0, k0⟩ := fr.is
  have R0 := hide r0
  have I0 := hide i0
  have K0 := hide k0
  clear b0 ow fr HNew BE r0 i0 k0
  have H1 := hide (create_go R0.out k (by unfold maxLen; omega) (by rw [I0.out.n]; omega) I0.out.down hnm (by rw [I0.out.D]; rfl) (by rw [I0.out.D]; decide) (by rw [I0.out.fuse]; decide))
  go_wp2_with fail
  refine H1.out.mono ?_
  rintro e w2 ⟨rfl, f, G1, s1, c1⟩
  have S1 := hide s1
  obtain ⟨⟨x1, x1a, x1b, x1c, i1⟩, _, k1⟩ := I0.out.created c1
  replace i1 := i1.tickneg (by omega)
  have i1D : G1.D = D1 k.data.toList f := i1.D
  have k1f : G1.core f = some ([], [], []) := by rw [k1]; simp
  obtain ⟨F1, hF1, e1⟩ := file_some k1f
  have u1 := used_one i1D k1f
  have I1 := hide i1
  have R1 := hide s1.rep
  have g1 : Hid (dget G1.D k.data.toList = some f) := by rw [i1D]; exact dget_one _ _
  have U1 := hide u1
  have HF1 := hide hF1
  have E1 := hide e1
  have ID1 := hide i1D
  clear c1 s1 i1 k1 H1 u1 k1f hF1 e1 i1D x1a x1b x1c
  have hbig : a.size ≤ 1000000 := by omega
  have H2 := hide (append_go R1.out k (by unfold maxLen; omega) a (by unfold maxLen; omega) (by rw [I1.out.n]; omega) f g1.out F1 HF1.out I1.out.down (by rw [I1.out.room, U1.out]; show ¬ (1000000 : Int) - 0 < _; omega) (by rw [I1.out.fuse]; decide) (by rw [I1.out.q]; omega))
  go_wp2_with fail
  refine H2.out.mono ?_
  rintro e w3 ⟨rfl, G2, F2, c2, s2, a2⟩
  have S2 := hide (S1.out.trans s2)
  obtain ⟨i2, k2⟩ := I1.out.acted a2
  replace i2 := i2.tickneg (by omega)
  have hta : a.data.toList.take a.size = a.data.toList := List.take_of_length_le (by simp)
  have k2f : G2.core f = some (a.data.toList, [], [⟨false, c2, a, 0⟩]) := by
    rw [k2]
    have e2 : F1.now = [] := congrArg Prod.fst E1.out
    have e3 : F1.last = [] := congrArg (fun t => t.2.1) E1.out
    have e4 : F1.acts = [] := congrArg (fun t => t.2.2) E1.out
    simp only [if_true, e2, e3, e4, FA.run, FA.units, List.nil_append, hta]
  obtain ⟨F2', hF2, e2⟩ := file_some k2f
  have I2 := hide i2
  have H3 := hide (sync_go s2.rep (by rw [i2.n]; omega) k (by unfold maxLen; omega) i2.down f (by rw [i2.D]; exact dget_one _ _) F2' hF2 (by rw [i2.fuse]; decide))
  have E2 : Hid (F2'.now = a.data.toList) := congrArg Prod.fst e2
  clear s2 a2 i2 k2 k2f H2 hta hF2 e2
  go_wp2_with fail
  refine H3.out.mono ?_
  rintro e w4 ⟨rfl, G3, F3, s3, y3⟩
  have S3 := hide (S2.out.trans s3)
  obtain ⟨i3, k3⟩ := I2.out.synced y3
  replace i3 := i3.tickneg (by omega)
  have K3 : Hid (G3.core f = some (a.data.toList, a.data.toList, [])) := by
    rw [k3]
    simp only [if_true, E2.out]
    exact trivial
  have I3 := hide i3
  have H4 := hide (dirsync_go s3.rep (by rw [i3.n]; omega) i3.down (by rw [i3.fuse]; decide))
  clear s3 y3 i3 k3 H3
  go_wp2_with fail
  refine H4.out.mono ?_
  rintro e w5 ⟨rfl, G4, s4, d4⟩
  have S4 := hide (S3.out.trans s4)
  obtain ⟨i4, k4⟩ := I3.out.dirsynced d4
  replace i4 := i4.tickneg (by omega)
  have i4' : Is G4 1000000 (-1) false (D1 k.data.toList f) (D1 k.data.toList f) [] 2 1000000 := i4
  have K4 : Hid (G4.core f = some (a.data.toList, a.data.toList, [])) := by rw [k4]; exact K3.out
  obtain ⟨F4, hF4, e4⟩ := file_some K4.out
  have u4 := used_one i4'.D K4.out
  have hla : a.data.toList.length = a.size := by simp
  rw [hla] at u4
  have g4 : Hid (dget G4.D k.data.toList = some f) := by rw [i4'.D]; exact dget_one _ _
  have I4 := hide i4'
  have R4 := hide s4.rep
  have U4 := hide u4
  have HF4 := hide hF4
  have E4 := hide e4
  clear s4 d4 i4 i4' k4 H4 u4 hF4 e4 hla
  have H5 := hide (append_go R4.out k (by unfold maxLen; omega) c (by unfold maxLen; omega) (by rw [I4.out.n]; omega) f g4.out F4 HF4.out I4.out.down (by rw [I4.out.room, U4.out]; omega) (by rw [I4.out.fuse]; decide) (by rw [I4.out.q]; omega))
  go_wp2_with fail
  refine H5.out.mono ?_
  rintro e w6 ⟨rfl, G5, F5, c5, s5, a5⟩
  have S5 := hide (S4.out.trans s5)
  have R5 := hide s5.rep
  obtain ⟨i5, k5⟩ := I4.out.acted a5
  replace i5 := i5.tickneg (by omega)
  have I5 := hide i5
  have htc : c.data.toList.take c.size = c.data.toList := List.take_of_length_le (by simp)
  have K5 : Hid (G5.core f = some (a.data.toList ++ c.data.toList, a.data.toList, [⟨false, c5, c, 0⟩])) := by
    rw [k5]
    have e2 : F4.now = a.data.toList := congrArg Prod.fst E4.out
    have e3 : F4.last = a.data.toList := congrArg (fun t => t.2.1) E4.out
    have e5 : F4.acts = [] := congrArg (fun t => t.2.2) E4.out
    simp only [if_true, e2, e3, e5, FA.run, FA.units, List.nil_append, htc]
    exact trivial
  clear s5 a5 i5 k5 H5 htc
  have BO := hide (Step.old B0.out OW.out S5.out)
  have H6 := hide (crash_any R5.out (by rw [I5.out.n]; omega) dirs hdi ko kc us HCM.out.ints HCM.out.len (HCM.out.at BO.out.1) (HCM.out.apart BO.out.2))
  go_wp2_with fail
  refine H6.out.mono ?_
  rintro e w7 ⟨rfl, G6, s6, cr6⟩
  have S6 := hide (S5.out.trans s6)
  obtain ⟨i6, k6⟩ := I5.out.crashed cr6
  have i6' : Is G6 1000000 (-1) false (D1 k.data.toList f) (D1 k.data.toList f) [] 3 1000000 := by have h := i6; rw [List.take_nil] at h; exact h
  obtain ⟨S, now, lst, act, hc6, hS, hfin⟩ : ∃ (S : ByteArray) (now lst : List UInt8) (act : List FA), G6.core f = some (now, lst, act) ∧ (⟨now.toArray⟩ : ByteArray) = S ∧ ∃ m, S.data.toList = a.data.toList ++ c.data.toList.take m := by
    rw [k6]
    rcases crashN_cases _ G5.core _ us f _ _ _ K5.out with h | ⟨u, h⟩
    · exact ⟨_, _, _, _, h, rfl, ⟨c.size, by rw [List.take_of_length_le (by simp)]⟩⟩
    · obtain ⟨m, _, hm⟩ := settle_one a.data.toList c5 c u
      exact ⟨_, _, _, _, h, rfl, m, hm⟩
  obtain ⟨e6a, e6b⟩ := read_of (k := k) i6'.down (by rw [i6'.D]; exact dget_one _ _) hc6
  rw [hS] at e6a
  have h7 := read_any s6.rep k (by unfold maxLen; omega)
  rw [e6a, e6b] at h7
  have H7 := hide h7
  clear s6 cr6 i6 i6' k6 H6 h7 e6a e6b hc6 hS
  obtain ⟨m, hm⟩ := hfin
  obtain ⟨q1, q2, q3⟩ := begin_of a c S m hm
  have q4 : (a ++ c).size = a.size + c.size := by simp
  have hadd : a.size + c.size ≤ 9223372036854775807 := by omega
  clear hm
  go_wp2_with (go_at_call 15; refine H7.out.mono ?_; rintro e w8 ⟨rfl, hw⟩; obtain rfl := hw.symm)
  go_ret
  exact ⟨rfl, (Step.old B0.out OW.out S6.out).1⟩

theorem lasts_walk (k a c : ByteArray) (dirs : Int) (ko : Option Addr) (kc : Nat) (us : List Int) (w : World) (hk : k.size ≤ 140737488351232) (ha : a.size ≤ 140737488351232) (hc : c.size ≤ 140737488351232) (hdi : -9223372036854775808 ≤ dirs ∧ dirs ≤ 9223372036854775807) (hcm : Came w ko us) :
    Calls Try.prog 3 #[.string k, .string a, .string c, .int .i64 dirs, .slice ko us.length kc] w fun e w' => e = .returned (.bool true) ∧ RowKit.Below w.heap.size w w' := by
  cases hnm : isName k with
  | false => exact lasts_name k a c dirs ko kc us w hk ha hc hdi hcm hnm
  | true =>
    by_cases h1 : 1000000 < a.size
    · exact lasts_full k a c dirs ko kc us w hk ha hc hdi hcm hnm h1
    · by_cases h2 : 1000000 < a.size + c.size
      · exact lasts_few k a c dirs ko kc us w hk ha hc hdi hcm hnm (by omega) h2
      · exact lasts_all k a c dirs ko kc us w hk ha hc hdi hcm hnm h2

end Go.Proofs.Ytdlaicbdconbcaa
