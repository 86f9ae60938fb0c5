/-
  SegmentFinds, as it runs (texts of at most 1048576 bytes).
-/
import Derived.Test.YtgnehnlmbodijaaDoorZGL
import Derived.Laws.StructEq
namespace Go.Proofs.YtgnehnlmbodijaaDoor
open Go.RowKit

theorem EntsAt.two {w : World} {ao : Option Addr} {n cap : Nat} {l : List (Int × Int)} (h : EntsAt w (.slice ao n cap) l) (i : Nat) (hi : i < l.length) : ∃ b off, ao = some ⟨b, off, none⟩ ∧ w.cell? ⟨b, off + i * 2, none⟩ = some (.int .i64 l[i].1) ∧ w.cell? ⟨b, off + i * 2 + 1, none⟩ = some (.int .i64 l[i].2) := by
  obtain ⟨a, c, hv, _, ha⟩ := h
  injection hv with h1 h2 h3
  subst h1
  obtain ⟨b, off, e, _, h4, h5⟩ := ha i hi
  exact ⟨b, off, e, h4, h5⟩
theorem goF_many (f kept : Nat) (least low most : Int) (pos : Nat) (s : List UInt8) : 8 * (goF f kept least low most pos s).1.length ≤ s.length := by
  induction f generalizing kept least pos s with
  | zero => simp [goF]
  | succ f ih =>
    simp only [goF]
    split
    · simp
    · split
      · rename_i hz
        have h8 := headR_size hz
        split
        · have := ih (kept + 1) ((headR least s).1.off + 1) (pos + (headR least s).2.1) (s.drop (headR least s).2.1)
          rw [List.length_drop] at this
          simp only [List.length_cons]
          omega
        · have := ih kept ((headR least s).1.off + 1) (pos + (headR least s).2.1) (s.drop (headR least s).2.1)
          rw [List.length_drop] at this
          omega
      · simp
theorem scan_many (base : Int) (s : ByteArray) : 8 * (scanF base s.data.toList).1.length ≤ s.size := by
  have := goF_many (s.data.toList.length + 1) 0 base 0 s.data.toList.length 0 s.data.toList
  rw [size_list] at this
  exact this
theorem want_map (L : List (Rec × Nat)) (off most : Int) : (wantF L off most).map (·.1) = (wantR (L.map (·.1)) off).take most.toNat := by
  unfold wantF wantR
  rw [List.map_take, List.filter_map]
  rfl
theorem wantR_le2 (l : List Rec) (off most : Int) : ((wantR l off).take most.toNat).length ≤ l.length := by
  have := wantR_le l off l.length
  rw [List.take_length] at this
  rw [List.length_take]
  omega
set_option maxHeartbeats 4000000 in
set_option maxRecDepth 20000 in
theorem finds_good (base every off most : Int) (s : ByteArray) (w : World) (hT : Tab w) (I : List (Int × Int)) (WL : List Rec) (hI : I.length ≤ 131072) (hWL : WL.length ≤ 131072)
    (HX : Hid (∀ W, Tab W → Calls Tryd.prog 17 #[.int .i64 base, .string s, .int .i64 every] W fun e' w' => ∃ v, e' = .returned (.tuple #[v, .int .i64 0]) ∧ EntsAt w' v I ∧ Below W.heap.size W w'))
    (HY : Hid (∀ W, Calls Tryd.prog 18 #[.int .i64 base, .string s, .int .i64 every] W fun e' w' => ∃ v, e' = .returned (.tuple #[v, .bool true]) ∧ EntsAt w' v I ∧ Below W.heap.size W w'))
    (HF : Hid (∀ W v, Tab W → EntsAt W v I → Calls Tryd.prog 21 #[.int .i64 base, .string s, v, .int .i64 off, .int .i64 most] W fun e' w' => ∃ v', e' = .returned v' ∧ RecsAt w' v' WL ∧ Below W.heap.size W w'))
    (HG : Hid (∀ W, Calls Tryd.prog 22 #[.int .i64 base, .string s, .int .i64 off, .int .i64 most] W fun e' w' => ∃ v', e' = .returned v' ∧ RecsAt w' v' WL ∧ Below W.heap.size W w')) :
    Calls Tryd.prog 5 #[.int .i64 base, .string s, .int .i64 every, .int .i64 off, .int .i64 most] w fun e w' => e = .returned (.bool true) ∧ Below w.heap.size w w' := by
  have HE := hide (examples_any w hT)
  have HT := hide hT
  clear hT
  go_enter Tryd.func5, Tryd.ntmps5
  go_wp2_with fail
  refine HE.out.mono ?_
  rintro e w1 ⟨rfl, b1⟩
  have B1 := hide b1
  clear b1 HE
  go_wp2_with fail
  refine (HX.out _ (HT.out.below B1.out)).mono ?_
  rintro e w2 ⟨v2, rfl, e2, b2⟩
  have B2 := hide (B1.out.trans (b2.mono B1.out.size))
  have E2 := hide e2
  obtain ⟨xo, xc, rfl⟩ := ents_shape e2
  clear e2 b2 B1 HX
  go_wp2_with fail
  refine (HY.out _).mono ?_
  rintro e w3 ⟨v3, rfl, e3, b3⟩
  have B3 := hide (B2.out.trans (b3.mono B2.out.size))
  have E3 := hide (E2.out.below b3)
  have F3 := hide e3
  obtain ⟨yo, yc, rfl⟩ := ents_shape e3
  clear e3 b3 B2 E2 HY
  go_wp2
  go_loopw [16] (fun iv wv => ∃ k n : Nat, k ≤ I.length ∧ iv = .int .i64 k ∧ wv = w3.drewN n) (fun iv _ => I.length - (intOf iv).toNat)
  case atStart => exact ⟨0, 0, Nat.zero_le _, rfl, rfl⟩
  case round =>
    obtain ⟨k, n, hk, rfl, rfl⟩ := hrel
    by_cases hlt : k < I.length
    · obtain ⟨b, off2, rfl, a0, a1⟩ := E3.out.two k hlt
      obtain ⟨b', off3, rfl, c0, c1⟩ := F3.out.two k hlt
      have hi0 : (0 : Int) ≤ (k : Int) := by omega
      have hi1 : (k : Int) < (I.length : Int) := by omega
      generalize I[k] = x at *
      obtain ⟨p, q⟩ := x
      simp only at a0 a1 c0 c1
      go_wp2
      go_quiet (fail)
      go_wp2
      exact ⟨⟨k + 1, n + nq, by omega, by go_num, rfl⟩, by simp [intOf]; omega⟩
    · have hi1 : ¬ (k : Int) < (I.length : Int) := by omega
      have hbn : Below w3.heap.size w3 (w3.drewN n) := below_drewN (Below.refl _ w3) n
      have B4 := hide (B3.out.trans (hbn.mono B3.out.size))
      have E4 := hide (E3.out.below hbn)
      have F4 := hide (F3.out.below hbn)
      generalize w3.drewN n = w4 at *
      clear hbn B3 E3 F3
      have HP := hide (find_any _ I off w4 E4.out)
      have HQ := hide (rfind_any _ I off w4 F4.out)
      generalize findF I off = fp at HP HQ
      go_wp2_with fail
      refine HP.out.mono ?_
      rintro e w5 ⟨rfl, h5⟩
      obtain rfl := h5.symm
      clear h5 HP
      go_wp2_with fail
      refine HQ.out.mono ?_
      rintro e w5 ⟨rfl, h5⟩
      obtain rfl := h5.symm
      have B5 := B4
      have E5 := E4
      clear h5 HQ B4 E4 F4
      go_wp2_with fail
      refine (HF.out _ _ (HT.out.below B5.out) E5.out).mono ?_
      rintro e w6 ⟨v6, rfl, r6, b6⟩
      have B6 := hide (B5.out.trans (b6.mono B5.out.size))
      have R6 := hide r6
      obtain ⟨zo, zc, rfl⟩ := recs_shape r6
      clear r6 b6 B5 E5 HF
      go_wp2_with fail
      refine (HG.out _).mono ?_
      rintro e w7 ⟨v7, rfl, r7, b7⟩
      have B7 := hide (B6.out.trans (b7.mono B6.out.size))
      have HRS := hide (records_same WL _ _ w7 (by omega) (R6.out.below b7) r7)
      obtain ⟨zo2, zc2, rfl⟩ := recs_shape r7
      clear r7 b7 B6 R6 HG
      go_wp2_with fail
      refine HRS.out.mono ?_
      rintro e w8 ⟨rfl, nq, rfl⟩
      go_wp2
      go_ret
      exact ⟨rfl, below_drewN B7.out nq⟩
set_option maxHeartbeats 4000000 in
set_option maxRecDepth 20000 in
theorem finds_bad (base every off most : Int) (s : ByteArray) (w : World) (hT : Tab w) (I : List (Int × Int)) (WL : List Rec) (hI : I.length ≤ 131072) (hWL : WL.length ≤ 131072)
    (HX : Hid (∀ W, Tab W → Calls Tryd.prog 17 #[.int .i64 base, .string s, .int .i64 every] W fun e' w' => ∃ v, e' = .returned (.tuple #[v, .int .i64 1]) ∧ EntsAt w' v I ∧ Below W.heap.size W w'))
    (HY : Hid (∀ W, Calls Tryd.prog 18 #[.int .i64 base, .string s, .int .i64 every] W fun e' w' => ∃ v, e' = .returned (.tuple #[v, .bool false]) ∧ EntsAt w' v I ∧ Below W.heap.size W w'))
    (HF : Hid (∀ W v, Tab W → EntsAt W v I → Calls Tryd.prog 21 #[.int .i64 base, .string s, v, .int .i64 off, .int .i64 most] W fun e' w' => ∃ v', e' = .returned v' ∧ RecsAt w' v' WL ∧ Below W.heap.size W w'))
    (HG : Hid (∀ W, Calls Tryd.prog 22 #[.int .i64 base, .string s, .int .i64 off, .int .i64 most] W fun e' w' => ∃ v', e' = .returned v' ∧ RecsAt w' v' WL ∧ Below W.heap.size W w')) :
    Calls Tryd.prog 5 #[.int .i64 base, .string s, .int .i64 every, .int .i64 off, .int .i64 most] w fun e w' => e = .returned (.bool true) ∧ Below w.heap.size w w' := by
  have HE := hide (examples_any w hT)
  have HT := hide hT
  clear hT
  go_enter Tryd.func5, Tryd.ntmps5
  go_wp2_with fail
  refine HE.out.mono ?_
  rintro e w1 ⟨rfl, b1⟩
  have B1 := hide b1
  clear b1 HE
  go_wp2_with fail
  refine (HX.out _ (HT.out.below B1.out)).mono ?_
  rintro e w2 ⟨v2, rfl, e2, b2⟩
  have B2 := hide (B1.out.trans (b2.mono B1.out.size))
  have E2 := hide e2
  obtain ⟨xo, xc, rfl⟩ := ents_shape e2
  clear e2 b2 B1 HX
  go_wp2_with fail
  refine (HY.out _).mono ?_
  rintro e w3 ⟨v3, rfl, e3, b3⟩
  have B3 := hide (B2.out.trans (b3.mono B2.out.size))
  have E3 := hide (E2.out.below b3)
  have F3 := hide e3
  obtain ⟨yo, yc, rfl⟩ := ents_shape e3
  clear e3 b3 B2 E2 HY
  go_wp2
  go_loopw [16] (fun iv wv => ∃ k n : Nat, k ≤ I.length ∧ iv = .int .i64 k ∧ wv = w3.drewN n) (fun iv _ => I.length - (intOf iv).toNat)
  case atStart => exact ⟨0, 0, Nat.zero_le _, rfl, rfl⟩
  case round =>
    obtain ⟨k, n, hk, rfl, rfl⟩ := hrel
    by_cases hlt : k < I.length
    · obtain ⟨b, off2, rfl, a0, a1⟩ := E3.out.two k hlt
      obtain ⟨b', off3, rfl, c0, c1⟩ := F3.out.two k hlt
      have hi0 : (0 : Int) ≤ (k : Int) := by omega
      have hi1 : (k : Int) < (I.length : Int) := by omega
      generalize I[k] = x at *
      obtain ⟨p, q⟩ := x
      simp only at a0 a1 c0 c1
      go_wp2
      go_quiet (fail)
      go_wp2
      exact ⟨⟨k + 1, n + nq, by omega, by go_num, rfl⟩, by simp [intOf]; omega⟩
    · have hi1 : ¬ (k : Int) < (I.length : Int) := by omega
      have hbn : Below w3.heap.size w3 (w3.drewN n) := below_drewN (Below.refl _ w3) n
      have B4 := hide (B3.out.trans (hbn.mono B3.out.size))
      have E4 := hide (E3.out.below hbn)
      have F4 := hide (F3.out.below hbn)
      generalize w3.drewN n = w4 at *
      clear hbn B3 E3 F3
      have HP := hide (find_any _ I off w4 E4.out)
      have HQ := hide (rfind_any _ I off w4 F4.out)
      generalize findF I off = fp at HP HQ
      go_wp2_with fail
      refine HP.out.mono ?_
      rintro e w5 ⟨rfl, h5⟩
      obtain rfl := h5.symm
      clear h5 HP
      go_wp2_with fail
      refine HQ.out.mono ?_
      rintro e w5 ⟨rfl, h5⟩
      obtain rfl := h5.symm
      have B5 := B4
      have E5 := E4
      clear h5 HQ B4 E4 F4
      go_wp2_with fail
      refine (HF.out _ _ (HT.out.below B5.out) E5.out).mono ?_
      rintro e w6 ⟨v6, rfl, r6, b6⟩
      have B6 := hide (B5.out.trans (b6.mono B5.out.size))
      have R6 := hide r6
      obtain ⟨zo, zc, rfl⟩ := recs_shape r6
      clear r6 b6 B5 E5 HF
      go_wp2_with fail
      refine (HG.out _).mono ?_
      rintro e w7 ⟨v7, rfl, r7, b7⟩
      have B7 := hide (B6.out.trans (b7.mono B6.out.size))
      have HRS := hide (records_same WL _ _ w7 (by omega) (R6.out.below b7) r7)
      obtain ⟨zo2, zc2, rfl⟩ := recs_shape r7
      clear r7 b7 B6 R6 HG
      go_wp2_with fail
      refine HRS.out.mono ?_
      rintro e w8 ⟨rfl, nq, rfl⟩
      go_wp2
      go_ret
      exact ⟨rfl, below_drewN B7.out nq⟩
theorem finds_walk (base every off most : Int) (s : ByteArray) (w : World) (hT : Tab w) (hs : s.size ≤ 1048576) (he : every ≤ 9223372036854775807) :
    Calls Tryd.prog 5 #[.int .i64 base, .string s, .int .i64 every, .int .i64 off, .int .i64 most] w fun e w' => e = .returned (.bool true) ∧ Below w.heap.size w w' := by
  have hm := scan_many base s
  obtain ⟨L, hL⟩ : ∃ L, (scanF base s.data.toList).1 = L := ⟨_, rfl⟩
  have hol : L.length ≤ 131072 := by rw [← hL]; omega
  have hG : ∀ W, Calls Tryd.prog 22 #[.int .i64 base, .string s, .int .i64 off, .int .i64 most] W fun e' w' => ∃ v', e' = .returned v' ∧ RecsAt w' v' ((wantR (L.map (·.1)) off).take most.toNat) ∧ Below W.heap.size W w' := fun W => rfrom_any base s off most W hs (L.map (·.1)) (by rw [hL]) (by rw [List.length_map]; exact hol)
  have hwl : ((wantR (L.map (·.1)) off).take most.toNat).length ≤ 131072 := by have := wantR_le2 (L.map (·.1)) off most; rw [List.length_map] at this; omega
  have hwF : (wantF L off most).length ≤ 131072 := by
    have := congrArg List.length (want_map L off most)
    rw [List.length_map] at this
    omega
  have hF : ∀ I : List (Int × Int), (fromF base off most (withinF (findF I off) s.size) s.data.toList).1 = wantF L off most → ∀ W v, Tab W → EntsAt W v I → Calls Tryd.prog 21 #[.int .i64 base, .string s, v, .int .i64 off, .int .i64 most] W fun e' w' => ∃ v', e' = .returned v' ∧ RecsAt w' v' ((wantR (L.map (·.1)) off).take most.toNat) ∧ Below W.heap.size W w' := by
    intro I hI W v hTW hv
    refine (from_any base s v I off most W hTW (by omega) hv (by rw [hI]; omega)).mono ?_
    rw [hI]
    rintro e' w' ⟨v', rfl, ho, hb⟩
    refine ⟨v', rfl, ?_, hb⟩
    have := recs_of_own ho
    rw [want_map] at this
    exact this
  by_cases h1 : every < 1
  · refine finds_bad base every off most s w hT [] _ (by simp) hwl (fun W _ => ?_) (fun W => ?_) (hF [] ?_) hG
    · refine (index_bad base s every W h1).mono ?_
      rintro e w' ⟨rfl, rfl⟩
      exact ⟨_, rfl, ents_nil _, Below.refl _ _⟩
    · refine (rindex_bad base s every W h1).mono ?_
      rintro e w' ⟨rfl, rfl⟩
      exact ⟨_, rfl, ents_nil _, Below.refl _ _⟩
    · have e0 : withinF (findF [] off) s.size = 0 := by
        have : findF [] off = 0 := rfl
        rw [this]
        unfold withinF
        omega
      rw [e0, from_none, hL]
  · obtain ⟨e, rfl⟩ : ∃ e : Nat, every = e := ⟨every.toNat, by omega⟩
    have hil : (idxF e L).length ≤ 131072 := by unfold idxF; rw [List.length_map]; have := pk_le e L.length; omega
    refine finds_good base e off most s w hT (idxF e L) _ hil hwl (fun W hTW => ?_) (fun W => ?_) (hF _ ?_) hG
    · refine (index_any base s e W hTW (by omega) (by omega) (by omega) (by omega)).mono ?_
      rw [hL]
      rintro e' w' ⟨v, rfl, ho, hb⟩
      exact ⟨v, rfl, ents_of_own ho (by omega), hb⟩
    · refine (rindex_any base s e W hs (by omega) (by omega) L hL hol).mono ?_
      rintro e' w' ⟨v, rfl, ho, hb⟩
      exact ⟨v, rfl, ents_of_own ho (by omega), hb⟩
    · have h := from_index base off most s.data.toList e
      rw [hL, size_list] at h
      exact h
end Go.Proofs.YtgnehnlmbodijaaDoor
