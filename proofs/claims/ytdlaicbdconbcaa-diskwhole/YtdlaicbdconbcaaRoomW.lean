/-
  DiskRoom as it runs.
-/
import Derived.Test.YtdlaicbdconbcaaDeeds
namespace Go.Proofs.Ytdlaicbdconbcaa
open Go.RowKit Go.Maps Go.Sort

theorem inj_empty : Inj (.map []) := fun k k' f h => by rw [dget_empty] at h; cases h

set_option maxRecDepth 100000 in
set_option maxHeartbeats 8000000 in
theorem room_walk (room : Int) (ao : Option Addr) (cp : Nat) (l : List Dd) (w : World) (hro : -9223372036854775808 ≤ room ∧ room ≤ 9223372036854775807) (hcm : Deeds w ao l) :
    Calls Try.prog 7 #[.int .i64 room, .slice ao l.length cp] w fun e w' => e = .returned (.bool true) ∧ RowKit.Below w.heap.size w w' := by
  have HE := hide (examples_any w)
  have HCM := hide hcm
  have hlen := hcm.len
  clear hcm
  go_enter Try.func7, Try.ntmps7
  go_wp2_with fail
  refine HE.out.mono ?_
  rintro e w0 ⟨rfl, be⟩
  have BE := hide be
  have HP := hide (pick_any room 2000 w0 hro (by omega))
  have hz := pickZ_range room 2000 (by omega)
  generalize hzz : pickZ room 2000 = z at HP hz
  have HNew := hide (new_ok z w0 (by omega) 2000 (by omega))
  clear be HE hzz
  go_wp2_with fail
  refine HP.out.mono ?_
  rintro e wp ⟨rfl, hw⟩
  obtain rfl := hw.symm
  clear HP
  go_wp2_with fail
  refine HNew.out.mono ?_
  rintro e w1 ⟨b, G0, rfl, r0, fr, ow, b0⟩
  have B0 : Hid (RowKit.Below w.heap.size w w1) := BE.out.trans (b0.mono BE.out.size)
  have OW : Hid (∀ j, G0.own j → w.heap.size ≤ j) := fun j e => Nat.le_trans BE.out.size (ow j e)
  obtain ⟨i0, k0⟩ := fr.is
  have R0 := hide r0
  have I0 := hide i0
  clear b0 ow fr HNew BE r0 i0 k0
  go_wp2
  go_loopw [8] (fun iv wv => ∃ (i : Nat) (Gi : DG), iv = .int .i64 i ∧ i ≤ 60 ∧ Hid (Step w1 b G0 wv Gi ∧ Gi.down = false ∧ Gi.fuse = -1 ∧ Gi.room = z ∧ Gi.q = 2000 ∧ Gi.n ≤ i ∧ Inj Gi.D ∧ (used Gi : Int) ≤ z)) (fun iv _ => 60 - (intOf iv).toNat)
  case atStart => exact ⟨0, G0, rfl, Nat.zero_le _, Step.refl R0.out, I0.out.down, I0.out.fuse, I0.out.room, I0.out.q, by rw [I0.out.n]; omega, by rw [I0.out.D]; exact inj_empty, by rw [used_eq R0.out, I0.out.D]; show ((0 : Nat) : Int) ≤ z; omega⟩
  case round =>
    obtain ⟨i, Gi, rfl, hi, HI⟩ := hrel
    by_cases hlt : i < l.length ∧ i < 60
    · obtain ⟨hl1, hl2⟩ := hlt
      obtain ⟨st, a1, a2, a3, a4, a5, a6, a7⟩ := HI.out
      have S1 := hide st
      have HU1 : Hid (∀ wx, Rep wx b Gi → Calls Try.prog 25 #[.pointer (some ⟨b, 0, none⟩)] wx fun e w' => e = .returned (.int .i64 (used Gi)) ∧ RowKit.Below wx.heap.size wx w') := fun wx hx => used_any hx (by omega)
      have hok := HCM.out.ok l[i] (List.getElem_mem hl1)
      have HO := hide (fun wx (hx : Rep wx b Gi) => one_any hx (by omega) l[i].kind l[i].a l[i].b (.inr (by rw [a3, a4]; omega)) (by rw [a4]; omega) l[i].n l[i].ko l[i].kl l[i].kc hok.kind hok.a hok.b)
      have hi0 : (0 : Int) ≤ (i : Int) := by omega
      have hi1 : (i : Int) < (l.length : Int) := by omega
      have hi2 : (i : Int) < 60 := by omega
      clear st a1 a2 a3 a4 a5 a6 a7 hok
      go_wp2_with fail
      refine (HU1.out _ S1.out.rep).mono ?_
      rintro e w2 ⟨rfl, b2⟩
      have S2 := hide (S1.out.below b2)
      have hdd := HCM.out.all.below (Step.old B0.out OW.out S2.out).1 i hl1
      obtain ⟨kb, off, rfl, _, d0, d1, d2, d3, d4⟩ := hdd
      clear b2
      go_wp2_with fail
      refine (HO.out _ S2.out.rep).mono ?_
      rintro e w3 ⟨er, G2, rfl, s3, rs⟩
      have S3 := hide (S2.out.trans s3)
      obtain ⟨_, a1, a2, a3, a4, a5, a6, a7⟩ := HI.out
      obtain ⟨c1, c2, c3, c4, c5, c6, c7, c8⟩ := one_room S2.out.rep s3.rep a6 a1 a2 (by omega) rs
      have HI2 : Hid (G2.down = false ∧ G2.fuse = -1 ∧ G2.room = z ∧ G2.q = 2000 ∧ G2.n ≤ i + 1 ∧ Inj G2.D ∧ (used G2 : Int) ≤ z) := ⟨c1, c2, c3.trans a3, c4.trans a4, by omega, c6, by omega⟩
      have HU2 : Hid (∀ wx, Rep wx b G2 → Calls Try.prog 25 #[.pointer (some ⟨b, 0, none⟩)] wx fun e w' => e = .returned (.int .i64 (used G2)) ∧ RowKit.Below wx.heap.size wx w') := fun wx hx => used_any hx (by omega)
      have HF2 : Hid (∀ wx, Rep wx b G2 → Calls Try.prog 26 #[.pointer (some ⟨b, 0, none⟩)] wx fun e w' => e = .returned (.int .i64 (z - used G2)) ∧ RowKit.Below wx.heap.size wx w') := fun wx hx => by
        have := free_any hx (by omega)
        rw [c3.trans a3] at this
        exact this
      have hu2 : (used G2 : Int) ≤ z := by omega
      have hu1 : (used Gi : Int) ≤ z := by omega
      have heq : er ≠ 0 → used G2 = used Gi := c8
      clear s3 rs a1 a2 a3 a4 a5 a6 a7 c1 c2 c3 c4 c5 c6 c7 c8 d0 d1 d2 d3 d4 HO HU1
      generalize used G2 = u2 at HU2 HF2 hu2 heq
      generalize used Gi = u1 at *
      have hu20 : (0 : Int) ≤ (u2 : Int) := by omega
      by_cases her : er = 0
      · subst her
        clear heq
        go_wp2_with fail
        refine (HU2.out _ S3.out.rep).mono ?_
        rintro e w4 ⟨rfl, b4⟩
        have S4 := hide (S3.out.below b4)
        clear b4
        go_wp2_with fail
        refine (HU2.out _ S4.out.rep).mono ?_
        rintro e w5 ⟨rfl, b5⟩
        have S5 := hide (S4.out.below b5)
        clear b5
        go_wp2_with fail
        refine (HF2.out _ S5.out.rep).mono ?_
        rintro e w6 ⟨rfl, b6⟩
        have S6 := hide (S5.out.below b6)
        clear b6
        go_wp2_with fail
        refine (HU2.out _ S6.out.rep).mono ?_
        rintro e w7 ⟨rfl, b7⟩
        have S7 := hide (S6.out.below b7)
        clear b7
        go_wp2
        go_roundw
        case rel => exact ⟨i + 1, G2, by go_num, by omega, S7.out, HI2.out⟩
        case measure => simp [intOf]; omega
      · obtain rfl := heq her
        clear heq
        go_wp2_with fail
        refine (HU2.out _ S3.out.rep).mono ?_
        rintro e w4 ⟨rfl, b4⟩
        have S4 := hide (S3.out.below b4)
        clear b4
        go_wp2_with fail
        refine (HU2.out _ S4.out.rep).mono ?_
        rintro e w5 ⟨rfl, b5⟩
        have S5 := hide (S4.out.below b5)
        clear b5
        go_wp2_with fail
        refine (HF2.out _ S5.out.rep).mono ?_
        rintro e w6 ⟨rfl, b6⟩
        have S6 := hide (S5.out.below b6)
        clear b6
        go_wp2_with fail
        refine (HU2.out _ S6.out.rep).mono ?_
        rintro e w7 ⟨rfl, b7⟩
        have S7 := hide (S6.out.below b7)
        clear b7
        go_wp2_with fail
        refine (HU2.out _ S7.out.rep).mono ?_
        rintro e w8 ⟨rfl, b8⟩
        have S8 := hide (S7.out.below b8)
        clear b8
        go_wp2
        go_roundw
        case rel => exact ⟨i + 1, G2, by go_num, by omega, S8.out, HI2.out⟩
        case measure => simp [intOf]; omega
    · have BF := hide (Step.old B0.out OW.out HI.out.1).1
      by_cases hl1 : i < l.length
      · have hi1 : (i : Int) < (l.length : Int) := by omega
        have hi2 : ¬ (i : Int) < 60 := by omega
        go_wp2
        go_ret
        exact ⟨rfl, BF.out⟩
      · have hi1 : ¬ (i : Int) < (l.length : Int) := by omega
        go_wp2
        go_ret
        exact ⟨rfl, BF.out⟩
end Go.Proofs.Ytdlaicbdconbcaa
