/-
  LinkPlays as it runs (mkyw.py).
-/
import Derived.Test.YthgfijmpofbchaaZYRb
import Derived.Test.YthgfijmpofbchaaZYRc
import Derived.Test.YthgfijmpofbchaaZYRd
import Derived.Test.YthgfijmpofbchaaZTRj
import Derived.Deep.DeepCutAuto
namespace Go.Proofs.Ythgfijmpofbchaa
open Go.RowKit

attribute [local go_sem ↓] Go.wp_at_zero Go.wp_at_succ
set_option linter.unusedSimpArgs false
set_option linter.unusedVariables false
theorem take_len9 (l : LK) (f : FR) : (l.take f).1.1.length ≤ 1 := by
  unfold LK.take
  split
  · exact Nat.zero_le _
  · dsimp only
    split
    · exact Nat.zero_le _
    · unfold LK.get
      split
      · exact Nat.le_refl _
      · split <;> exact Nat.zero_le _

structure YL (w0 : World) (vb : Value) (bl bx i : Nat) (a : Act) (W : World) (v : Vyp) (vl vx : Value) (l : LK) : Prop where
  af : Fyp a v
  h1 : v.v1 = vb
  h5 : v.v5 = .bool true
  h6 : v.v6 = .pointer (some ⟨bl, 0, none⟩)
  h8 : v.v8 = .pointer (some ⟨bx, 0, none⟩)
  h9 : v.v9 = .int .i64 (i : Int)
  lx : LX w0 W bl bx vl vx l l
theorem yp_ret {w0 W : World} {a : Act} {v : Vyp} (hF : Fyp a v) (h4 : a.tmps.getD 4 undef = .bool true) (hB : Below w0.heap.size w0 W) :
    bodyPost Try.prog Try.f3 (fun e w' => e = .returned (.bool true) ∧ Below w0.heap.size w0 w') .ret a W := by
  have h5 : a.tmps[4]?.getD undef = .bool true := by
    have := h4
    rw [Array.getD_eq_getD_getElem?] at this
    exact this
  refine bodyPost_ret (v := .bool true) ?_ hF.defers ⟨rfl, hB⟩
  simp [results, Try.results3, go_sem, h5]
theorem str_row {w : World} {B n cp : Nat} {ao : Option Addr} {D : List ByteArray} (h : w.ownsRow B 9 1 (.slice ao n cp) n (D.map .string)) (hn : D.length = n) (i : Nat) (hi : i < D.length) : ∃ g, ao = some ⟨g, 0, none⟩ ∧ w.cell? ⟨g, i, none⟩ = some (.string D[i]) := by
  subst hn
  exact str_at (B := ⟨B, fun _ => none⟩) h rfl i hi
set_option maxHeartbeats 16000000 in
set_option maxRecDepth 100000 in
theorem plays_none (ep : Int) (hep : ep < 1 ∨ 9007199254740991 < ep) (ao : Option Addr) (cp n : Nat) (w : World) :
    Calls Try.prog 3 #[.int .i64 ep, .slice ao n cp] w fun e w' => e = .returned (.bool true) ∧ Below w.heap.size w w' := by
  have HE := hide (examples_any w)
  have HP := hide (fun w => pnew_none ep hep w)
  have HX := hide (fun w => xnew_none ep hep w)
  clear hep
  go_enter Try.func3, Try.ntmps3
  go_wp2_with fail
  refine HE.out.mono ?_
  rintro e w0 ⟨rfl, be⟩
  have BE := hide be
  clear be HE
  go_wp2_with fail
  refine (HP.out _).mono ?_
  rintro e w1 ⟨rfl, hw⟩
  obtain rfl := hw.symm
  clear hw
  go_wp2_with fail
  refine (HX.out _).mono ?_
  rintro e w2 ⟨rfl, hw⟩
  obtain rfl := hw.symm
  clear hw
  go_wp2
  go_ret
  exact ⟨rfl, BE.out⟩
attribute [local go_sem ↓] Go.wp_at_zero Go.wp_at_succ
set_option maxHeartbeats 16000000 in
set_option maxRecDepth 100000 in
theorem plays_walk (ep : Int) (ao : Option Addr) (cp : Nat) (ds : List DD) (w : World) (hcm : DDs w ao ds) :
    Calls Try.prog 3 #[.int .i64 ep, .slice ao ds.length cp] w fun e w' => e = .returned (.bool true) ∧ Below w.heap.size w w' := by
  by_cases hep : ep < 1 ∨ 9007199254740991 < ep
  · exact plays_none ep hep ao cp _ w
  obtain ⟨E, rfl⟩ : ∃ E : Nat, ep = (E : Int) := ⟨ep.toNat, by omega⟩
  have HE := hide (examples_any w)
  have HP := hide (fun w => pnew E (by omega) (by omega) w)
  have HX := hide (fun w => xnew E (by omega) (by omega) w)
  have HCM := hide hcm
  clear hcm hep
  go_enter Try.func3, Try.ntmps3
  go_wp2_with fail
  refine HE.out.mono ?_
  rintro e w0 ⟨rfl, be⟩
  have BE := hide be
  clear be HE
  go_wp2_with fail
  refine (HP.out _).mono ?_
  rintro e w1 ⟨rfl, p1, b1⟩
  have P1 := hide p1
  have B1 := hide b1
  clear p1 b1 HP
  go_wp2_with fail
  refine (HX.out _).mono ?_
  rintro e w2 ⟨rfl, p2, b2⟩
  have L2 : Hid (LX w0 w2 w0.heap.size w1.heap.size (.slice none 0 0) (.slice none 0 0) (LK.new E) (LK.new E)) := by
    refine ⟨P1.out.below b2, p2, fun j hj => ?_, fun j hj => ?_, B1.out.trans (b2.mono B1.out.size)⟩
    · rcases hj with rfl | hj
      · exact Nat.le_refl _
      · cases hj
    · rcases hj with rfl | hj
      · exact B1.out.size
      · cases hj
  clear p2 b2 HX P1 B1
  generalize w1.heap.size = bx at *
  generalize hbl : w0.heap.size = bl at *
  have HBL := hide hbl
  clear hbl
  go_upto_region 8 with fail
  rename_i Ko hKo Ki hKi
  refine reg_mono (yp_r8 (by kernel_rfl) _ (v := ⟨_, _, _, _, _, _, _, _, _, _, _, _, _, _⟩) ⟨rfl, rfl, rfl, rfl, rfl, rfl, rfl, rfl, rfl, rfl, rfl, rfl, rfl, rfl, rfl, rfl⟩ ?_)
  intro a1 F1
  refine hKi _ _ ?_
  refine wp_block (wp_loop (fun a W => ∃ i v vl vx l, i ≤ 200 ∧ YL w0 (.slice ao ds.length cp) bl bx i a W v vl vx l) (fun a _ => 200 - (intOf (a.tmps.getD 9 undef)).toNat) ⟨0, _, _, _, _, Nat.zero_le _, ⟨F1, rfl, rfl, rfl, rfl, rfl, L2.out⟩⟩ ?_)
  clear L2 F1
  rintro a2 W2 ⟨i, v, vl, vx, l, hi, A2⟩
  have hm2 : (intOf (a2.tmps.getD 9 undef)).toNat = i := by rw [A2.af.s9, A2.h9]; simp [intOf]
  refine wp_seq (wp_seq (reg_mono (yp_r9 (by kernel_rfl) _ A2.af A2.h1 A2.h9 ?_)))
  intro a3 F3 h50
  by_cases hlt : i < ds.length ∧ i < 200
  · rw [decide_eq_true hlt] at h50
    refine wp_cond_true h50 (wp_skip ?_)
    show Code.wp _ _ _ _ _
    obtain ⟨kb, off, hao, _, ht⟩ := HCM.out.all.below (BE.out.trans (A2.lx.below.mono BE.out.size)) i hlt.1
    have hok := HCM.out.ok ds[i] (List.getElem_mem hlt.1)
    obtain ⟨t, ht0⟩ : ∃ t, ds[i] = t := ⟨_, rfl⟩
    rw [ht0] at ht hok
    refine wp_seq (wp_block (wp_seq (reg_mono (yp_r11 (by kernel_rfl) _ F3 (A2.h1.trans (by rw [hao])) A2.h9 hlt.1 ht ?_))))
    intro a4 F4
    have D4 := heap_alloc_new W2 (.cells t.c 33 (0, 0))
    have X4 := A2.lx.on ((Below.refl _ W2).alloc (Nat.le_refl _) (.cells t.c 33 (0, 0)))
    generalize W2.alloc (.cells t.c 33 (0, 0)) = W4 at *
    generalize W2.heap.size = d at *
    refine wp_seq (reg_mono (yp_r12 (by kernel_rfl) _ F4 ?_))
    intro a5 F5
    refine wp_mid (fun a W => ∃ v vl vx l, YL w0 (.slice ao ds.length cp) bl bx i a W v vl vx l ∧ v.v11 = .bool true) ?_ ?_
    · refine wp_seq (reg_mono (yp_r13 (by kernel_rfl) _ F5 rfl D4 hok ?_))
      intro a6 F6
      have hz4 := pickZ_range t.kind 4 (by omega)
      generalize pickZ t.kind 4 = z at *
      refine wp_block ?_
      refine wp_seq (reg_mono (yp_r21 (by kernel_rfl) _ F6 rfl ?_))
      intro a7 F7 h102
      rcases (by omega : z = 0 ∨ z = 1 ∨ z = 2 ∨ z = 3) with rfl | rfl | rfl | rfl
      · refine wp_cond_true h102 (reg_all (yp_r22 (by kernel_rfl) _ F7 A2.h6 A2.h8 rfl X4 D4 (by have := hok.2.1; omega) ?_))
        intro a8 w8 vl8 vx8 F8 X8
        exact ⟨_, vl8, vx8, _, ⟨F8, A2.h1, A2.h5, A2.h6, A2.h8, A2.h9, X8⟩, rfl⟩
      · refine wp_cond_false h102 (wp_seq (reg_mono (yp_r23 (by kernel_rfl) _ F7 rfl ?_)))
        intro a8 F8 h113
        refine wp_cond_true h113 (reg_all (yp_r24 (by kernel_rfl) _ F8 A2.h6 A2.h8 X4 ?_))
        intro a9 w9 F9 X9
        exact ⟨_, vl, vx, _, ⟨F9, A2.h1, A2.h5, A2.h6, A2.h8, A2.h9, X9⟩, rfl⟩
      · refine wp_cond_false h102 (wp_seq (reg_mono (yp_r23 (by kernel_rfl) _ F7 rfl ?_)))
        intro a8 F8 h113
        refine wp_cond_false h113 (wp_seq (reg_mono (yp_r25 (by kernel_rfl) _ F8 rfl ?_)))
        intro a9 F9 h120
        refine wp_cond_true h120 (wp_seq (reg_mono (yp_r26 (by kernel_rfl) _ F9 A2.h6 X4 ?_)))
        intro a10 w10 F10 X10
        refine reg_all (yp_r27 (by kernel_rfl) _ F10 A2.h8 X10 ?_)
        intro a11 w11 F11 X11
        exact ⟨_, vl, vx, _, ⟨F11, A2.h1, A2.h5, A2.h6, A2.h8, A2.h9, X11⟩, rfl⟩
      · refine wp_cond_false h102 (wp_seq (reg_mono (yp_r23 (by kernel_rfl) _ F7 rfl ?_)))
        intro a8 F8 h113
        refine wp_cond_false h113 (wp_seq (reg_mono (yp_r25 (by kernel_rfl) _ F8 rfl ?_)))
        intro a9 F9 h120
        refine wp_cond_false h120 (wp_seq (reg_mono (yp_r14 (by kernel_rfl) _ F9 A2.h6 rfl X4 D4 hok ?_)))
        intro a10 w10 vl10 aa ca F10 X10 D10 R10
        refine wp_seq (reg_mono (yp_r15 (by kernel_rfl) _ F10 A2.h8 rfl X10 D10 hok X10.p.ok R10 (fun j hj => X4.x.lt hj) ?_))
        intro a11 w11 vx11 ab cb F11 X11 Ra Rb
        obtain ⟨ys, hys⟩ : ∃ ys, (l.take t.f).1.1 = ys := ⟨_, rfl⟩
        obtain ⟨l2, hl2⟩ : ∃ l2, (l.take t.f).2 = l2 := ⟨_, rfl⟩
        rw [hys] at F11 Ra Rb
        rw [hl2] at X11
        have hyl : ys.length ≤ 1 := by rw [← hys]; exact take_len9 l t.f
        refine wp_seq (reg_mono (yp_r16 (by kernel_rfl) _ F11 rfl rfl rfl rfl ?_))
        intro a12 F12
        refine wp_seq (reg_mono (yp_r17 (by kernel_rfl) _ F12 ?_))
        intro a13 F13
        clear F7 F8 F9 F10 F11 F12 F5 F6 R10 D10 X10 h102 h113 h120
        refine wp_block (wp_loop (fun a W => ∃ k v', k ≤ ys.length ∧ YL w0 (.slice ao ds.length cp) bl bx i a W v' vl10 vx11 l2 ∧ v'.v11 = .bool true ∧ v'.v12 = .slice aa ys.length ca ∧ v'.v14 = .slice ab ys.length cb ∧ v'.v16 = .int .i64 (k : Int) ∧ Below w11.heap.size w11 W) (fun a _ => ys.length - (intOf (a.tmps.getD 16 undef)).toNat) ⟨0, _, Nat.zero_le _, ⟨F13, A2.h1, A2.h5, A2.h6, A2.h8, A2.h9, X11⟩, rfl, rfl, rfl, rfl, Below.refl _ _⟩ ?_)
        clear F13
        rintro a14 w14 ⟨k, v14, hk, A14, g11, g12, g14, g16, b14⟩
        have hm14 : (intOf (a14.tmps.getD 16 undef)).toNat = k := by rw [A14.af.s16, g16]; simp [intOf]
        refine wp_seq (wp_seq (reg_mono (yp_r18 (by kernel_rfl) _ A14.af g11 g12 g16 ?_)))
        intro a15 F15 h90
        by_cases hkl : k < ys.length
        · rw [decide_eq_true hkl] at h90
          refine wp_cond_true h90 (wp_skip ?_)
          show Code.wp _ _ _ _ _
          have T14 : Touch (fun _ => False) w11 w14 := Touch.of_below b14
          obtain ⟨ga, ha, c1⟩ := str_row (T14.row Ra fun _ _ e => e) rfl k hkl
          obtain ⟨gb, hb, c2⟩ := str_row (T14.row Rb fun _ _ e => e) rfl k hkl
          refine wp_seq (wp_block (reg_all (yp_r20 (by kernel_rfl) _ F15 (g12.trans (by rw [ha])) (g14.trans (by rw [hb])) g16 hkl c1 c2 ?_)))
          intro a16 w16 F16 b16
          show Code.wp _ _ _ _ _
          refine reg_all (yp_r19 (by kernel_rfl) _ F16 g16 (by omega) ?_)
          intro a17 F17
          refine ⟨⟨k + 1, _, by omega, ⟨F17, A14.h1, A14.h5, A14.h6, A14.h8, A14.h9, A14.lx.on b16⟩, rfl, g12, g14, rfl, b14.trans (b16.mono b14.size)⟩, ?_⟩
          have hm17 : (intOf (a17.tmps.getD 16 undef)).toNat = k + 1 := by rw [F17.s16]; simp only [intOf]; omega
          rw [hm17, hm14]
          omega
        · rw [decide_eq_false hkl] at h90
          refine wp_cond_false h90 (wp_exit ?_)
          exact ⟨_, vl10, vx11, l2, ⟨F15, A14.h1, A14.h5, A14.h6, A14.h8, A14.h9, A14.lx⟩, g11⟩
    · clear F3 F4 F5 X4 D4 h50
      rintro a6 w6 ⟨v6, vl6, vx6, l6, A6, g11⟩
      refine wp_seq (reg_mono (yp_r28 (by kernel_rfl) _ A6.af A6.h6 A6.h8 g11 A6.lx ?_))
      intro a7 w7 F7 h143 b7
      refine wp_cond_false h143 (wp_skip ?_)
      show Code.wp _ _ _ _ _
      refine reg_all (yp_r10 (by kernel_rfl) _ F7 A6.h9 (by omega) ?_)
      intro a8 F8
      refine ⟨⟨i + 1, _, vl6, vx6, l6, by omega, ⟨F8, A6.h1, A6.h5, A6.h6, A6.h8, rfl, A6.lx.on b7⟩⟩, ?_⟩
      have hm8 : (intOf (a8.tmps.getD 9 undef)).toNat = i + 1 := by rw [F8.s9]; simp only [intOf]; omega
      rw [hm8, hm2]
      omega
  · rw [decide_eq_false hlt] at h50
    refine wp_cond_false h50 (wp_exit ?_)
    show Ko _ _
    refine hKo _ _ ?_
    refine wp_seq (reg_mono (yp_r30 (by kernel_rfl) _ F3 A2.h6 A2.h8 A2.lx ?_))
    intro a4 w4 F4 X4
    refine wp_seq (reg_mono (yp_r31 (b := true) (by kernel_rfl) _ F4 A2.h5 rfl ?_))
    intro a5 F5 h4
    refine wp_ret ?_
    exact yp_ret F5 h4 (BE.out.trans (X4.below.mono BE.out.size))
end Go.Proofs.Ythgfijmpofbchaa
