/-
  NetApart as it runs.
-/
import Derived.Test.YtfldflecelagjaaA1
namespace Go.Proofs.Ytfldflecelagjaa
open Go.RowKit Go.Maps

theorem start_ap {W w1 : World} {b : Nat} (h : Net W.heap.size w1 b 3 0 q0) (hb : Below W.heap.size W w1) : Ap W b q0 (.slice none 0 0) w1 :=
  ⟨h.nt.move (own := fun _ => False) (Touch.refl _ w1) (fun _ _ e => e.elim) (fun _ e => e.elim (fun h => .inl h) fun h => by cases h), World.ownsRow_nil _ _ _ _, hb⟩
set_option maxRecDepth 100000
set_option maxHeartbeats 8000000
theorem apart_walk (ao : Option Addr) (cp : Nat) (l : List Dd) (w : World) (hcm : Deeds w ao l) :
    Calls Try.prog 4 #[.slice ao l.length cp] w fun e w' => e = .returned (.bool true) ∧ Below w.heap.size w w' := by
  obtain ⟨i0, hi0, hz0, hz1, hz2⟩ := info_parts infoStr
  have HE := hide (examples_any w)
  have HCM := hide hcm
  have hlen := hcm.len
  clear hcm
  go_enter Try.func4, Try.ntmps4
  go_wp2_with fail
  refine HE.out.mono ?_
  rintro e W ⟨rfl, be⟩
  have BE := hide be
  clear be HE
  go_wp2_with fail
  refine (Net.new 3 W (by omega)).mono ?_
  rintro e w1 ⟨b, rfl, n1, b1⟩
  have R0 := hide (start_ap n1 b1)
  clear n1 b1
  go_wp2
  go_loopw [6, 7] (fun ov iv wv => ∃ (i : Nat) (q : Qs) (oa : Option Addr) (oc : Nat), ov = .slice oa (q 0 1).length oc ∧ iv = .int .i64 i ∧ i ≤ 200 ∧ Hid (Ap W b q (.slice oa (q 0 1).length oc) wv)) (fun _ iv _ => 200 - (intOf iv).toNat)
  case atStart => exact ⟨0, q0, none, 0, rfl, rfl, Nat.zero_le _, R0⟩
  case round =>
    clear R0
    obtain ⟨i, q, oa, oc, rfl, rfl, hi, R⟩ := hrel
    by_cases hlt : i < l.length ∧ i < 200
    · obtain ⟨hl1, hl2⟩ := hlt
      have hdd := HCM.out.all.below (BE.out.trans (R.out.below.mono BE.out.size)) i hl1
      have hok := HCM.out.ok l[i] (List.getElem_mem hl1)
      obtain ⟨kb, off, rfl, hkb, d0, d1, d2, d3, d4⟩ := hdd
      have ra := pickZ_range l[i].a 3 (by omega)
      have rc := pickZ_range l[i].c 3 (by omega)
      have rk := pickZ_range l[i].kind 4 (by omega)
      have HP1 := hide (fun w => pick_any l[i].a 3 w hok.a (by omega))
      have HP2 := hide (fun w => pick_any l[i].c 3 w hok.c (by omega))
      have HPK := hide (fun w => pick_any l[i].kind 4 w hok.kind (by omega))
      obtain ⟨P, hP⟩ : ∃ P : Nat, pickZ l[i].a 3 = P := ⟨(pickZ l[i].a 3).toNat, by omega⟩
      obtain ⟨C, hC⟩ : ∃ C : Nat, pickZ l[i].c 3 = C := ⟨(pickZ l[i].c 3).toNat, by omega⟩
      obtain ⟨KN, hKN⟩ : ∃ KN : Nat, pickZ l[i].kind 4 = KN := ⟨(pickZ l[i].kind 4).toNat, by omega⟩
      rw [hP] at HP1 ra
      rw [hC] at HP2 rc
      rw [hKN] at HPK rk
      have hP3 : P < 3 := by omega
      have hC3 : C < 3 := by omega
      have hK4 : KN = 0 ∨ KN = 1 ∨ KN = 2 ∨ KN = 3 := by omega
      have hoi := hok.i
      have hos := hok.s
      have IP : Hid (In64 P) := ⟨by omega, by omega⟩
      have IC : Hid (In64 C) := ⟨by omega, by omega⟩
      have I0 : Hid (In64 0) := in64_small (by omega) (by omega)
      have I1 : Hid (In64 1) := in64_small (by omega) (by omega)
      have A2 := hide (R.out.deed l[i])
      have hLf : (q 0 1).length ≤ 64 := R.out.net.few 0 1 link01
      clear hP hC hKN ra rc rk hok
      have hi0' : (0 : Int) ≤ (i : Int) := by omega
      have hi1 : (i : Int) < (l.length : Int) := by omega
      have hi2 : (i : Int) < 200 := by omega
      obtain ⟨D0, hD0⟩ : ∃ D0, wr.heap.size = D0 := ⟨_, rfl⟩
      have HD0 := hide hD0
      generalize l[i] = dd at *
      obtain ⟨vk, va, vc, vi, vs⟩ := dd
      simp only at d0 d1 d2 d3 d4 HP1 HP2 HPK hoi hos
      go_wp2_with fail
      refine (HP1.out _).mono ?_
      rintro e wp ⟨rfl, hw⟩
      obtain rfl := hw.symm
      clear hw
      go_wp2_with fail
      refine (HP2.out _).mono ?_
      rintro e wp ⟨rfl, hw⟩
      obtain rfl := hw.symm
      clear hw
      have A3 : Hid (Ap2 W b q (.slice oa (q 0 1).length oc) D0 ⟨vk, va, vc, vi, vs⟩ (q 0 1) (wr.alloc (.cells #[.int .i64 vk, .int .i64 va, .int .i64 vc, .int .i64 vi, .string vs] 32))) := by
        have h := A2.out
        rw [HD0.out] at h
        exact h
      clear A2 d0 d1 d2 d3 d4 HP1 HP2
      generalize wr.alloc (.cells #[.int .i64 vk, .int .i64 va, .int .i64 vc, .int .i64 vi, .string vs] 32) = w2 at A3 ⊢
      have x0 : w2.cell? ⟨D0, 0, none⟩ = some (.int .i64 vk) := box_cell A3.out.deed 0 rfl
      have x3 : w2.cell? ⟨D0, 3, none⟩ = some (.int .i64 vi) := box_cell A3.out.deed 3 rfl
      have x4 : w2.cell? ⟨D0, 4, none⟩ = some (.string vs) := box_cell A3.out.deed 4 rfl
      clear hD0 hkb
      have HX : Hid (∀ wx {q' : Qs}, Ap2 W b q' (.slice oa (q 0 1).length oc) D0 ⟨vk, va, vc, vi, vs⟩ (q 0 1) wx → wx.cell? ⟨D0, 3, none⟩ = some (.int .i64 vi) ∧ wx.cell? ⟨D0, 4, none⟩ = some (.string vs)) := fun wx _ h => ⟨box_cell h.deed 3 rfl, box_cell h.deed 4 rfl⟩
      have HLN : Hid (∀ wx {q' : Qs} {v' : Value} (h : Ap W b q' v' wx) (n : Nat) (hn : (q' 0 1).length = n), Calls Try.prog 26 #[.pointer (some ⟨b, 0, none⟩), .int .i64 0, .int .i64 1] wx fun e w' => e = .returned (.int .i64 n) ∧ w' = wx) := fun wx q' v' h n hn => by
        have h1 := h.net.len I0.out I1.out
        rw [len01, hn] at h1
        exact h1
      by_cases hP0 : P = 0
      · have e1 : ((P : Int) == 0) = true := by simp; omega
        by_cases hC1 : C = 1
        · have e2 : ((C : Int) == 1) = true := by simp; omega
          have HO : Hid (P = 0 ∧ C = 1) := ⟨hP0, hC1⟩
          clear hP0 hC1
          go_wp2_with fail
          refine (HPK.out _).mono ?_
          rintro e wp ⟨rfl, hw⟩
          obtain rfl := hw.symm
          clear hw
          rcases hK4 with rfl | rfl | rfl | rfl
          · skip
            go_wp2_with fail
            refine (A3.out.net.send A3.out.far IP.out IC.out vs (by have := hos; omega)).mono ?_
            rintro e w3 ⟨rfl, n3, t3⟩
            obtain ⟨hP0, hC1⟩ := HO.out
            rw [hP0, hC1] at n3
            rw [hP0, hC1]
            clear hP0 hC1
            have T3 := hide t3
            have NN := hide n3
            clear t3 n3 x0 x3 x4
            by_cases hr : (q 0 1).length < 64
            · have n4 := NN.out
              rw [if_pos (room_own.2 hr)] at n4
              rw [decide_eq_true (room_own.2 hr)]
              have A4 := hide (A3.out.call n4 T3.out)
              obtain ⟨y3, y4⟩ := HX.out _ A4.out
              have hl65 : decide (((q 0 1).length : Int) < 64) = true := by simpa using (show ((q 0 1).length : Int) < 64 by omega)
              have hdw : D0 ≠ w3.heap.size := Nat.ne_of_lt (heap_lt A4.out.deed)
              clear n4 NN
              go_wp2_with (first
                | (at_builtin; refine wpList_append_own_at _ rfl _ _ 41 rfl W.heap.size 9 i0 _ 1 16 Try.underlying41 hi0 hz0 hz1 hz2 rfl (by omega) (.slice oa (q 0 1).length oc) (q 0 1).length ((q 0 1).map .string) rfl (A4.out.row.alloc _) ⟨w3.heap.size, 0, none⟩ 1 1 [.string vs] rfl rfl (World.news_of_block (cs := #[.string vs]) (t := 9) (fr := (0, 0)) (heap_alloc_new w3 _)) (by simp [Value.oneCell']) (by unfold maxLen; omega) (by omega) (by have := A4.out.below.size; simp; omega) ?_; intro v' w4 hown4 hgrow4 hnil4 hloc4; obtain ⟨a4, c4, rfl⟩ := row_slice hown4)
                | (go_at_call 26; refine (HLN.out _ (A4.out.append (more_own _) hown4 hgrow4 hloc4) ((q 0 1).length + 1) (by rw [more_own, List.length_append]; rfl)).mono ?_; rintro e wl ⟨rfl, hw⟩; obtain rfl := hw.symm; clear hw)
                | go_in)
              go_roundw
              case rel => exact ⟨i + 1, moreQ q ((0 : Nat) : Int) ((1 : Nat) : Int) vs, a4, c4, by rw [more_own, List.length_append]; rfl, by go_num, by omega, by rw [more_own, List.length_append]; exact A4.out.append (more_own _) hown4 hgrow4 hloc4⟩
              case measure => simp [intOf]; omega
            · have n4 := NN.out
              rw [if_neg (fun h => hr (room_own.1 h))] at n4
              rw [decide_eq_false (fun h => hr (room_own.1 h))]
              have A4 := hide (A3.out.call n4 T3.out)
              have hl65 : decide (((q 0 1).length : Int) < 64) = false := by simpa using (show ¬ ((q 0 1).length : Int) < 64 by omega)
              have AE := hide (A4.out.stay rfl)
              have HL2 := hide (HLN.out _ AE.out (q 0 1).length rfl)
              clear n4 NN
              go_wp2_with fail
              refine HL2.out.mono ?_
              rintro e wl ⟨rfl, hw⟩
              obtain rfl := hw.symm
              clear hw
              go_wp2_with fail
              go_roundw
              case rel => exact ⟨i + 1, q, oa, oc, rfl, by go_num, by omega, AE⟩
              case measure => simp [intOf]; omega
          · skip
            go_wp2_with fail
            refine (A3.out.net.take A3.out.far IP.out IC.out vi).mono ?_
            rintro e w3 ⟨rfl, n3, t3⟩
            obtain ⟨hP0, hC1⟩ := HO.out
            rw [hP0, hC1] at n3
            rw [hP0, hC1]
            clear hP0 hC1
            have T3 := hide t3
            have NN := hide n3
            clear t3 n3 x0 x3 x4
            by_cases hr : 0 ≤ vi ∧ vi < (q 0 1).length
            · have n4 := NN.out
              rw [if_pos (takes_own.2 hr)] at n4
              rw [decide_eq_true (takes_own.2 hr)]
              rw [if_pos (takes_own.2 hr)]
              have A4 := hide (A3.out.call n4 T3.out)
              obtain ⟨y3, y4⟩ := HX.out _ A4.out
              obtain ⟨k, rfl⟩ : ∃ k : Nat, vi = k := ⟨vi.toNat, by omega⟩
              have hk : k < (q 0 1).length := by omega
              have hk1 : (k : Int) < ((q 0 1).length : Int) := by omega
              have hk0 : (0 : Int) ≤ (k : Int) := by omega
              have hdw : D0 ≠ w3.heap.size := Nat.ne_of_lt (heap_lt A4.out.deed)
              obtain ⟨g, cap, hform, hgb, hgl⟩ := A4.out.row.form (by omega)
              obtain ⟨rfl, rfl⟩ : oa = some ⟨g, 0, none⟩ ∧ oc = cap := by cases hform; exact ⟨rfl, rfl⟩
              clear hform
              have hcell : Hid (∀ j u, ((q 0 1).map Value.string)[j]? = some u → w3.cell? ⟨g, j, none⟩ = some u) := fun j u hu => by
                have h1 := A4.out.row.cells rfl j u hu
                rw [Addr.add_lit] at h1
                simpa using h1
              have r0 : w3.cell? ⟨g, k, none⟩ = some (.string (q 0 1)[k]) := hcell.out k _ (by rw [List.getElem?_map, List.getElem?_eq_getElem hk]; rfl)
              obtain ⟨mm, hmm⟩ : ∃ mm, (q 0 1)[k] = mm := ⟨_, rfl⟩
              rw [hmm] at r0
              have HMM := hide (show msgQ q ((0 : Nat) : Int) ((1 : Nat) : Int) (k : Int) = mm from (msg_own hk).trans hmm)
              clear n4 NN hmm
              rw [HMM.out]
              have hkc : (q 0 1).length ≤ oc ∧ oc ≤ 9223372036854775807 := by
                rcases A4.out.row.2 with ⟨h0, _⟩ | ⟨_, _, _, h1, _, _, h4, h5, _⟩
                · cases h0
                · cases h1; exact ⟨h4, by simpa [maxLen] using h5⟩
              obtain ⟨AD, hAD, hA2⟩ := tail_at hcell.out hkc.1 hk
              have HA2 := hide hA2
              have HN1 := hide (head_at (k := k) hcell.out)
              have hl1 := hide (show (((q 0 1).take k).map Value.string).length = k * 1 by rw [List.length_map, List.length_take]; omega)
              have hl2 := hide (show (((q 0 1).drop (k + 1)).map Value.string).length = ((q 0 1).length - (k + 1)) * 1 by rw [List.length_map, List.length_drop]; omega)
              have hbw : W.heap.size ≤ w3.heap.size := A4.out.below.size
              have hkc1 : k + 1 ≤ oc := by omega
              have hkc2 : k ≤ oc := by omega
              have hkc3 : k + 1 ≤ (q 0 1).length := by omega
              have hkc4 : (oc : Int) ≤ 9223372036854775807 := by omega
              have hs1 : (0 : Int) ≤ (k : Int) + 1 := by omega
              have hs2 : (k : Int) + 1 ≤ ((q 0 1).length : Int) := by omega
              have hs3 : ((q 0 1).length : Int) ≤ (oc : Int) := by omega
              have hs4 : ((k : Int) + 1).toNat = k + 1 := by omega
              have hs5 : (k : Int) ≤ (oc : Int) := by omega
              have hs6 : (q 0 1).length ≤ oc := hkc.1
              have hs7 : oc ≤ 9223372036854775807 := hkc.2
              have hs8 : IntKind.i64.wrap ((k : Int) + 1) = (k : Int) + 1 := by rw [IntKind.wrap_i64]; omega
              have hs9 : ¬ ((k : Int) + 1 < 0) := by omega
              have hs10 : ¬ (((q 0 1).length : Int) < (k : Int) + 1) := by omega
              have hD3 : w3.heap[D0]? = some (.cells (deedC ⟨vk, va, vc, k, vs⟩) 32 (0, 0)) := A4.out.deed
              have HD3 := hide hD3
              clear hA2 hD3
              go_upto_region 29 with fail
              go_region_held_law (fun w' => w'.cell? ⟨D0, 3, none⟩ = some (.int .i64 k)) (go_keep) (first
                | (refine step_append_at rfl _ _ 41 rfl W.heap.size 9 i0 _ 1 16 Try.underlying41 hi0 hz0 hz1 hz2 rfl (by omega) (.slice none 0 0) 0 [] rfl (World.ownsRow_nil _ _ _ _) ⟨g, 0, none⟩ k oc (((q 0 1).take k).map .string) rfl hl1.out HN1.out (one_strs _) (by unfold maxLen; omega) (by omega) hbw ?_; intro a5 c5 w5 hown5 hgrow5 hloc5; have y5 : w5.cell? ⟨D0, 3, none⟩ = some (.int .i64 k) := hgrow5.cell (w := w3.drew) y3 (by simp [Value.ownBlock]))
                | (refine step_append_at rfl _ _ 41 rfl W.heap.size 9 i0 _ 1 16 Try.underlying41 hi0 hz0 hz1 hz2 rfl (by omega) (.slice a5 (0 + k) c5) (0 + k) ([] ++ ((q 0 1).take k).map .string) (by rfl) hown5 AD ((q 0 1).length - (k + 1)) (oc - (k + 1)) (((q 0 1).drop (k + 1)).map .string) (by rfl) hl2.out (HA2.out _ hgrow5) (one_strs _) (by unfold maxLen; omega) (by omega) (by have h := hgrow5.size; exact Nat.le_trans hbw h) ?_; intro a6 c6 w6 hown6 hgrow6 hloc6; have y6 : w6.cell? ⟨D0, 3, none⟩ = some (.int .i64 k) := hgrow6.cell y5 (by rcases hloc5 with h | h <;> rw [h] <;> simp [Value.ownBlock] <;> omega)))
              all_goals (
                have hne6 : 0 + k + ((q 0 1).length - (k + 1)) = (q 0 1).length - 1 := by omega
                have hne7 : k + ((q 0 1).length - (k + 1)) = (q 0 1).length - 1 := by omega
                have hel : (lessQ q ((0 : Nat) : Int) ((1 : Nat) : Int) (k : Int) 0 1).length = (q 0 1).length - 1 := by rw [less_own, show ((k : Int).toNat) = k by omega, List.length_eraseIdx_of_lt hk]
                have AE := hide (A4.out.removed (by rw [less_own, show ((k : Int).toNat) = k by omega]) hk hgrow5 hloc5 hown6 hne6 hgrow6 hloc6)
                rw [hne6] at AE
                have HEL := hide hel
                have HL2 := hide (HLN.out _ AE.out ((q 0 1).length - 1) hel)
                clear hel hne6
                go_wp2_with fail
                refine HL2.out.mono ?_
                rintro e wl ⟨rfl, hw⟩
                obtain rfl := hw.symm
                clear hw
                go_wp2_with fail
                go_roundw
                case rel => exact ⟨i + 1, lessQ q ((0 : Nat) : Int) ((1 : Nat) : Int) (k : Int), a6, c6, by rw [HEL.out], by go_num, by omega, by rw [HEL.out]; exact AE⟩
                case measure => simp [intOf]; omega)
            · have n4 := NN.out
              rw [if_neg (fun h => hr (takes_own.1 h))] at n4
              rw [decide_eq_false (fun h => hr (takes_own.1 h))]
              rw [if_neg (fun h => hr (takes_own.1 h))]
              have A4 := hide (A3.out.call n4 T3.out)
              obtain ⟨y3, y4⟩ := HX.out _ A4.out
              have AE := hide (A4.out.stay rfl)
              have HL2 := hide (HLN.out _ AE.out (q 0 1).length rfl)
              clear n4 NN
              by_cases h0 : 0 ≤ vi
              · have h0' : decide (0 ≤ vi) = true := by simpa using h0
                have h1' : decide (vi < ((q 0 1).length : Int)) = false := by simpa using fun h => hr ⟨h0, h⟩
                go_wp2_with fail
                refine HL2.out.mono ?_
                rintro e wl ⟨rfl, hw⟩
                obtain rfl := hw.symm
                clear hw
                go_wp2_with fail
                go_roundw
                case rel => exact ⟨i + 1, q, oa, oc, rfl, by go_num, by omega, AE⟩
                case measure => simp [intOf]; omega
              · have h0' : decide (0 ≤ vi) = false := by simpa using h0
                go_wp2_with fail
                refine HL2.out.mono ?_
                rintro e wl ⟨rfl, hw⟩
                obtain rfl := hw.symm
                clear hw
                go_wp2_with fail
                go_roundw
                case rel => exact ⟨i + 1, q, oa, oc, rfl, by go_num, by omega, AE⟩
                case measure => simp [intOf]; omega
          · skip
            go_wp2_with fail
            refine (A3.out.net.double A3.out.far IP.out IC.out vi).mono ?_
            rintro e w3 ⟨rfl, n3, t3⟩
            obtain ⟨hP0, hC1⟩ := HO.out
            rw [hP0, hC1] at n3
            rw [hP0, hC1]
            clear hP0 hC1
            have T3 := hide t3
            have NN := hide n3
            clear t3 n3 x0 x3 x4
            by_cases hr : (0 ≤ vi ∧ vi < (q 0 1).length) ∧ (q 0 1).length < 64
            · have n4 := NN.out
              rw [if_pos (doubles_own.2 hr)] at n4
              rw [decide_eq_true (doubles_own.2 hr)]
              have A4 := hide (A3.out.call n4 T3.out)
              obtain ⟨y3, y4⟩ := HX.out _ A4.out
              obtain ⟨k, rfl⟩ : ∃ k : Nat, vi = k := ⟨vi.toNat, by omega⟩
              have hk : k < (q 0 1).length := by omega
              have hk1 : (k : Int) < ((q 0 1).length : Int) := by omega
              have hk0 : (0 : Int) ≤ (k : Int) := by omega
              have hdw : D0 ≠ w3.heap.size := Nat.ne_of_lt (heap_lt A4.out.deed)
              obtain ⟨g, cap, hform, hgb, hgl⟩ := A4.out.row.form (by omega)
              obtain ⟨rfl, rfl⟩ : oa = some ⟨g, 0, none⟩ ∧ oc = cap := by cases hform; exact ⟨rfl, rfl⟩
              clear hform
              have hcell : Hid (∀ j u, ((q 0 1).map Value.string)[j]? = some u → w3.cell? ⟨g, j, none⟩ = some u) := fun j u hu => by
                have h1 := A4.out.row.cells rfl j u hu
                rw [Addr.add_lit] at h1
                simpa using h1
              have r0 : w3.cell? ⟨g, k, none⟩ = some (.string (q 0 1)[k]) := hcell.out k _ (by rw [List.getElem?_map, List.getElem?_eq_getElem hk]; rfl)
              obtain ⟨mm, hmm⟩ : ∃ mm, (q 0 1)[k] = mm := ⟨_, rfl⟩
              rw [hmm] at r0
              have HMM := hide (show msgQ q ((0 : Nat) : Int) ((1 : Nat) : Int) (k : Int) = mm from (msg_own hk).trans hmm)
              clear n4 NN hmm
              rw [HMM.out] at A4
              have hgw : g ≠ w3.heap.size := Nat.ne_of_lt hgl
              go_wp2_with (first
                | (at_builtin; refine wpList_append_own_at _ rfl _ _ 41 rfl W.heap.size 9 i0 _ 1 16 Try.underlying41 hi0 hz0 hz1 hz2 rfl (by omega) (.slice (some ⟨g, 0, none⟩) (q 0 1).length oc) (q 0 1).length ((q 0 1).map .string) rfl (A4.out.row.alloc _) ⟨w3.heap.size, 0, none⟩ 1 1 [.string mm] rfl rfl (World.news_of_block (cs := #[.string mm]) (t := 9) (fr := (0, 0)) (heap_alloc_new w3 _)) (by simp [Value.oneCell']) (by unfold maxLen; omega) (by omega) (by have := A4.out.below.size; simp; omega) ?_; intro v' w4 hown4 hgrow4 hnil4 hloc4; obtain ⟨a4, c4, rfl⟩ := row_slice hown4)
                | (go_at_call 26; refine (HLN.out _ (A4.out.append (more_own _) hown4 hgrow4 hloc4) ((q 0 1).length + 1) (by rw [more_own, List.length_append]; rfl)).mono ?_; rintro e wl ⟨rfl, hw⟩; obtain rfl := hw.symm; clear hw)
                | go_in)
              go_roundw
              case rel => exact ⟨i + 1, moreQ q ((0 : Nat) : Int) ((1 : Nat) : Int) mm, a4, c4, by rw [more_own, List.length_append]; rfl, by go_num, by omega, by rw [more_own, List.length_append]; exact A4.out.append (more_own _) hown4 hgrow4 hloc4⟩
              case measure => simp [intOf]; omega
            · have n4 := NN.out
              rw [if_neg (fun h => hr (doubles_own.1 h))] at n4
              rw [decide_eq_false (fun h => hr (doubles_own.1 h))]
              have A4 := hide (A3.out.call n4 T3.out)
              obtain ⟨y3, y4⟩ := HX.out _ A4.out
              have AE := hide (A4.out.stay rfl)
              have HL2 := hide (HLN.out _ AE.out (q 0 1).length rfl)
              clear n4 NN
              go_wp2_with fail
              refine HL2.out.mono ?_
              rintro e wl ⟨rfl, hw⟩
              obtain rfl := hw.symm
              clear hw
              go_wp2_with fail
              go_roundw
              case rel => exact ⟨i + 1, q, oa, oc, rfl, by go_num, by omega, AE⟩
              case measure => simp [intOf]; omega
          · skip
            go_wp2_with fail
            refine (A3.out.net.drop A3.out.far IP.out IC.out vi).mono ?_
            rintro e w3 ⟨rfl, n3, t3⟩
            obtain ⟨hP0, hC1⟩ := HO.out
            rw [hP0, hC1] at n3
            rw [hP0, hC1]
            clear hP0 hC1
            have T3 := hide t3
            have NN := hide n3
            clear t3 n3 x0 x3 x4
            by_cases hr : 0 ≤ vi ∧ vi < (q 0 1).length
            · have n4 := NN.out
              rw [if_pos (has_own.2 hr)] at n4
              rw [decide_eq_true (has_own.2 hr)]
              have A4 := hide (A3.out.call n4 T3.out)
              obtain ⟨y3, y4⟩ := HX.out _ A4.out
              obtain ⟨k, rfl⟩ : ∃ k : Nat, vi = k := ⟨vi.toNat, by omega⟩
              have hk : k < (q 0 1).length := by omega
              have hk1 : (k : Int) < ((q 0 1).length : Int) := by omega
              have hk0 : (0 : Int) ≤ (k : Int) := by omega
              have hdw : D0 ≠ w3.heap.size := Nat.ne_of_lt (heap_lt A4.out.deed)
              obtain ⟨g, cap, hform, hgb, hgl⟩ := A4.out.row.form (by omega)
              obtain ⟨rfl, rfl⟩ : oa = some ⟨g, 0, none⟩ ∧ oc = cap := by cases hform; exact ⟨rfl, rfl⟩
              clear hform
              have hcell : Hid (∀ j u, ((q 0 1).map Value.string)[j]? = some u → w3.cell? ⟨g, j, none⟩ = some u) := fun j u hu => by
                have h1 := A4.out.row.cells rfl j u hu
                rw [Addr.add_lit] at h1
                simpa using h1
              have r0 : w3.cell? ⟨g, k, none⟩ = some (.string (q 0 1)[k]) := hcell.out k _ (by rw [List.getElem?_map, List.getElem?_eq_getElem hk]; rfl)
              obtain ⟨mm, hmm⟩ : ∃ mm, (q 0 1)[k] = mm := ⟨_, rfl⟩
              rw [hmm] at r0
              have HMM := hide (show msgQ q ((0 : Nat) : Int) ((1 : Nat) : Int) (k : Int) = mm from (msg_own hk).trans hmm)
              clear n4 NN hmm
              have hkc : (q 0 1).length ≤ oc ∧ oc ≤ 9223372036854775807 := by
                rcases A4.out.row.2 with ⟨h0, _⟩ | ⟨_, _, _, h1, _, _, h4, h5, _⟩
                · cases h0
                · cases h1; exact ⟨h4, by simpa [maxLen] using h5⟩
              obtain ⟨AD, hAD, hA2⟩ := tail_at hcell.out hkc.1 hk
              have HA2 := hide hA2
              have HN1 := hide (head_at (k := k) hcell.out)
              have hl1 := hide (show (((q 0 1).take k).map Value.string).length = k * 1 by rw [List.length_map, List.length_take]; omega)
              have hl2 := hide (show (((q 0 1).drop (k + 1)).map Value.string).length = ((q 0 1).length - (k + 1)) * 1 by rw [List.length_map, List.length_drop]; omega)
              have hbw : W.heap.size ≤ w3.heap.size := A4.out.below.size
              have hkc1 : k + 1 ≤ oc := by omega
              have hkc2 : k ≤ oc := by omega
              have hkc3 : k + 1 ≤ (q 0 1).length := by omega
              have hkc4 : (oc : Int) ≤ 9223372036854775807 := by omega
              have hs1 : (0 : Int) ≤ (k : Int) + 1 := by omega
              have hs2 : (k : Int) + 1 ≤ ((q 0 1).length : Int) := by omega
              have hs3 : ((q 0 1).length : Int) ≤ (oc : Int) := by omega
              have hs4 : ((k : Int) + 1).toNat = k + 1 := by omega
              have hs5 : (k : Int) ≤ (oc : Int) := by omega
              have hs6 : (q 0 1).length ≤ oc := hkc.1
              have hs7 : oc ≤ 9223372036854775807 := hkc.2
              have hs8 : IntKind.i64.wrap ((k : Int) + 1) = (k : Int) + 1 := by rw [IntKind.wrap_i64]; omega
              have hs9 : ¬ ((k : Int) + 1 < 0) := by omega
              have hs10 : ¬ (((q 0 1).length : Int) < (k : Int) + 1) := by omega
              have hD3 : w3.heap[D0]? = some (.cells (deedC ⟨vk, va, vc, k, vs⟩) 32 (0, 0)) := A4.out.deed
              have HD3 := hide hD3
              clear hA2 hD3
              go_upto_region 16 with fail
              go_region_held_law (fun w' => w'.cell? ⟨D0, 3, none⟩ = some (.int .i64 k)) (go_keep) (first
                | (refine step_append_at rfl _ _ 41 rfl W.heap.size 9 i0 _ 1 16 Try.underlying41 hi0 hz0 hz1 hz2 rfl (by omega) (.slice none 0 0) 0 [] rfl (World.ownsRow_nil _ _ _ _) ⟨g, 0, none⟩ k oc (((q 0 1).take k).map .string) rfl hl1.out HN1.out (one_strs _) (by unfold maxLen; omega) (by omega) hbw ?_; intro a5 c5 w5 hown5 hgrow5 hloc5; have y5 : w5.cell? ⟨D0, 3, none⟩ = some (.int .i64 k) := hgrow5.cell (w := w3.drew) y3 (by simp [Value.ownBlock]))
                | (refine step_append_at rfl _ _ 41 rfl W.heap.size 9 i0 _ 1 16 Try.underlying41 hi0 hz0 hz1 hz2 rfl (by omega) (.slice a5 (0 + k) c5) (0 + k) ([] ++ ((q 0 1).take k).map .string) (by rfl) hown5 AD ((q 0 1).length - (k + 1)) (oc - (k + 1)) (((q 0 1).drop (k + 1)).map .string) (by rfl) hl2.out (HA2.out _ hgrow5) (one_strs _) (by unfold maxLen; omega) (by omega) (by have h := hgrow5.size; exact Nat.le_trans hbw h) ?_; intro a6 c6 w6 hown6 hgrow6 hloc6; have y6 : w6.cell? ⟨D0, 3, none⟩ = some (.int .i64 k) := hgrow6.cell y5 (by rcases hloc5 with h | h <;> rw [h] <;> simp [Value.ownBlock] <;> omega)))
              all_goals (
                have hne6 : 0 + k + ((q 0 1).length - (k + 1)) = (q 0 1).length - 1 := by omega
                have hne7 : k + ((q 0 1).length - (k + 1)) = (q 0 1).length - 1 := by omega
                have hel : (lessQ q ((0 : Nat) : Int) ((1 : Nat) : Int) (k : Int) 0 1).length = (q 0 1).length - 1 := by rw [less_own, show ((k : Int).toNat) = k by omega, List.length_eraseIdx_of_lt hk]
                have AE := hide (A4.out.removed (by rw [less_own, show ((k : Int).toNat) = k by omega]) hk hgrow5 hloc5 hown6 hne6 hgrow6 hloc6)
                rw [hne6] at AE
                have HEL := hide hel
                have HL2 := hide (HLN.out _ AE.out ((q 0 1).length - 1) hel)
                clear hel hne6
                go_wp2_with fail
                refine HL2.out.mono ?_
                rintro e wl ⟨rfl, hw⟩
                obtain rfl := hw.symm
                clear hw
                go_wp2_with fail
                go_roundw
                case rel => exact ⟨i + 1, lessQ q ((0 : Nat) : Int) ((1 : Nat) : Int) (k : Int), a6, c6, by rw [HEL.out], by go_num, by omega, by rw [HEL.out]; exact AE⟩
                case measure => simp [intOf]; omega)
            · have n4 := NN.out
              rw [if_neg (fun h => hr (has_own.1 h))] at n4
              rw [decide_eq_false (fun h => hr (has_own.1 h))]
              have A4 := hide (A3.out.call n4 T3.out)
              obtain ⟨y3, y4⟩ := HX.out _ A4.out
              have AE := hide (A4.out.stay rfl)
              have HL2 := hide (HLN.out _ AE.out (q 0 1).length rfl)
              clear n4 NN
              go_wp2_with fail
              refine HL2.out.mono ?_
              rintro e wl ⟨rfl, hw⟩
              obtain rfl := hw.symm
              clear hw
              go_wp2_with fail
              go_roundw
              case rel => exact ⟨i + 1, q, oa, oc, rfl, by go_num, by omega, AE⟩
              case measure => simp [intOf]; omega
        · have e2 : ((C : Int) == 1) = false := by simp; omega
          have HO : Hid (¬ (P = 0 ∧ C = 1)) := fun h => hC1 h.2
          clear hP0 hC1
          go_wp2_with fail
          refine (HPK.out _).mono ?_
          rintro e wp ⟨rfl, hw⟩
          obtain rfl := hw.symm
          clear hw
          rcases hK4 with rfl | rfl | rfl | rfl
          · skip
            go_wp2_with fail
            refine (A3.out.net.send A3.out.far IP.out IC.out vs (by have := hos; omega)).mono ?_
            rintro e w3 ⟨rfl, n3, t3⟩
            have hqe : (if roomQ 3 q P C then moreQ q P C vs else q) 0 1 = q 0 1 := by
              split
              · exact more_other _ HO.out
              · rfl
            generalize (if roomQ 3 q P C then moreQ q P C vs else q) = q3 at n3 hqe
            have A4 := hide (A3.out.call n3 t3)
            have HQ := hide hqe
            clear n3 t3 hqe x0 x3 x4
            generalize decide (roomQ 3 q P C) = okb
            have AE := hide (A4.out.stay HQ.out)
            have HL2 := hide (HLN.out _ AE.out (q 0 1).length (by rw [HQ.out]))
            go_wp2_with fail
            refine HL2.out.mono ?_
            rintro e wl ⟨rfl, hw⟩
            obtain rfl := hw.symm
            clear hw
            go_wp2_with fail
            go_roundw
            case rel => exact ⟨i + 1, q3, oa, oc, by rw [HQ.out], by go_num, by omega, by have h := AE.out; rw [← HQ.out] at h; exact h⟩
            case measure => simp [intOf]; omega
          · skip
            go_wp2_with fail
            refine (A3.out.net.take A3.out.far IP.out IC.out vi).mono ?_
            rintro e w3 ⟨rfl, n3, t3⟩
            have hqe : (if takesQ 3 0 q P C vi then lessQ q P C vi else q) 0 1 = q 0 1 := by
              split
              · exact less_other _ HO.out
              · rfl
            generalize (if takesQ 3 0 q P C vi then lessQ q P C vi else q) = q3 at n3 hqe
            have A4 := hide (A3.out.call n3 t3)
            have HQ := hide hqe
            clear n3 t3 hqe x0 x3 x4
            generalize decide (takesQ 3 0 q P C vi) = okb
            generalize (if takesQ 3 0 q P C vi then msgQ q P C vi else ⟨#[]⟩) = okm
            go_wp2_with fail
            go_roundw
            case rel => exact ⟨i + 1, q3, oa, oc, by rw [HQ.out], by go_num, by omega, by have h := A4.out.stay HQ.out; rw [← HQ.out] at h; exact h⟩
            case measure => simp [intOf]; omega
          · skip
            go_wp2_with fail
            refine (A3.out.net.double A3.out.far IP.out IC.out vi).mono ?_
            rintro e w3 ⟨rfl, n3, t3⟩
            have hqe : (if doublesQ 3 q P C vi then moreQ q P C (msgQ q P C vi) else q) 0 1 = q 0 1 := by
              split
              · exact more_other _ HO.out
              · rfl
            generalize (if doublesQ 3 q P C vi then moreQ q P C (msgQ q P C vi) else q) = q3 at n3 hqe
            have A4 := hide (A3.out.call n3 t3)
            have HQ := hide hqe
            clear n3 t3 hqe x0 x3 x4
            generalize decide (doublesQ 3 q P C vi) = okb
            have AE := hide (A4.out.stay HQ.out)
            have HL2 := hide (HLN.out _ AE.out (q 0 1).length (by rw [HQ.out]))
            go_wp2_with fail
            refine HL2.out.mono ?_
            rintro e wl ⟨rfl, hw⟩
            obtain rfl := hw.symm
            clear hw
            go_wp2_with fail
            go_roundw
            case rel => exact ⟨i + 1, q3, oa, oc, by rw [HQ.out], by go_num, by omega, by have h := AE.out; rw [← HQ.out] at h; exact h⟩
            case measure => simp [intOf]; omega
          · skip
            go_wp2_with fail
            refine (A3.out.net.drop A3.out.far IP.out IC.out vi).mono ?_
            rintro e w3 ⟨rfl, n3, t3⟩
            have hqe : (if hasQ 3 q P C vi then lessQ q P C vi else q) 0 1 = q 0 1 := by
              split
              · exact less_other _ HO.out
              · rfl
            generalize (if hasQ 3 q P C vi then lessQ q P C vi else q) = q3 at n3 hqe
            have A4 := hide (A3.out.call n3 t3)
            have HQ := hide hqe
            clear n3 t3 hqe x0 x3 x4
            generalize decide (hasQ 3 q P C vi) = okb
            have AE := hide (A4.out.stay HQ.out)
            have HL2 := hide (HLN.out _ AE.out (q 0 1).length (by rw [HQ.out]))
            go_wp2_with fail
            refine HL2.out.mono ?_
            rintro e wl ⟨rfl, hw⟩
            obtain rfl := hw.symm
            clear hw
            go_wp2_with fail
            go_roundw
            case rel => exact ⟨i + 1, q3, oa, oc, by rw [HQ.out], by go_num, by omega, by have h := AE.out; rw [← HQ.out] at h; exact h⟩
            case measure => simp [intOf]; omega
      · have e1 : ((P : Int) == 0) = false := by simp; omega
        have HO : Hid (¬ (P = 0 ∧ C = 1)) := fun h => hP0 h.1
        clear hP0
        go_wp2_with fail
        refine (HPK.out _).mono ?_
        rintro e wp ⟨rfl, hw⟩
        obtain rfl := hw.symm
        clear hw
        rcases hK4 with rfl | rfl | rfl | rfl
        · skip
          go_wp2_with fail
          refine (A3.out.net.send A3.out.far IP.out IC.out vs (by have := hos; omega)).mono ?_
          rintro e w3 ⟨rfl, n3, t3⟩
          have hqe : (if roomQ 3 q P C then moreQ q P C vs else q) 0 1 = q 0 1 := by
            split
            · exact more_other _ HO.out
            · rfl
          generalize (if roomQ 3 q P C then moreQ q P C vs else q) = q3 at n3 hqe
          have A4 := hide (A3.out.call n3 t3)
          have HQ := hide hqe
          clear n3 t3 hqe x0 x3 x4
          generalize decide (roomQ 3 q P C) = okb
          have AE := hide (A4.out.stay HQ.out)
          have HL2 := hide (HLN.out _ AE.out (q 0 1).length (by rw [HQ.out]))
          go_wp2_with fail
          refine HL2.out.mono ?_
          rintro e wl ⟨rfl, hw⟩
          obtain rfl := hw.symm
          clear hw
          go_wp2_with fail
          go_roundw
          case rel => exact ⟨i + 1, q3, oa, oc, by rw [HQ.out], by go_num, by omega, by have h := AE.out; rw [← HQ.out] at h; exact h⟩
          case measure => simp [intOf]; omega
        · skip
          go_wp2_with fail
          refine (A3.out.net.take A3.out.far IP.out IC.out vi).mono ?_
          rintro e w3 ⟨rfl, n3, t3⟩
          have hqe : (if takesQ 3 0 q P C vi then lessQ q P C vi else q) 0 1 = q 0 1 := by
            split
            · exact less_other _ HO.out
            · rfl
          generalize (if takesQ 3 0 q P C vi then lessQ q P C vi else q) = q3 at n3 hqe
          have A4 := hide (A3.out.call n3 t3)
          have HQ := hide hqe
          clear n3 t3 hqe x0 x3 x4
          generalize decide (takesQ 3 0 q P C vi) = okb
          generalize (if takesQ 3 0 q P C vi then msgQ q P C vi else ⟨#[]⟩) = okm
          go_wp2_with fail
          go_roundw
          case rel => exact ⟨i + 1, q3, oa, oc, by rw [HQ.out], by go_num, by omega, by have h := A4.out.stay HQ.out; rw [← HQ.out] at h; exact h⟩
          case measure => simp [intOf]; omega
        · skip
          go_wp2_with fail
          refine (A3.out.net.double A3.out.far IP.out IC.out vi).mono ?_
          rintro e w3 ⟨rfl, n3, t3⟩
          have hqe : (if doublesQ 3 q P C vi then moreQ q P C (msgQ q P C vi) else q) 0 1 = q 0 1 := by
            split
            · exact more_other _ HO.out
            · rfl
          generalize (if doublesQ 3 q P C vi then moreQ q P C (msgQ q P C vi) else q) = q3 at n3 hqe
          have A4 := hide (A3.out.call n3 t3)
          have HQ := hide hqe
          clear n3 t3 hqe x0 x3 x4
          generalize decide (doublesQ 3 q P C vi) = okb
          have AE := hide (A4.out.stay HQ.out)
          have HL2 := hide (HLN.out _ AE.out (q 0 1).length (by rw [HQ.out]))
          go_wp2_with fail
          refine HL2.out.mono ?_
          rintro e wl ⟨rfl, hw⟩
          obtain rfl := hw.symm
          clear hw
          go_wp2_with fail
          go_roundw
          case rel => exact ⟨i + 1, q3, oa, oc, by rw [HQ.out], by go_num, by omega, by have h := AE.out; rw [← HQ.out] at h; exact h⟩
          case measure => simp [intOf]; omega
        · skip
          go_wp2_with fail
          refine (A3.out.net.drop A3.out.far IP.out IC.out vi).mono ?_
          rintro e w3 ⟨rfl, n3, t3⟩
          have hqe : (if hasQ 3 q P C vi then lessQ q P C vi else q) 0 1 = q 0 1 := by
            split
            · exact less_other _ HO.out
            · rfl
          generalize (if hasQ 3 q P C vi then lessQ q P C vi else q) = q3 at n3 hqe
          have A4 := hide (A3.out.call n3 t3)
          have HQ := hide hqe
          clear n3 t3 hqe x0 x3 x4
          generalize decide (hasQ 3 q P C vi) = okb
          have AE := hide (A4.out.stay HQ.out)
          have HL2 := hide (HLN.out _ AE.out (q 0 1).length (by rw [HQ.out]))
          go_wp2_with fail
          refine HL2.out.mono ?_
          rintro e wl ⟨rfl, hw⟩
          obtain rfl := hw.symm
          clear hw
          go_wp2_with fail
          go_roundw
          case rel => exact ⟨i + 1, q3, oa, oc, by rw [HQ.out], by go_num, by omega, by have h := AE.out; rw [← HQ.out] at h; exact h⟩
          case measure => simp [intOf]; omega
    · have BF := hide (BE.out.trans (R.out.below.mono BE.out.size))
      by_cases hl1 : i < l.length
      · have hi1 : (i : Int) < (l.length : Int) := by omega
        have hi2 : ¬ (i : Int) < 200 := by omega
        go_wp2
        go_ret
        exact ⟨rfl, BF.out⟩
      · have hi1 : ¬ (i : Int) < (l.length : Int) := by omega
        go_wp2
        go_ret
        exact ⟨rfl, BF.out⟩

end Go.Proofs.Ytfldflecelagjaa
