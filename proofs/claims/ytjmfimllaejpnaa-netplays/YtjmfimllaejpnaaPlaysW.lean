/-
  NetPlays, as it runs.
-/
import Derived.Test.YtjmfimllaejpnaaY8
import Derived.Lib.QuietBelow
namespace Go.Proofs.Ytjmfimllaejpnaa
open Go.RowKit Go.Maps

set_option maxRecDepth 100000
set_option maxHeartbeats 8000000
theorem plays_walk (n0 : Int) (ao : Option Addr) (cp : Nat) (l : List Dd) (w : World) (hn : In64 n0) (hcm : Deeds w ao l) :
    Calls Try.prog 3 #[.int .i64 n0, .slice ao l.length cp] w fun e w' => e = .returned (.bool true) ∧ Below w.heap.size w w' := by
  have HE := hide (examples_any w)
  have HCM := hide hcm
  have hlen := hcm.len
  clear hcm
  by_cases hr : 1 ≤ n0 ∧ n0 ≤ 7
  · obtain ⟨N, rfl⟩ : ∃ N : Nat, n0 = N := ⟨n0.toNat, by omega⟩
    have hN : 1 ≤ N ∧ N ≤ 7 := by omega
    clear hr hn
    go_enter Try.func3, Try.ntmps3
    go_wp2_with fail
    refine HE.out.mono ?_
    rintro e w0 ⟨rfl, be⟩
    have BE := hide be
    clear be HE
    go_wp2_with fail
    refine (Net.new N w0 hN).mono ?_
    rintro e w1 ⟨b, rfl, n1, b1⟩
    have N1 := hide n1
    have B1 := hide b1
    clear n1 b1
    go_wp2_with fail
    refine (ynew_ok N w1 hN).mono ?_
    rintro e w2 ⟨yb, Y, rfl, y1, b2, o2⟩
    have R0 : Hid (Both w0 b yb N 0 (fun _ _ => []) Y w2) := ⟨N1.out.nt.move (own := fun _ => False) (Touch.of_below b2) (fun _ _ e => e.elim) (fun j e => e.elim (fun h => .inl h) fun h => .inr (o2 j h)), y1, fun j hj => Nat.le_trans B1.out.size (o2 j hj), B1.out.trans (b2.mono B1.out.size)⟩
    clear y1 b2 o2 N1 B1
    have HNO := hide R0.out.net.nodes
    go_wp2_with fail
    refine HNO.out.mono ?_
    rintro e w3 ⟨rfl, hw⟩
    obtain rfl := hw.symm
    clear hw HNO
    go_wp2
    go_loopw [9] (fun iv wv => ∃ (i : Nat) (s : Int) (q : Qs) (Y : YG), iv = .int .i64 i ∧ i ≤ 300 ∧ Hid (Both w0 b yb N s q Y wv)) (fun iv _ => 300 - (intOf iv).toNat)
    case atStart => exact ⟨0, 0, _, Y, rfl, Nat.zero_le _, R0⟩
    case round =>
      clear R0
      obtain ⟨i, s, q, Y, rfl, hi, R⟩ := hrel
      by_cases hlt : i < l.length ∧ i < 300
      · obtain ⟨hl1, hl2⟩ := hlt
        have hdd := HCM.out.all.below (BE.out.trans (R.out.below.mono BE.out.size)) i hl1
        have hok := HCM.out.ok l[i] (List.getElem_mem hl1)
        obtain ⟨kb, off, rfl, hkb, d0, d1, d2, d3, d4⟩ := hdd
        have R2 := hide (R.out.deed l[i])
        have hi0 : (0 : Int) ≤ (i : Int) := by omega
        have hi1 : (i : Int) < (l.length : Int) := by omega
        have hi2 : (i : Int) < 300 := by omega
        generalize l[i] = o at *
        obtain ⟨vk, va, vc, vi, vs⟩ := o
        obtain ⟨okk, oka, okc, oki, oks⟩ := hok
        simp only at d0 d1 d2 d3 d4 okk oka okc oki oks
        have rk := pickZ_range vk 7 (by omega)
        have HPK := hide (fun w => pick_any vk 7 w okk (by omega))
        generalize pickZ vk 7 = kk at *
        go_wp2_with fail
        refine (HPK.out _).mono ?_
        rintro e wp ⟨rfl, hw⟩
        obtain rfl := hw.symm
        clear hw HPK d0 d1 d2 d3 d4 R
        have R3 : Hid (Two w0 b yb N s q s q wr.heap.size ⟨vk, va, vc, vi, vs⟩ Y (wr.alloc (.cells #[.int .i64 vk, .int .i64 va, .int .i64 vc, .int .i64 vi, .string vs] 32))) := R2.out
        clear R2
        generalize wr.heap.size = D0 at *
        generalize wr.alloc (.cells #[.int .i64 vk, .int .i64 va, .int .i64 vc, .int .i64 vi, .string vs] 32) = w3 at *
        have IA := hide oka
        have IC := hide okc
        have II := hide oki
        have HX : Hid (∀ {s1 s2 : Int} {q1 q2 : Qs} {Y1 : YG} {wx : World}, Two w0 b yb N s1 q1 s2 q2 D0 ⟨vk, va, vc, vi, vs⟩ Y1 wx → wx.cell? ⟨D0, 1, none⟩ = some (.int .i64 va) ∧ wx.cell? ⟨D0, 2, none⟩ = some (.int .i64 vc) ∧ wx.cell? ⟨D0, 3, none⟩ = some (.int .i64 vi) ∧ wx.cell? ⟨D0, 4, none⟩ = some (.string vs)) := fun h => h.cells.2
        obtain ⟨x1, x2, x3, x4⟩ := HX.out R3.out
        clear oka okc oki okk hkb
        rename_i K1 a1 K0 a0
        have A1 := hide a1
        clear a1
        go_wp2_with fail
        refine A1.out _ _ ?_
        clear A1
        go_cut [11] (fun gv wx => gv = .bool true ∧ ∃ (s : Int) (q : Qs) (Y : YG), Hid (Two w0 b yb N s q s q D0 ⟨vk, va, vc, vi, vs⟩ Y wx))
        case first =>
          by_cases h0 : kk = 0
          · subst h0
            clear rk
            have HK1 := hide (enters_of Try.func9 (by kernel_rfl) rfl)
            have HK2 := hide (enters_of Try.func10 (by kernel_rfl) rfl)
            have HP1 : Hid (∀ wx, Two w0 b yb N s q s q D0 ⟨vk, va, vc, vi, vs⟩ Y wx → Calls Try.prog 9 #[.pointer (some ⟨b, 0, none⟩), .int .i64 va, .int .i64 vc, .string vs] wx fun e w' => e = .returned (.bool (decide (roomQ N q va vc))) ∧ Two w0 b yb N s (if roomQ N q va vc then moreQ q va vc vs else q) s q D0 ⟨vk, va, vc, vi, vs⟩ Y w') := fun wx h => psend h IA.out IC.out vs (by omega)
            have HR1 : Hid (∀ wx, Two w0 b yb N s (if roomQ N q va vc then moreQ q va vc vs else q) s q D0 ⟨vk, va, vc, vi, vs⟩ Y wx → Calls Try.prog 10 #[.pointer (some ⟨yb, 0, none⟩), .int .i64 va, .int .i64 vc, .string vs] wx fun e w' => e = .returned (.bool (decide (roomQ N q va vc))) ∧ ∃ Y', Two w0 b yb N s (if roomQ N q va vc then moreQ q va vc vs else q) s (if roomQ N q va vc then moreQ q va vc vs else q) D0 ⟨vk, va, vc, vi, vs⟩ Y' w') := fun wx h => rsend h va vc vs
            generalize (decide (roomQ N q va vc)) = bb at HP1 HR1
            generalize hQQ : (if roomQ N q va vc then moreQ q va vc vs else q) = qq at HP1 HR1
            clear hQQ
            go_wp2_with fail
            go_region_held_law (fun w' => w'.cell? ⟨D0, 1, none⟩ = some (.int .i64 va) ∧ w'.cell? ⟨D0, 2, none⟩ = some (.int .i64 vc) ∧ w'.cell? ⟨D0, 4, none⟩ = some (.string vs)) (first | go_keep | exact ⟨z1, z2, z4⟩ | exact ⟨y1, y2, y4⟩) (first
              | (refine step_fn_d (by rfl) 86 (by rfl) 9 _ _ (by rfl) HK1.out [.pointer (some ⟨b, 0, none⟩), .int .i64 va, .int .i64 vc, .string vs] rfl (HP1.out _ (by first | exact R3.out | exact R3.out.drew)) ?_; rintro e w4 ⟨rfl, t4⟩; refine ⟨_, rfl, ?_⟩; have R4 := hide t4; obtain ⟨z1, z2, z3, z4⟩ := HX.out R4.out; clear t4)
              | (refine step_fn_d (by rfl) 94 (by rfl) 10 _ _ (by rfl) HK2.out [.pointer (some ⟨yb, 0, none⟩), .int .i64 va, .int .i64 vc, .string vs] rfl (HR1.out _ (by first | exact R4.out | exact R4.out.drew)) ?_; rintro e w5 ⟨rfl, Y5, t5⟩; refine ⟨_, rfl, ?_⟩; have R5 := hide t5; obtain ⟨y1, y2, y3, y4⟩ := HX.out R5.out; clear t5))
            all_goals (
              clear HP1 HR1 HK1 HK2 R3 R4 z1 z2 z3 z4 x1 x2 x3 x4
              go_wp2_with fail
              go_meet
              case rel => exact ⟨by simp, s, _, _, R5⟩)
          · have g0 : (kk == 0) = false := by rw [beq_eq_false_iff_ne]; exact h0
            by_cases h1 : kk = 1
            · subst h1
              clear rk
              have HP1 : Hid (∀ wx, Two w0 b yb N s q s q D0 ⟨vk, va, vc, vi, vs⟩ Y wx → Calls Try.prog 11 #[.pointer (some ⟨b, 0, none⟩), .int .i64 va, .int .i64 vc, .int .i64 vi] wx fun e w' => e = .returned (.tuple #[.string (if takesQ N s q va vc vi then msgQ q va vc vi else ⟨#[]⟩), .bool (decide (takesQ N s q va vc vi))]) ∧ Two w0 b yb N s (if takesQ N s q va vc vi then lessQ q va vc vi else q) s q D0 ⟨vk, va, vc, vi, vs⟩ Y w') := fun wx h => ptake h IA.out IC.out vi
              have HR1 : Hid (∀ wx, Two w0 b yb N s (if takesQ N s q va vc vi then lessQ q va vc vi else q) s q D0 ⟨vk, va, vc, vi, vs⟩ Y wx → Calls Try.prog 12 #[.pointer (some ⟨yb, 0, none⟩), .int .i64 va, .int .i64 vc, .int .i64 vi] wx fun e w' => e = .returned (.tuple #[.string (if takesQ N s q va vc vi then msgQ q va vc vi else ⟨#[]⟩), .bool (decide (takesQ N s q va vc vi))]) ∧ ∃ Y', Two w0 b yb N s (if takesQ N s q va vc vi then lessQ q va vc vi else q) s (if takesQ N s q va vc vi then lessQ q va vc vi else q) D0 ⟨vk, va, vc, vi, vs⟩ Y' w') := fun wx h => rtake h va vc vi
              generalize (if takesQ N s q va vc vi then lessQ q va vc vi else q) = qq at HP1 HR1
              generalize (if takesQ N s q va vc vi then msgQ q va vc vi else ⟨#[]⟩) = mm at HP1 HR1
              generalize (decide (takesQ N s q va vc vi)) = bb at HP1 HR1
              go_wp2_with fail
              refine (HP1.out _ R3.out).mono ?_
              rintro e w4 ⟨rfl, t4⟩
              have R4 := hide t4
              obtain ⟨z1, z2, z3, z4⟩ := HX.out R4.out
              clear t4 R3 x1 x2 x3 x4
              go_wp2_with fail
              refine (HR1.out _ R4.out).mono ?_
              rintro e w5 ⟨rfl, Y5, t5⟩
              have R5 := hide t5
              clear t5 R4 z1 z2 z3 z4 HP1 HR1
              go_wp2
              go_meet
              case rel => exact ⟨by simp, s, qq, Y5, R5⟩
            · have g1 : (kk == 1) = false := by rw [beq_eq_false_iff_ne]; exact h1
              by_cases h2 : kk = 2
              · subst h2
                clear rk
                have HK1 := hide (enters_of Try.func13 (by kernel_rfl) rfl)
                have HK2 := hide (enters_of Try.func14 (by kernel_rfl) rfl)
                have HP1 : Hid (∀ wx, Two w0 b yb N s q s q D0 ⟨vk, va, vc, vi, vs⟩ Y wx → Calls Try.prog 13 #[.pointer (some ⟨b, 0, none⟩), .int .i64 va, .int .i64 vc, .int .i64 vi] wx fun e w' => e = .returned (.bool (decide (hasQ N q va vc vi))) ∧ Two w0 b yb N s (if hasQ N q va vc vi then lessQ q va vc vi else q) s q D0 ⟨vk, va, vc, vi, vs⟩ Y w') := fun wx h => pdrop h IA.out IC.out vi
                have HR1 : Hid (∀ wx, Two w0 b yb N s (if hasQ N q va vc vi then lessQ q va vc vi else q) s q D0 ⟨vk, va, vc, vi, vs⟩ Y wx → Calls Try.prog 14 #[.pointer (some ⟨yb, 0, none⟩), .int .i64 va, .int .i64 vc, .int .i64 vi] wx fun e w' => e = .returned (.bool (decide (hasQ N q va vc vi))) ∧ ∃ Y', Two w0 b yb N s (if hasQ N q va vc vi then lessQ q va vc vi else q) s (if hasQ N q va vc vi then lessQ q va vc vi else q) D0 ⟨vk, va, vc, vi, vs⟩ Y' w') := fun wx h => rdrop h va vc vi
                generalize (decide (hasQ N q va vc vi)) = bb at HP1 HR1
                generalize hQQ : (if hasQ N q va vc vi then lessQ q va vc vi else q) = qq at HP1 HR1
                clear hQQ
                go_wp2_with fail
                go_region_held_law (fun w' => w'.cell? ⟨D0, 1, none⟩ = some (.int .i64 va) ∧ w'.cell? ⟨D0, 2, none⟩ = some (.int .i64 vc) ∧ w'.cell? ⟨D0, 3, none⟩ = some (.int .i64 vi)) (first | go_keep | exact ⟨z1, z2, z3⟩ | exact ⟨y1, y2, y3⟩) (first
                  | (refine step_fn_d (by rfl) 137 (by rfl) 13 _ _ (by rfl) HK1.out [.pointer (some ⟨b, 0, none⟩), .int .i64 va, .int .i64 vc, .int .i64 vi] rfl (HP1.out _ (by first | exact R3.out | exact R3.out.drew)) ?_; rintro e w4 ⟨rfl, t4⟩; refine ⟨_, rfl, ?_⟩; have R4 := hide t4; obtain ⟨z1, z2, z3, z4⟩ := HX.out R4.out; clear t4)
                  | (refine step_fn_d (by rfl) 145 (by rfl) 14 _ _ (by rfl) HK2.out [.pointer (some ⟨yb, 0, none⟩), .int .i64 va, .int .i64 vc, .int .i64 vi] rfl (HR1.out _ (by first | exact R4.out | exact R4.out.drew)) ?_; rintro e w5 ⟨rfl, Y5, t5⟩; refine ⟨_, rfl, ?_⟩; have R5 := hide t5; obtain ⟨y1, y2, y3, y4⟩ := HX.out R5.out; clear t5))
                all_goals (
                  clear HP1 HR1 HK1 HK2 R3 R4 z1 z2 z3 z4 x1 x2 x3 x4
                  go_wp2_with fail
                  go_meet
                  case rel => exact ⟨by simp, s, _, _, R5⟩)
              · have g2 : (kk == 2) = false := by rw [beq_eq_false_iff_ne]; exact h2
                by_cases h3 : kk = 3
                · subst h3
                  clear rk
                  have HK1 := hide (enters_of Try.func15 (by kernel_rfl) rfl)
                  have HK2 := hide (enters_of Try.func16 (by kernel_rfl) rfl)
                  have HP1 : Hid (∀ wx, Two w0 b yb N s q s q D0 ⟨vk, va, vc, vi, vs⟩ Y wx → Calls Try.prog 15 #[.pointer (some ⟨b, 0, none⟩), .int .i64 va, .int .i64 vc, .int .i64 vi] wx fun e w' => e = .returned (.bool (decide (doublesQ N q va vc vi))) ∧ Two w0 b yb N s (if doublesQ N q va vc vi then moreQ q va vc (msgQ q va vc vi) else q) s q D0 ⟨vk, va, vc, vi, vs⟩ Y w') := fun wx h => pdouble h IA.out IC.out vi
                  have HR1 : Hid (∀ wx, Two w0 b yb N s (if doublesQ N q va vc vi then moreQ q va vc (msgQ q va vc vi) else q) s q D0 ⟨vk, va, vc, vi, vs⟩ Y wx → Calls Try.prog 16 #[.pointer (some ⟨yb, 0, none⟩), .int .i64 va, .int .i64 vc, .int .i64 vi] wx fun e w' => e = .returned (.bool (decide (doublesQ N q va vc vi))) ∧ ∃ Y', Two w0 b yb N s (if doublesQ N q va vc vi then moreQ q va vc (msgQ q va vc vi) else q) s (if doublesQ N q va vc vi then moreQ q va vc (msgQ q va vc vi) else q) D0 ⟨vk, va, vc, vi, vs⟩ Y' w') := fun wx h => rdouble h va vc vi
                  generalize (decide (doublesQ N q va vc vi)) = bb at HP1 HR1
                  generalize hQQ : (if doublesQ N q va vc vi then moreQ q va vc (msgQ q va vc vi) else q) = qq at HP1 HR1
                  clear hQQ
                  go_wp2_with fail
                  go_region_held_law (fun w' => w'.cell? ⟨D0, 1, none⟩ = some (.int .i64 va) ∧ w'.cell? ⟨D0, 2, none⟩ = some (.int .i64 vc) ∧ w'.cell? ⟨D0, 3, none⟩ = some (.int .i64 vi)) (first | go_keep | exact ⟨z1, z2, z3⟩ | exact ⟨y1, y2, y3⟩) (first
                    | (refine step_fn_d (by rfl) 156 (by rfl) 15 _ _ (by rfl) HK1.out [.pointer (some ⟨b, 0, none⟩), .int .i64 va, .int .i64 vc, .int .i64 vi] rfl (HP1.out _ (by first | exact R3.out | exact R3.out.drew)) ?_; rintro e w4 ⟨rfl, t4⟩; refine ⟨_, rfl, ?_⟩; have R4 := hide t4; obtain ⟨z1, z2, z3, z4⟩ := HX.out R4.out; clear t4)
                    | (refine step_fn_d (by rfl) 164 (by rfl) 16 _ _ (by rfl) HK2.out [.pointer (some ⟨yb, 0, none⟩), .int .i64 va, .int .i64 vc, .int .i64 vi] rfl (HR1.out _ (by first | exact R4.out | exact R4.out.drew)) ?_; rintro e w5 ⟨rfl, Y5, t5⟩; refine ⟨_, rfl, ?_⟩; have R5 := hide t5; obtain ⟨y1, y2, y3, y4⟩ := HX.out R5.out; clear t5))
                  all_goals (
                    clear HP1 HR1 HK1 HK2 R3 R4 z1 z2 z3 z4 x1 x2 x3 x4
                    go_wp2_with fail
                    go_meet
                    case rel => exact ⟨by simp, s, _, _, R5⟩)
                · have g3 : (kk == 3) = false := by rw [beq_eq_false_iff_ne]; exact h3
                  by_cases h4 : kk = 4
                  · subst h4
                    clear rk
                    go_wp2_with fail
                    refine (pcut R3.out vi II.out).mono ?_
                    rintro e w4 ⟨rfl, t4⟩
                    have R4 := hide t4
                    obtain ⟨z1, z2, z3, z4⟩ := HX.out R4.out
                    clear t4 R3 x1 x2 x3 x4
                    go_wp2_with fail
                    refine (rcut R4.out vi II.out).mono ?_
                    rintro e w5 ⟨rfl, t5⟩
                    have R5 := hide t5
                    clear t5 R4 z1 z2 z3 z4
                    go_wp2
                    go_meet
                    case rel => exact ⟨rfl, _, q, Y, R5⟩
                  · have g4 : (kk == 4) = false := by rw [beq_eq_false_iff_ne]; exact h4
                    by_cases h5 : kk = 5
                    · subst h5
                      clear rk
                      go_wp2_with fail
                      refine (pclear R3.out va).mono ?_
                      rintro e w4 ⟨rfl, t4⟩
                      have R4 := hide t4
                      obtain ⟨z1, z2, z3, z4⟩ := HX.out R4.out
                      clear t4 R3 x1 x2 x3 x4
                      go_wp2_with fail
                      refine (rclear R4.out va).mono ?_
                      rintro e w5 ⟨rfl, Y5, t5⟩
                      have R5 := hide t5
                      clear t5 R4 z1 z2 z3 z4
                      go_wp2
                      go_meet
                      case rel => exact ⟨rfl, s, _, Y5, R5⟩
                    · have g5 : (kk == 5) = false := by rw [beq_eq_false_iff_ne]; exact h5
                      have HK1 := hide (enters_of Try.func21 (by kernel_rfl) rfl)
                      have HK2 := hide (enters_of Try.func22 (by kernel_rfl) rfl)
                      have HP1 : Hid (∀ wx, Two w0 b yb N s q s q D0 ⟨vk, va, vc, vi, vs⟩ Y wx → Calls Try.prog 21 #[.pointer (some ⟨b, 0, none⟩), .int .i64 va, .int .i64 vc] wx fun e w' => e = .returned (.bool (decide (joined N s va vc))) ∧ Two w0 b yb N s q s q D0 ⟨vk, va, vc, vi, vs⟩ Y w') := fun wx h => (pjoined h va vc).mono fun _ _ ⟨he, hb⟩ => ⟨he, h.below2 hb⟩
                      have HR1 : Hid (∀ wx, Two w0 b yb N s q s q D0 ⟨vk, va, vc, vi, vs⟩ Y wx → Calls Try.prog 22 #[.pointer (some ⟨yb, 0, none⟩), .int .i64 va, .int .i64 vc] wx fun e w' => e = .returned (.bool (decide (joined N s va vc))) ∧ Two w0 b yb N s q s q D0 ⟨vk, va, vc, vi, vs⟩ Y w') := fun wx h => (rjoined h va vc).mono fun _ _ ⟨he, hb⟩ => ⟨he, h.below2 hb⟩
                      generalize decide (joined N s va vc) = bb at HP1 HR1
                      go_wp2_with fail
                      go_region_held_law (fun w' => w'.cell? ⟨D0, 1, none⟩ = some (.int .i64 va) ∧ w'.cell? ⟨D0, 2, none⟩ = some (.int .i64 vc)) (first | go_keep | exact ⟨z1, z2⟩ | exact ⟨y1, y2⟩) (first
                        | (refine step_fn_d (by rfl) 69 (by rfl) 21 _ _ (by rfl) HK1.out [.pointer (some ⟨b, 0, none⟩), .int .i64 va, .int .i64 vc] rfl (HP1.out _ (by first | exact R3.out | exact R3.out.drew)) ?_; rintro e w4 ⟨rfl, t4⟩; refine ⟨_, rfl, ?_⟩; have R4 := hide t4; obtain ⟨z1, z2, z3, z4⟩ := HX.out R4.out; clear t4)
                        | (refine step_fn_d (by rfl) 75 (by rfl) 22 _ _ (by rfl) HK2.out [.pointer (some ⟨yb, 0, none⟩), .int .i64 va, .int .i64 vc] rfl (HR1.out _ (by first | exact R4.out | exact R4.out.drew)) ?_; rintro e w5 ⟨rfl, t5⟩; refine ⟨_, rfl, ?_⟩; have R5 := hide t5; obtain ⟨y1, y2, y3, y4⟩ := HX.out R5.out; clear t5))
                      all_goals (
                        clear HP1 HR1 HK1 HK2 R3 R4 z1 z2 z3 z4 x1 x2 x3 x4
                        go_wp2_with fail
                        go_meet
                        case rel => exact ⟨by simp, s, q, Y, R5⟩)
        case rest =>
          obtain ⟨rfl, s4, qq, Y4, R5⟩ := hcut
          clear R3 x1 x2 x3 x4
          obtain ⟨y1, y2, y3, y4⟩ := HX.out R5.out
          have HPL : Hid (∀ wx, Two w0 b yb N s4 qq s4 qq D0 ⟨vk, va, vc, vi, vs⟩ Y4 wx → Calls Try.prog 23 #[.pointer (some ⟨b, 0, none⟩), .int .i64 va, .int .i64 vc] wx fun e w' => e = .returned (.int .i64 (lenQ N qq va vc)) ∧ w' = wx) := fun wx h => plen2 h IA.out IC.out
          have HRL : Hid (∀ wx, Two w0 b yb N s4 qq s4 qq D0 ⟨vk, va, vc, vi, vs⟩ Y4 wx → Calls Try.prog 24 #[.pointer (some ⟨yb, 0, none⟩), .int .i64 va, .int .i64 vc] wx fun e w' => e = .returned (.int .i64 (lenQ N qq va vc)) ∧ w' = wx) := fun wx h => rlen2 h va vc
          generalize lenQ N qq va vc = ll at HPL HRL
          have HK1 := hide (enters_of Try.func23 (by kernel_rfl) rfl)
          have HK2 := hide (enters_of Try.func24 (by kernel_rfl) rfl)
          go_wp2_with fail
          go_region_held_law (fun w' => w'.cell? ⟨D0, 1, none⟩ = some (.int .i64 va) ∧ w'.cell? ⟨D0, 2, none⟩ = some (.int .i64 vc)) (go_keep) (first
            | (refine step_fn_d (by rfl) 194 (by rfl) 23 _ _ (by rfl) HK1.out [.pointer (some ⟨b, 0, none⟩), .int .i64 va, .int .i64 vc] (by rfl) (HPL.out _ (by first | exact R5.out | exact R5.out.drew)) ?_; rintro e w6 ⟨rfl, hw6⟩; subst hw6; refine ⟨_, rfl, ?_⟩)
            | (refine step_fn_d (by rfl) 200 (by rfl) 24 _ _ (by rfl) HK2.out [.pointer (some ⟨yb, 0, none⟩), .int .i64 va, .int .i64 vc] (by rfl) (HRL.out _ (by first | exact R5.out | exact R5.out.drew)) ?_; rintro e w6 ⟨rfl, hw6⟩; subst hw6; refine ⟨_, rfl, ?_⟩))
          all_goals (
            have R6 := hide R5.out.drew.back
            clear y1 y2 y3 y4 HPL HRL HK1 HK2 R5
            go_wp2
            go_roundw
            case rel => exact ⟨i + 1, s4, qq, Y4, by go_num, by omega, R6⟩
            case measure => simp [intOf]; omega)
      · by_cases hl1 : i < l.length
        · have hi1 : (i : Int) < (l.length : Int) := by omega
          have hi2 : ¬ (i : Int) < 300 := by omega
          go_wp2
          go_ret
          exact ⟨rfl, BE.out.trans (R.out.below.mono BE.out.size)⟩
        · have hi1 : ¬ (i : Int) < (l.length : Int) := by omega
          go_wp2
          go_ret
          exact ⟨rfl, BE.out.trans (R.out.below.mono BE.out.size)⟩
  · go_enter Try.func3, Try.ntmps3
    go_wp2_with fail
    refine HE.out.mono ?_
    rintro e w0 ⟨rfl, be⟩
    have BE := hide be
    clear be HE
    go_wp2_with fail
    refine (new_bad n0 w0 hr).mono ?_
    rintro e w1 ⟨rfl, hw⟩
    obtain rfl := hw.symm
    clear hw
    go_wp2_with fail
    refine (ynew_bad n0 _ (by omega)).mono ?_
    rintro e w2 ⟨rfl, hw⟩
    obtain rfl := hw.symm
    clear hw
    go_wp2
    go_ret
    exact ⟨rfl, BE.out⟩
end Go.Proofs.Ytjmfimllaejpnaa
