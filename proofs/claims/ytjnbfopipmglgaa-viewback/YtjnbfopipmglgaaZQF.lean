/-
  The program's Encode (mkqe.py)
-/
import Derived.Test.YtjnbfopipmglgaaZQE
import Derived.Test.YtjnbfopipmglgaaZPN2
import Derived.Test.YtjnbfopipmglgaaZLB1
import Derived.Test.YtjnbfopipmglgaaZKW15
namespace Go.Proofs.Ytjnbfopipmglgaa
open Go.RowKit Go.Shelf

attribute [local go_sem] Oper.semAt_some
set_option linter.unusedSimpArgs false
set_option linter.unusedVariables false

set_option maxRecDepth 100000 in
set_option maxHeartbeats 8000000 in
theorem pencode : EncodeSays := by
  intro x ao cp w hM hl
  have HB := hide ((Below.refl w.heap.size w).alloc (Nat.le_refl _) (.cells #[.int .i64 x.num, .slice ao x.mem.length cp] tView))
  have HD := hide (heap_alloc_new w (.cells #[.int .i64 x.num, .slice ao x.mem.length cp] tView))
  have HP := hide (pright x ao cp _ (hM.below HB.out) hl)
  simp only [VW.v] at HP ⊢
  by_cases hr : x.right
  · rw [if_pos hr, if_pos hr]
    rw [decide_eq_true hr] at HP
    obtain ⟨A', hA'⟩ := rm_list x.mem (mem_right hr)
    have hAl : A'.length = x.mem.length := by rw [← hA', List.length_map]
    have h7 := hr.2.2.2.1
    have hcode : Hid (K.encF (itemsV x) = (codeV x, 0)) := encV hr
    have hit : itemsUpto x.num A' = itemsV x := by unfold itemsUpto itemsV; rw [hA']
    have hil := itemsV_len x
    have HI : Hid (∀ W, MemsAt W ao x.mem → Calls Try.prog 19 #[.agg #[.int .i64 x.num, .slice ao x.mem.length cp]] W fun e w' => ∃ oo oc, e = .returned (.slice oo (itemsV x).length oc) ∧ w'.ownsRow W.heap.size tItem 3 (.slice oo (itemsV x).length oc) (itemsV x).length (itCells (itemsV x)) ∧ Below W.heap.size W w') := fun W h => by
      have := pitems x.num A' ao cp W ⟨hr.1, hr.2.1⟩ (by rw [hA']; exact h) (by omega)
      rw [hAl, hit, ← hil] at this
      exact this
    have HE : Hid (∀ W oo oc, ItsAt W oo (itemsV x) → Calls Try.prog 18 #[.slice oo (itemsV x).length oc] W fun e w' => e = .returned (.tuple #[.string ⟨(codeV x).toArray⟩, .int .i64 0]) ∧ Below W.heap.size W w') := fun W oo oc h => by
      have := K.encode_any oo oc (itemsV x) W h (itemsV_ok hr) (by unfold maxLen; omega)
      rw [hcode.out] at this
      exact this
    have HM := hide hM
    generalize (codeV x).toArray = cd at *
    generalize hq : itemsV x = IV at *
    clear hr hcode hA' hAl hit hil h7 hM hq
    generalize x.mem.length = n at *
    generalize x.num = num at *
    have y0 := box_cell HD.out 0 rfl
    have y1 := box_cell HD.out 1 rfl
    go_enter Try.func6, Try.ntmps6
    go_wp2_with (first
      | (go_at_call 17; refine HP.out.mono ?_; rintro e w2 ⟨rfl, b2⟩; have B2 : Hid (Below w.heap.size w w2) := HB.out.trans (b2.mono HB.out.size); have z0 := (b2.cell (p := ⟨w.heap.size, 0, none⟩) (heap_lt HD.out)).trans y0; have z1 := (b2.cell (p := ⟨w.heap.size, 1, none⟩) (heap_lt HD.out)).trans y1; clear b2)
      | (go_at_call 19; refine (HI.out _ (HM.out.below B2.out)).mono ?_; rintro e w3 ⟨oo, oc, rfl, h3, b3⟩; have R3 := hide (its_of_row h3 rfl); have B3 : Hid (Below w.heap.size w w3) := B2.out.trans (b3.mono B2.out.size); clear b3 h3)
      | (go_at_call 18; refine (HE.out _ _ _ R3.out).mono ?_; rintro e w4 ⟨rfl, b4⟩; have B4 : Hid (Below w.heap.size w w4) := B3.out.trans (b4.mono B3.out.size); clear b4))
    go_ret2
    exact ⟨rfl, B4.out⟩
  · rw [if_neg hr, if_neg hr]
    rw [decide_eq_false hr] at HP
    clear hr hM
    generalize x.mem.length = n at *
    generalize x.num = num at *
    go_enter Try.func6, Try.ntmps6
    go_wp2_with (go_at_call 17; refine HP.out.mono ?_; rintro e w2 ⟨rfl, b2⟩; have B2 : Hid (Below w.heap.size w w2) := HB.out.trans (b2.mono HB.out.size); clear b2)
    go_ret2
    exact ⟨rfl, B2.out⟩
end Go.Proofs.Ytjnbfopipmglgaa
