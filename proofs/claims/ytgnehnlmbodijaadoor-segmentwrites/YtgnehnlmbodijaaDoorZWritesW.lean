/-
  SegmentWrites, as it runs.
-/
import Derived.Test.YtgnehnlmbodijaaDoorZE1
import Derived.Test.YtgnehnlmbodijaaDoorZR1
import Derived.Lib.QuietBelow
namespace Go.Proofs.YtgnehnlmbodijaaDoor
open Go.RowKit

theorem one_any (r : Rec) (hr : r.ok) : ∃ (A : ByteArray) (er : Int), er = (if RightP r then 0 else 1) ∧ (∀ w, Tab w → Calls Tryd.prog 10 #[r.v] w fun e w' => e = .returned (.tuple #[.string A, .int .i64 er]) ∧ Below w.heap.size w w') ∧
    (∀ w, Calls Tryd.prog 11 #[r.v] w fun e w' => e = .returned (.tuple #[.string A, .bool (decide (RightP r))]) ∧ Below w.heap.size w w') := by
  by_cases h : RightP r
  · refine ⟨⟨(oneF r).toArray⟩, 0, by rw [if_pos h], fun w hT => one_good r h w hT, fun w => ?_⟩
    rw [decide_eq_true h]
    exact rone_good r h w
  · refine ⟨⟨#[]⟩, 1, by rw [if_neg h], fun w _ => one_bad r hr h w, fun w => ?_⟩
    rw [decide_eq_false h]
    exact rone_bad r hr h w
set_option maxHeartbeats 4000000 in
theorem writes_walk (r : Rec) (hr : r.ok) (w : World) (hT : Tab w) :
    Calls Tryd.prog 3 #[r.v] w fun e w' => e = .returned (.bool true) ∧ Below w.heap.size w w' := by
  obtain ⟨A, er, her, h1, h2⟩ := one_any r hr
  have HE := hide (fun w h => examples_any w h)
  have HO := hide h1
  have HR := hide h2
  have HP := hide (right_any r hr)
  have HQ := hide (rright_any r hr)
  have HT := hide hT
  by_cases hb : RightP r
  · rw [decide_eq_true hb] at HR HP HQ
    rw [if_pos hb] at her
    subst her
    obtain ⟨off, prod, seq, key, val⟩ := r
    clear hb hr hT h1 h2
    simp only [Rec.v] at *
    go_enter Tryd.func3, Tryd.ntmps3
    go_wp2_with fail
    have B0 : Hid (Below w.heap.size w (w.alloc (Obj.cells #[.int .i64 off, .string prod, .int .i64 seq, .string key, .string val] 23))) := (Below.refl _ _).alloc (Nat.le_refl _) _
    refine (HE.out _ (HT.out.below B0.out)).mono ?_
    rintro e w1 ⟨rfl, b1⟩
    have x1 := (b1.block w.heap.size (by simp)).trans (heap_alloc_new _ _)
    have B1 := hide (B0.out.trans (b1.mono B0.out.size))
    obtain ⟨⟨c0, c1, c2, c3, c4⟩, _⟩ := box5 x1
    clear b1 HE B0
    go_wp2_with fail
    refine (HO.out _ (HT.out.below B1.out)).mono ?_
    rintro e w2 ⟨rfl, b2⟩
    have x2 := (b2.block w.heap.size (Array.getElem?_eq_some_iff.1 x1).1).trans x1
    have B2 := hide (B1.out.trans (b2.mono B1.out.size))
    clear c0 c1 c2 c3 c4 x1 b2 HO B1
    obtain ⟨⟨c0, c1, c2, c3, c4⟩, _⟩ := box5 x2
    go_wp2_with fail
    refine (HR.out _).mono ?_
    rintro e w3 ⟨rfl, b3⟩
    have x3 := (b3.block w.heap.size (Array.getElem?_eq_some_iff.1 x2).1).trans x2
    have B3 := hide (B2.out.trans (b3.mono B2.out.size))
    clear c0 c1 c2 c3 c4 x2 b3 HR B2
    obtain ⟨⟨c0, c1, c2, c3, c4⟩, _⟩ := box5 x3
    clear x3
    go_upto_region 4 with fail
    have d0 := cell_regrown c0
    have d1 := cell_regrown c1
    have d2 := cell_regrown c2
    have d3 := cell_regrown c3
    have d4 := cell_regrown c4
    refine wp_region_quiet_below (by kernel_rfl) (by kernel_rfl) ?_
    repeat (go_big_quiet_step (first | (go_at_call 12; exact Calls.regrown_of (HP.out _)) | (go_at_call 13; exact Calls.regrown_of (HQ.out _))))
    refine wpQuiet_nil ?_
    intro _ hw'
    obtain ⟨⟨dq, osq⟩, hw''⟩ := hw'
    subst hw''
    have bb := below_regrown w3 dq osq
    have B4 := hide (B3.out.trans (bb.mono B3.out.size))
    generalize Go.Sort.grow (redrawn w3 dq) osq = w4 at *
    clear bb B3 d0 d1 d2 d3 d4 c0 c1 c2 c3 c4
    go_wp2
    go_ret
    exact ⟨rfl, B4.out⟩
  · rw [decide_eq_false hb] at HR HP HQ
    rw [if_neg hb] at her
    subst her
    obtain ⟨off, prod, seq, key, val⟩ := r
    clear hb hr hT h1 h2
    simp only [Rec.v] at *
    go_enter Tryd.func3, Tryd.ntmps3
    go_wp2_with fail
    have B0 : Hid (Below w.heap.size w (w.alloc (Obj.cells #[.int .i64 off, .string prod, .int .i64 seq, .string key, .string val] 23))) := (Below.refl _ _).alloc (Nat.le_refl _) _
    refine (HE.out _ (HT.out.below B0.out)).mono ?_
    rintro e w1 ⟨rfl, b1⟩
    have x1 := (b1.block w.heap.size (by simp)).trans (heap_alloc_new _ _)
    have B1 := hide (B0.out.trans (b1.mono B0.out.size))
    obtain ⟨⟨c0, c1, c2, c3, c4⟩, _⟩ := box5 x1
    clear b1 HE B0
    go_wp2_with fail
    refine (HO.out _ (HT.out.below B1.out)).mono ?_
    rintro e w2 ⟨rfl, b2⟩
    have x2 := (b2.block w.heap.size (Array.getElem?_eq_some_iff.1 x1).1).trans x1
    have B2 := hide (B1.out.trans (b2.mono B1.out.size))
    clear c0 c1 c2 c3 c4 x1 b2 HO B1
    obtain ⟨⟨c0, c1, c2, c3, c4⟩, _⟩ := box5 x2
    go_wp2_with fail
    refine (HR.out _).mono ?_
    rintro e w3 ⟨rfl, b3⟩
    have x3 := (b3.block w.heap.size (Array.getElem?_eq_some_iff.1 x2).1).trans x2
    have B3 := hide (B2.out.trans (b3.mono B2.out.size))
    clear c0 c1 c2 c3 c4 x2 b3 HR B2
    obtain ⟨⟨c0, c1, c2, c3, c4⟩, _⟩ := box5 x3
    clear x3
    go_upto_region 4 with fail
    have d0 := cell_regrown c0
    have d1 := cell_regrown c1
    have d2 := cell_regrown c2
    have d3 := cell_regrown c3
    have d4 := cell_regrown c4
    refine wp_region_quiet_below (by kernel_rfl) (by kernel_rfl) ?_
    repeat (go_big_quiet_step (first | (go_at_call 12; exact Calls.regrown_of (HP.out _)) | (go_at_call 13; exact Calls.regrown_of (HQ.out _))))
    refine wpQuiet_nil ?_
    intro _ hw'
    obtain ⟨⟨dq, osq⟩, hw''⟩ := hw'
    subst hw''
    have bb := below_regrown w3 dq osq
    have B4 := hide (B3.out.trans (bb.mono B3.out.size))
    generalize Go.Sort.grow (redrawn w3 dq) osq = w4 at *
    clear bb B3 d0 d1 d2 d3 d4 c0 c1 c2 c3 c4
    go_wp2
    go_ret
    exact ⟨rfl, B4.out⟩
end Go.Proofs.YtgnehnlmbodijaaDoor
