/-
  CrcFrames, walked.
-/
import Derived.Test.YtlalfehnkhenjaaDoorE1
namespace Go.Proofs.YtlalfehnkhenjaaDoor
open Go.RowKit

set_option maxHeartbeats 1000000 in
theorem frames_ok (body s F D : ByteArray) (n : Nat) (g : Int) (w : World) (hT : Tab w) 
    (HE : Hid (∀ w, Tab w → Calls Tryd.prog 9 #[] w fun e w' => e = .returned (.bool true) ∧ Below w.heap.size w w'))
    (HF : Hid (∀ w, Tab w → Calls Tryd.prog 14 #[.string body] w fun e w' => e = .returned (.tuple #[.string F, .int .i64 0]) ∧ Below w.heap.size w w'))
    (HG : Hid (∀ w, Calls Tryd.prog 15 #[.string body] w fun e w' => e = .returned (.tuple #[.string F, .bool true]) ∧ Below w.heap.size w w'))
    (HK : Hid (∀ w, Tab w → Calls Tryd.prog 16 #[.string s] w fun e w' => e = .returned (.tuple #[.string D, .int .i64 n, .int .i64 g]) ∧ Below w.heap.size w w'))
    (HR : Hid (∀ w, Calls Tryd.prog 17 #[.string s] w fun e w' => e = .returned (.tuple #[.string D, .int .i64 n, .int .i64 g]) ∧ Below w.heap.size w w')) :
    Calls Tryd.prog 4 #[.string body, .string s] w fun e w' => e = .returned (.bool true) ∧ Below w.heap.size w w' := by
  have HT := hide hT
  clear hT
  go_enter Tryd.func4, Tryd.ntmps4
  have B0 := hide (Below.refl w.heap.size w)
  have T0 := HT
  go_wp2_with fail
  refine (HE.out _ T0.out).mono ?_
  rintro e w1 ⟨rfl, b1⟩
  have B1 := hide (B0.out.trans (b1.mono B0.out.size))
  have T1 := hide (HT.out.below B1.out)
  clear b1
  go_wp2_with fail
  refine (HF.out _ T1.out).mono ?_
  rintro e w2 ⟨rfl, b2⟩
  have B2 := hide (B1.out.trans (b2.mono B1.out.size))
  have T2 := hide (HT.out.below B2.out)
  clear b2
  go_wp2_with fail
  refine (HG.out _).mono ?_
  rintro e w3 ⟨rfl, b3⟩
  have B3 := hide (B2.out.trans (b3.mono B2.out.size))
  have T3 := hide (HT.out.below B3.out)
  clear b3
  go_wp2_with fail
  refine (HK.out _ T3.out).mono ?_
  rintro e w4 ⟨rfl, b4⟩
  have B4 := hide (B3.out.trans (b4.mono B3.out.size))
  have T4 := hide (HT.out.below B4.out)
  clear b4
  go_wp2_with fail
  refine (HR.out _).mono ?_
  rintro e w5 ⟨rfl, b5⟩
  have B5 := hide (B4.out.trans (b5.mono B4.out.size))
  have T5 := hide (HT.out.below B5.out)
  clear b5
  go_wp2
  go_ret
  exact ⟨rfl, B5.out⟩

set_option maxHeartbeats 1000000 in
theorem frames_long (body s F D : ByteArray) (n : Nat) (g : Int) (w : World) (hT : Tab w) 
    (HE : Hid (∀ w, Tab w → Calls Tryd.prog 9 #[] w fun e w' => e = .returned (.bool true) ∧ Below w.heap.size w w'))
    (HF : Hid (∀ w, Tab w → Calls Tryd.prog 14 #[.string body] w fun e w' => e = .returned (.tuple #[.string F, .int .i64 3]) ∧ Below w.heap.size w w'))
    (HG : Hid (∀ w, Calls Tryd.prog 15 #[.string body] w fun e w' => e = .returned (.tuple #[.string F, .bool false]) ∧ Below w.heap.size w w'))
    (HK : Hid (∀ w, Tab w → Calls Tryd.prog 16 #[.string s] w fun e w' => e = .returned (.tuple #[.string D, .int .i64 n, .int .i64 g]) ∧ Below w.heap.size w w'))
    (HR : Hid (∀ w, Calls Tryd.prog 17 #[.string s] w fun e w' => e = .returned (.tuple #[.string D, .int .i64 n, .int .i64 g]) ∧ Below w.heap.size w w')) :
    Calls Tryd.prog 4 #[.string body, .string s] w fun e w' => e = .returned (.bool true) ∧ Below w.heap.size w w' := by
  have HT := hide hT
  clear hT
  go_enter Tryd.func4, Tryd.ntmps4
  have B0 := hide (Below.refl w.heap.size w)
  have T0 := HT
  go_wp2_with fail
  refine (HE.out _ T0.out).mono ?_
  rintro e w1 ⟨rfl, b1⟩
  have B1 := hide (B0.out.trans (b1.mono B0.out.size))
  have T1 := hide (HT.out.below B1.out)
  clear b1
  go_wp2_with fail
  refine (HF.out _ T1.out).mono ?_
  rintro e w2 ⟨rfl, b2⟩
  have B2 := hide (B1.out.trans (b2.mono B1.out.size))
  have T2 := hide (HT.out.below B2.out)
  clear b2
  go_wp2_with fail
  refine (HG.out _).mono ?_
  rintro e w3 ⟨rfl, b3⟩
  have B3 := hide (B2.out.trans (b3.mono B2.out.size))
  have T3 := hide (HT.out.below B3.out)
  clear b3
  go_wp2_with fail
  refine (HK.out _ T3.out).mono ?_
  rintro e w4 ⟨rfl, b4⟩
  have B4 := hide (B3.out.trans (b4.mono B3.out.size))
  have T4 := hide (HT.out.below B4.out)
  clear b4
  go_wp2_with fail
  refine (HR.out _).mono ?_
  rintro e w5 ⟨rfl, b5⟩
  have B5 := hide (B4.out.trans (b5.mono B4.out.size))
  have T5 := hide (HT.out.below B5.out)
  clear b5
  go_wp2
  go_ret
  exact ⟨rfl, B5.out⟩

theorem frames_walk (body s : ByteArray) (w : World) (hT : Tab w) (h1 : body.size ≤ 9223372036854775807) (h2 : s.size ≤ 9223372036854775807) :
    Calls Tryd.prog 4 #[.string body, .string s] w fun e w' => e = .returned (.bool true) ∧ Below w.heap.size w w' := by
  have hF := fun w hT => frame_any body w hT h1
  have hG := fun w => rframe_any body w h1
  by_cases h : body.size ≤ 400000
  · have e : frameF body.data.toList = (frameB body.data.toList, 0) := by unfold frameF; rw [if_neg (by rw [size_list]; omega)]
    rw [e] at hF hG
    rw [decide_eq_true h] at hG
    exact frames_ok body s _ _ _ _ w hT examples_any hF hG (fun w hT => take_any s w hT h2) (fun w => rtake_any s w h2)
  · have e : frameF body.data.toList = ([], 3) := by unfold frameF; rw [if_pos (by rw [size_list]; omega)]
    rw [e] at hF hG
    rw [decide_eq_false h] at hG
    exact frames_long body s _ _ _ _ w hT examples_any hF hG (fun w hT => take_any s w hT h2) (fun w => rtake_any s w h2)

end Go.Proofs.YtlalfehnkhenjaaDoor
