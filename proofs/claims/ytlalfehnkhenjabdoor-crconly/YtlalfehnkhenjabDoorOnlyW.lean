/-
  CrcOnly, walked.
-/
import Derived.Test.YtlalfehnkhenjabDoorE1
namespace Go.Proofs.YtlalfehnkhenjabDoor
open Go.RowKit

set_option maxHeartbeats 1000000 in
theorem only_ok (a b x y : ByteArray) (w : World) (hT : Tab w) (h1 : a.size ≤ 400000) (_h2 : b.size ≤ 400000) (hx : x.size = a.size + 8) (hxy : (x.toList == y.toList) = (a.toList == b.toList))
    (HE : Hid (∀ w, Tab w → Calls Tryd.prog 6 #[] w fun e w' => e = .returned (.bool true) ∧ Below w.heap.size w w'))
    (HF : Hid (∀ w, Tab w → Calls Tryd.prog 7 #[.string a] w fun e w' => e = .returned (.tuple #[.string x, .int .i64 0]) ∧ Below w.heap.size w w'))
    (HG : Hid (∀ w, Tab w → Calls Tryd.prog 7 #[.string b] w fun e w' => e = .returned (.tuple #[.string y, .int .i64 0]) ∧ Below w.heap.size w w')) :
    Calls Tryd.prog 5 #[.string a, .string b] w fun e w' => e = .returned (.bool true) ∧ Below w.heap.size w w' := by
  have HT := hide hT
  clear hT
  go_enter Tryd.func5, Tryd.ntmps5
  have B0 := hide (Below.refl w.heap.size w)
  have T0 := HT
  go_wp2_with fail
  refine (HE.out _ T0.out).mono ?_
  rintro e w1 ⟨rfl, b1⟩
  have B1 := hide (B0.out.trans (b1.mono B0.out.size))
  have T1 := hide (HT.out.below B1.out)
  clear b1
  go_wp2_with fail
  refine (HF.out _ T1.out).mono ?_
  rintro e w2 ⟨rfl, b2⟩
  have B2 := hide (B1.out.trans (b2.mono B1.out.size))
  have T2 := hide (HT.out.below B2.out)
  clear b2
  go_wp2_with fail
  refine (HG.out _ T2.out).mono ?_
  rintro e w3 ⟨rfl, b3⟩
  have B3 := hide (B2.out.trans (b3.mono B2.out.size))
  have T3 := hide (HT.out.below B3.out)
  clear b3
  go_wp2
  go_ret
  exact ⟨rfl, B3.out⟩

set_option maxHeartbeats 1000000 in
theorem only_long (a b x y : ByteArray) (w : World) (hT : Tab w) (h1 : 400000 < a.size) (_h63 : a.size ≤ 9223372036854775807) (_h64 : b.size ≤ 9223372036854775807) (er : Int)
    (HE : Hid (∀ w, Tab w → Calls Tryd.prog 6 #[] w fun e w' => e = .returned (.bool true) ∧ Below w.heap.size w w'))
    (HF : Hid (∀ w, Tab w → Calls Tryd.prog 7 #[.string a] w fun e w' => e = .returned (.tuple #[.string x, .int .i64 3]) ∧ Below w.heap.size w w'))
    (HG : Hid (∀ w, Tab w → Calls Tryd.prog 7 #[.string b] w fun e w' => e = .returned (.tuple #[.string y, .int .i64 er]) ∧ Below w.heap.size w w')) :
    Calls Tryd.prog 5 #[.string a, .string b] w fun e w' => e = .returned (.bool true) ∧ Below w.heap.size w w' := by
  have HT := hide hT
  clear hT
  go_enter Tryd.func5, Tryd.ntmps5
  have B0 := hide (Below.refl w.heap.size w)
  have T0 := HT
  go_wp2_with fail
  refine (HE.out _ T0.out).mono ?_
  rintro e w1 ⟨rfl, b1⟩
  have B1 := hide (B0.out.trans (b1.mono B0.out.size))
  have T1 := hide (HT.out.below B1.out)
  clear b1
  go_wp2_with fail
  refine (HF.out _ T1.out).mono ?_
  rintro e w2 ⟨rfl, b2⟩
  have B2 := hide (B1.out.trans (b2.mono B1.out.size))
  have T2 := hide (HT.out.below B2.out)
  clear b2
  go_wp2_with fail
  refine (HG.out _ T2.out).mono ?_
  rintro e w3 ⟨rfl, b3⟩
  have B3 := hide (B2.out.trans (b3.mono B2.out.size))
  have T3 := hide (HT.out.below B3.out)
  clear b3
  go_wp2
  go_ret
  exact ⟨rfl, B3.out⟩

set_option maxHeartbeats 1000000 in
theorem only_long2 (a b x y : ByteArray) (w : World) (hT : Tab w) (h1 : a.size ≤ 400000) (h2 : 400000 < b.size) (_h64 : b.size ≤ 9223372036854775807)
    (HE : Hid (∀ w, Tab w → Calls Tryd.prog 6 #[] w fun e w' => e = .returned (.bool true) ∧ Below w.heap.size w w'))
    (HF : Hid (∀ w, Tab w → Calls Tryd.prog 7 #[.string a] w fun e w' => e = .returned (.tuple #[.string x, .int .i64 0]) ∧ Below w.heap.size w w'))
    (HG : Hid (∀ w, Tab w → Calls Tryd.prog 7 #[.string b] w fun e w' => e = .returned (.tuple #[.string y, .int .i64 3]) ∧ Below w.heap.size w w')) :
    Calls Tryd.prog 5 #[.string a, .string b] w fun e w' => e = .returned (.bool true) ∧ Below w.heap.size w w' := by
  have HT := hide hT
  clear hT
  go_enter Tryd.func5, Tryd.ntmps5
  have B0 := hide (Below.refl w.heap.size w)
  have T0 := HT
  go_wp2_with fail
  refine (HE.out _ T0.out).mono ?_
  rintro e w1 ⟨rfl, b1⟩
  have B1 := hide (B0.out.trans (b1.mono B0.out.size))
  have T1 := hide (HT.out.below B1.out)
  clear b1
  go_wp2_with fail
  refine (HF.out _ T1.out).mono ?_
  rintro e w2 ⟨rfl, b2⟩
  have B2 := hide (B1.out.trans (b2.mono B1.out.size))
  have T2 := hide (HT.out.below B2.out)
  clear b2
  go_wp2_with fail
  refine (HG.out _ T2.out).mono ?_
  rintro e w3 ⟨rfl, b3⟩
  have B3 := hide (B2.out.trans (b3.mono B2.out.size))
  have T3 := hide (HT.out.below B3.out)
  clear b3
  go_wp2
  have h3 : (400000 : Int) < b.size := by omega
  have h4 : ¬ (400000 : Int) < a.size := by omega
  have h5 : (decide ((400000 : Int) < a.size) || decide ((400000 : Int) < b.size)) = true := by simp [h3]
  rw [h5]
  go_ret
  exact ⟨rfl, B3.out⟩

theorem only_walk (a b : ByteArray) (w : World) (hT : Tab w) (h1 : a.size ≤ 9223372036854775807) (h2 : b.size ≤ 9223372036854775807) :
    Calls Tryd.prog 5 #[.string a, .string b] w fun e w' => e = .returned (.bool true) ∧ Below w.heap.size w w' := by
  have hF := fun w hT => frame_any a w hT h1
  have hG := fun w hT => frame_any b w hT h2
  have ok : ∀ s : ByteArray, s.size ≤ 400000 → frameF s.data.toList = (frameB s.data.toList, 0) := fun s h => by unfold frameF; rw [if_neg (by rw [size_list]; omega)]
  have no : ∀ s : ByteArray, 400000 < s.size → frameF s.data.toList = ([], 3) := fun s h => by unfold frameF; rw [if_pos (by rw [size_list]; omega)]
  by_cases ha : a.size ≤ 400000
  · by_cases hb : b.size ≤ 400000
    · rw [ok a ha] at hF
      rw [ok b hb] at hG
      refine only_ok a b _ _ w hT ha hb (by rw [mk_size, frameB_length, size_list]) ?_ examples_any hF hG
      rw [ByteArray.toList_mk, ByteArray.toList_mk, ByteArray.toList_eq, ByteArray.toList_eq, Bool.eq_iff_iff]
      simp [frame_only]
    · rw [ok a ha] at hF
      rw [no b (by omega)] at hG
      exact only_long2 a b _ _ w hT ha (by omega) h2 examples_any hF hG
  · rw [no a (by omega)] at hF
    exact only_long a b _ _ w hT (by omega) h1 h2 _ examples_any hF hG

end Go.Proofs.YtlalfehnkhenjabDoor
