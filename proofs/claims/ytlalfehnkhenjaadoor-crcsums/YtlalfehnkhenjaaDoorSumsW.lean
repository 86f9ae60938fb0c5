/-
  CrcSums, walked.
-/
import Derived.Test.YtlalfehnkhenjaaDoorE1
namespace Go.Proofs.YtlalfehnkhenjaaDoor
open Go.RowKit

set_option maxHeartbeats 1000000 in
theorem sums_core (s : ByteArray) (sum a b : Nat) (w : World) (hT : Tab w)
    (HE : Hid (∀ w, Tab w → Calls Tryd.prog 9 #[] w fun e w' => e = .returned (.bool true) ∧ Below w.heap.size w w'))
    (HS : Hid (∀ w, Tab w → Calls Tryd.prog 10 #[.string s] w fun e w' => e = .returned (.int .u32 a) ∧ w' = w))
    (HR : Hid (∀ w, Calls Tryd.prog 11 #[.string s] w fun e w' => e = .returned (.int .u32 a) ∧ w' = w))
    (HM : Hid (∀ w, Tab w → Calls Tryd.prog 12 #[.int .u32 sum, .string s] w fun e w' => e = .returned (.int .u32 b) ∧ w' = w))
    (HN : Hid (∀ w, Calls Tryd.prog 13 #[.int .u32 sum, .string s] w fun e w' => e = .returned (.int .u32 b) ∧ w' = w)) :
    Calls Tryd.prog 3 #[.string s, .int .u32 sum] w fun e w' => e = .returned (.bool true) ∧ Below w.heap.size w w' := by
  have HT := hide hT
  clear hT
  go_enter Tryd.func3, Tryd.ntmps3
  have B0 := hide (Below.refl w.heap.size w)
  have T0 := HT
  go_wp2_with fail
  refine (HE.out _ T0.out).mono ?_
  rintro e w1 ⟨rfl, b1⟩
  have B1 := hide (B0.out.trans (b1.mono B0.out.size))
  have T1 := hide (HT.out.below B1.out)
  clear b1
  go_wp2_with fail
  refine (HS.out _ T1.out).mono ?_
  rintro e w' ⟨rfl, rfl⟩
  go_wp2_with fail
  refine (HR.out _).mono ?_
  rintro e w' ⟨rfl, rfl⟩
  go_wp2_with fail
  refine (HM.out _ T1.out).mono ?_
  rintro e w' ⟨rfl, rfl⟩
  go_wp2_with fail
  refine (HN.out _).mono ?_
  rintro e w' ⟨rfl, rfl⟩
  go_wp2
  go_ret
  exact ⟨rfl, B1.out⟩

theorem sums_walk (s : ByteArray) (sum : Nat) (w : World) (hT : Tab w) (hs : sum < 2 ^ 32) (h63 : s.size ≤ 9223372036854775807) :
    Calls Tryd.prog 3 #[.string s, .int .u32 sum] w fun e w' => e = .returned (.bool true) ∧ Below w.heap.size w w' :=
  sums_core s sum (sumF s.data.toList) (moreF sum s.data.toList) w hT examples_any (fun w hT => sum_any s w h63 hT) (fun w => rsum_any s w h63) (fun w hT => more_any sum s w hs h63 hT) (fun w => rmore_any sum s w hs h63)

end Go.Proofs.YtlalfehnkhenjaaDoor
