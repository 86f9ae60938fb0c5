/-
  CrcJoins, walked.
-/
import Derived.Test.YtlalfehnkhenjaaDoorE1
namespace Go.Proofs.YtlalfehnkhenjaaDoor
open Go.RowKit

set_option maxHeartbeats 1000000 in
theorem joins_core (a b c : ByteArray) (x y : Nat) (w : World) (hT : Tab w) (hab : a ++ b = c) (h1 : a.size ≤ 140737488355328) (h2 : b.size ≤ 140737488355328)
    (HE : Hid (∀ w, Tab w → Calls Tryd.prog 9 #[] w fun e w' => e = .returned (.bool true) ∧ Below w.heap.size w w'))
    (HS : Hid (∀ w, Tab w → Calls Tryd.prog 10 #[.string a] w fun e w' => e = .returned (.int .u32 x) ∧ w' = w))
    (HM : Hid (∀ w, Tab w → Calls Tryd.prog 12 #[.int .u32 x, .string b] w fun e w' => e = .returned (.int .u32 y) ∧ w' = w))
    (HC : Hid (∀ w, Tab w → Calls Tryd.prog 10 #[.string c] w fun e w' => e = .returned (.int .u32 y) ∧ w' = w))
    (HN : Hid (∀ w, Tab w → Calls Tryd.prog 12 #[.int .u32 x, .string ⟨#[]⟩] w fun e w' => e = .returned (.int .u32 x) ∧ w' = w)) :
    Calls Tryd.prog 6 #[.string a, .string b] w fun e w' => e = .returned (.bool true) ∧ Below w.heap.size w w' := by
  have HT := hide hT
  clear hT
  go_enter Tryd.func6, Tryd.ntmps6
  have B0 := hide (Below.refl w.heap.size w)
  have T0 := HT
  go_wp2_with fail
  refine (HE.out _ T0.out).mono ?_
  rintro e w1 ⟨rfl, b1⟩
  have B1 := hide (B0.out.trans (b1.mono B0.out.size))
  have T1 := hide (HT.out.below B1.out)
  clear b1
  go_wp2_with fail
  refine (HS.out _ T1.out).mono ?_
  rintro e w' ⟨rfl, rfl⟩
  go_wp2_with fail
  refine (HM.out _ T1.out).mono ?_
  rintro e w' ⟨rfl, rfl⟩
  go_wp2_with fail
  refine (HC.out _ T1.out).mono ?_
  rintro e w' ⟨rfl, rfl⟩
  go_wp2_with fail
  refine (HS.out _ T1.out).mono ?_
  rintro e w' ⟨rfl, rfl⟩
  go_wp2_with fail
  refine (HN.out _ T1.out).mono ?_
  rintro e w' ⟨rfl, rfl⟩
  go_wp2_with fail
  refine (HS.out _ T1.out).mono ?_
  rintro e w' ⟨rfl, rfl⟩
  go_wp2
  go_ret
  exact ⟨rfl, B1.out⟩

theorem joins_walk (a b : ByteArray) (w : World) (hT : Tab w) (h1 : a.size ≤ 140737488355328) (h2 : b.size ≤ 140737488355328) :
    Calls Tryd.prog 6 #[.string a, .string b] w fun e w' => e = .returned (.bool true) ∧ Below w.heap.size w w' := by
  refine joins_core a b _ (sumF a.data.toList) (sumF (a.data.toList ++ b.data.toList)) w hT rfl h1 h2 examples_any (fun w hT => sum_any a w (by omega) hT) ?_ ?_ ?_
  · intro w hT
    have h := more_any (sumF a.data.toList) b w (sumF_lt _) (by omega) hT
    rw [sumF_join] at h
    exact h
  · intro w hT
    have h := sum_any (a ++ b) w (by rw [ByteArray.size_append]; omega) hT
    rw [list_append] at h
    exact h
  · intro w hT
    have h := more_any (sumF a.data.toList) ⟨#[]⟩ w (sumF_lt _) (by decide) hT
    rw [show (⟨#[]⟩ : ByteArray).data.toList = [] from rfl, moreF_nil] at h
    exact h

end Go.Proofs.YtlalfehnkhenjaaDoor
