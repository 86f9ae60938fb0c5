/-
  The document's own item as bytes, as it runs.
-/
import Derived.Test.YtgnehnlmbodijaaDoorZKR1
namespace Go.Proofs.YtgnehnlmbodijaaDoor.K
open Go.RowKit

set_option maxHeartbeats 800000 in
theorem one_kind (k n : Int) (s : ByteArray) (w : World) (hk : kindB k = false) :
    Calls Tryd.prog 42 #[.agg #[.int .i64 k, .int .u64 n, .string s]] w fun e w' => e = .returned (.tuple #[.string ⟨#[]⟩, .int .i64 1]) ∧ Below w.heap.size w w' := by
  have h1 : k ≠ 1 ∧ k ≠ 2 ∧ k ≠ 3 ∧ k ≠ 4 := by
    refine ⟨?_, ?_, ?_, ?_⟩ <;> (rintro rfl; simp [kindB] at hk)
  have e0 : rwF k = 0 := by simp [rwF, h1]
  have h4 : (k != 4) = true := by rw [bne_iff_ne]; exact h1.2.2.2
  have HW : Hid (∀ w, Calls Tryd.prog 56 #[.int .i64 k] w fun e w' => e = .returned (.int .i64 0) ∧ w' = w) := fun w => by rw [← e0]; exact rwidth_any k w
  clear h1 e0 hk
  go_enter Tryd.func42, Tryd.ntmps42
  go_wp2_with (go_at_call 56; refine (HW.out _).mono ?_; rintro e w' ⟨rfl, rfl⟩)
  go_ret2
  exact ⟨rfl, (Below.refl _ _).alloc (Nat.le_refl _) _⟩

set_option maxHeartbeats 800000 in
theorem one_text_n (n : Int) (s : ByteArray) (w : World) (hn : (n != 0) = true) :
    Calls Tryd.prog 42 #[.agg #[.int .i64 4, .int .u64 n, .string s]] w fun e w' => e = .returned (.tuple #[.string ⟨#[]⟩, .int .i64 1]) ∧ Below w.heap.size w w' := by
  have HW : Hid (∀ w, Calls Tryd.prog 56 #[.int .i64 4] w fun e w' => e = .returned (.int .i64 0) ∧ w' = w) := fun w => rwidth_any 4 w
  go_enter Tryd.func42, Tryd.ntmps42
  go_wp2_with (go_at_call 56; refine (HW.out _).mono ?_; rintro e w' ⟨rfl, rfl⟩)
  go_ret2
  exact ⟨rfl, (Below.refl _ _).alloc (Nat.le_refl _) _⟩

set_option maxHeartbeats 800000 in
theorem one_text_long (s : ByteArray) (w : World) (hl : 100000 < s.size) (_hs : s.size ≤ 9223372036854775807) :
    Calls Tryd.prog 42 #[.agg #[.int .i64 4, .int .u64 0, .string s]] w fun e w' => e = .returned (.tuple #[.string ⟨#[]⟩, .int .i64 3]) ∧ Below w.heap.size w w' := by
  have HW : Hid (∀ w, Calls Tryd.prog 56 #[.int .i64 4] w fun e w' => e = .returned (.int .i64 0) ∧ w' = w) := fun w => rwidth_any 4 w
  go_enter Tryd.func42, Tryd.ntmps42
  go_wp2_with (go_at_call 56; refine (HW.out _).mono ?_; rintro e w' ⟨rfl, rfl⟩)
  go_ret2
  exact ⟨rfl, (Below.refl _ _).alloc (Nat.le_refl _) _⟩

set_option maxHeartbeats 800000 in
theorem one_num1_s (n : Int) (s : ByteArray) (w : World) (hs : s.toList.isEmpty = false) :
    Calls Tryd.prog 42 #[.agg #[.int .i64 1, .int .u64 n, .string s]] w fun e w' => e = .returned (.tuple #[.string ⟨#[]⟩, .int .i64 1]) ∧ Below w.heap.size w w' := by
  have HW : Hid (∀ w, Calls Tryd.prog 56 #[.int .i64 1] w fun e w' => e = .returned (.int .i64 1) ∧ w' = w) := fun w => rwidth_any 1 w
  go_enter Tryd.func42, Tryd.ntmps42
  go_wp2_with (go_at_call 56; refine (HW.out _).mono ?_; rintro e w' ⟨rfl, rfl⟩)
  go_ret2
  exact ⟨rfl, (Below.refl _ _).alloc (Nat.le_refl _) _⟩

set_option maxHeartbeats 800000 in
theorem one_num1_n (n : Int) (s : ByteArray) (w : World) (hs : s.toList.isEmpty = true) (_h0 : 0 ≤ n) (hn : 256 ≤ n) :
    Calls Tryd.prog 42 #[.agg #[.int .i64 1, .int .u64 n, .string s]] w fun e w' => e = .returned (.tuple #[.string ⟨#[]⟩, .int .i64 1]) ∧ Below w.heap.size w w' := by
  have HW : Hid (∀ w, Calls Tryd.prog 56 #[.int .i64 1] w fun e w' => e = .returned (.int .i64 1) ∧ w' = w) := fun w => rwidth_any 1 w
  have hn2 : (n / 256 != 0) = true := by rw [bne_iff_ne]; omega
  go_enter Tryd.func42, Tryd.ntmps42
  go_wp2_with (go_at_call 56; refine (HW.out _).mono ?_; rintro e w' ⟨rfl, rfl⟩)
  go_ret2
  exact ⟨rfl, (Below.refl _ _).alloc (Nat.le_refl _) _⟩

set_option maxHeartbeats 800000 in
theorem one_num1_ok (m : Nat) (s : ByteArray) (w : World) (hs : s.toList.isEmpty = true) (hn : m < 256) :
    Calls Tryd.prog 42 #[.agg #[.int .i64 1, .int .u64 m, .string s]] w fun e w' => e = .returned (.tuple #[.string ⟨(Lib.beBytes 1 m).toArray⟩, .int .i64 0]) ∧ Below w.heap.size w w' := by
  have HW : Hid (∀ w, Calls Tryd.prog 56 #[.int .i64 1] w fun e w' => e = .returned (.int .i64 1) ∧ w' = w) := fun w => rwidth_any 1 w
  have hn2 : ((m : Int) / 256 != 0) = false := by simp; omega
  have HN := hide (fun w => num_1 m w (by omega))
  go_enter Tryd.func42, Tryd.ntmps42
  go_wp2_with (go_at_call 56; refine (HW.out _).mono ?_; rintro e w' ⟨rfl, rfl⟩)
  refine (HN.out _).mono ?_
  rintro e w2 ⟨rfl, hb⟩
  have B2 := hide (((Below.refl _ _).alloc (Nat.le_refl _) _).trans (hb.mono (by simp)))
  clear hb
  go_wp2
  go_ret2
  exact ⟨rfl, B2.out⟩

set_option maxHeartbeats 800000 in
theorem one_num2_s (n : Int) (s : ByteArray) (w : World) (hs : s.toList.isEmpty = false) :
    Calls Tryd.prog 42 #[.agg #[.int .i64 2, .int .u64 n, .string s]] w fun e w' => e = .returned (.tuple #[.string ⟨#[]⟩, .int .i64 1]) ∧ Below w.heap.size w w' := by
  have HW : Hid (∀ w, Calls Tryd.prog 56 #[.int .i64 2] w fun e w' => e = .returned (.int .i64 4) ∧ w' = w) := fun w => rwidth_any 2 w
  go_enter Tryd.func42, Tryd.ntmps42
  go_wp2_with (go_at_call 56; refine (HW.out _).mono ?_; rintro e w' ⟨rfl, rfl⟩)
  go_ret2
  exact ⟨rfl, (Below.refl _ _).alloc (Nat.le_refl _) _⟩

set_option maxHeartbeats 800000 in
theorem one_num2_n (n : Int) (s : ByteArray) (w : World) (hs : s.toList.isEmpty = true) (_h0 : 0 ≤ n) (hn : 4294967296 ≤ n) :
    Calls Tryd.prog 42 #[.agg #[.int .i64 2, .int .u64 n, .string s]] w fun e w' => e = .returned (.tuple #[.string ⟨#[]⟩, .int .i64 1]) ∧ Below w.heap.size w w' := by
  have HW : Hid (∀ w, Calls Tryd.prog 56 #[.int .i64 2] w fun e w' => e = .returned (.int .i64 4) ∧ w' = w) := fun w => rwidth_any 2 w
  have hn2 : (n / 4294967296 != 0) = true := by rw [bne_iff_ne]; omega
  go_enter Tryd.func42, Tryd.ntmps42
  go_wp2_with (go_at_call 56; refine (HW.out _).mono ?_; rintro e w' ⟨rfl, rfl⟩)
  go_ret2
  exact ⟨rfl, (Below.refl _ _).alloc (Nat.le_refl _) _⟩

set_option maxHeartbeats 800000 in
theorem one_num2_ok (m : Nat) (s : ByteArray) (w : World) (hs : s.toList.isEmpty = true) (hn : m < 4294967296) :
    Calls Tryd.prog 42 #[.agg #[.int .i64 2, .int .u64 m, .string s]] w fun e w' => e = .returned (.tuple #[.string ⟨(Lib.beBytes 4 m).toArray⟩, .int .i64 0]) ∧ Below w.heap.size w w' := by
  have HW : Hid (∀ w, Calls Tryd.prog 56 #[.int .i64 2] w fun e w' => e = .returned (.int .i64 4) ∧ w' = w) := fun w => rwidth_any 2 w
  have hn2 : ((m : Int) / 4294967296 != 0) = false := by simp; omega
  have HN := hide (fun w => num_4 m w (by omega))
  go_enter Tryd.func42, Tryd.ntmps42
  go_wp2_with (go_at_call 56; refine (HW.out _).mono ?_; rintro e w' ⟨rfl, rfl⟩)
  refine (HN.out _).mono ?_
  rintro e w2 ⟨rfl, hb⟩
  have B2 := hide (((Below.refl _ _).alloc (Nat.le_refl _) _).trans (hb.mono (by simp)))
  clear hb
  go_wp2
  go_ret2
  exact ⟨rfl, B2.out⟩

set_option maxHeartbeats 800000 in
theorem one_num3_s (n : Int) (s : ByteArray) (w : World) (hs : s.toList.isEmpty = false) :
    Calls Tryd.prog 42 #[.agg #[.int .i64 3, .int .u64 n, .string s]] w fun e w' => e = .returned (.tuple #[.string ⟨#[]⟩, .int .i64 1]) ∧ Below w.heap.size w w' := by
  have HW : Hid (∀ w, Calls Tryd.prog 56 #[.int .i64 3] w fun e w' => e = .returned (.int .i64 8) ∧ w' = w) := fun w => rwidth_any 3 w
  go_enter Tryd.func42, Tryd.ntmps42
  go_wp2_with (go_at_call 56; refine (HW.out _).mono ?_; rintro e w' ⟨rfl, rfl⟩)
  go_ret2
  exact ⟨rfl, (Below.refl _ _).alloc (Nat.le_refl _) _⟩

set_option maxHeartbeats 800000 in
theorem one_num3_ok (m : Nat) (s : ByteArray) (w : World) (hs : s.toList.isEmpty = true) (hn : m < 18446744073709551616) :
    Calls Tryd.prog 42 #[.agg #[.int .i64 3, .int .u64 m, .string s]] w fun e w' => e = .returned (.tuple #[.string ⟨(Lib.beBytes 8 m).toArray⟩, .int .i64 0]) ∧ Below w.heap.size w w' := by
  have HW : Hid (∀ w, Calls Tryd.prog 56 #[.int .i64 3] w fun e w' => e = .returned (.int .i64 8) ∧ w' = w) := fun w => rwidth_any 3 w
  have HN := hide (fun w => num_8 m w (by omega))
  go_enter Tryd.func42, Tryd.ntmps42
  go_wp2_with (go_at_call 56; refine (HW.out _).mono ?_; rintro e w' ⟨rfl, rfl⟩)
  refine (HN.out _).mono ?_
  rintro e w2 ⟨rfl, hb⟩
  have B2 := hide (((Below.refl _ _).alloc (Nat.le_refl _) _).trans (hb.mono (by simp)))
  clear hb
  go_wp2
  go_ret2
  exact ⟨rfl, B2.out⟩

end Go.Proofs.YtgnehnlmbodijaaDoor.K
