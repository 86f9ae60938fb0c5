/-
  The document's own take, held against the reader's; and what kindOf has to do with the letters.
-/
import Derived.Test.YtnbomaalncjkeaaR5
namespace Go.Proofs.Ytnbomaalncjkeaa
open Go.RowKit

theorem rkF_eq (c : UInt8) : rkF c = kindOfL c := by
  have h : ∀ n : Fin 256, rkF (UInt8.ofNat n.val) = kindOfL (UInt8.ofNat n.val) := by decide +kernel
  have := h ⟨c.toNat, c.toNat_lt⟩
  simpa using this

theorem ext_sub (s : ByteArray) (m : Nat) (h : 4 + m ≤ s.size) : (s.extract 4 s.size).extract 0 m = s.extract 4 (4 + m) := by
  rw [ByteArray.extract_extract]
  congr 1
  omega
theorem ext_tail (s : ByteArray) (m : Nat) : (s.extract 4 s.size).extract m (s.extract 4 s.size).size = s.extract (4 + m) s.size := by
  rw [ByteArray.extract_extract]
  have : (s.extract 4 s.size).size = s.size - 4 := by simp
  rw [this]
  by_cases h : 4 ≤ s.size
  · congr 1
    omega
  · apply ByteArray.ext
    apply Array.ext
    · simp; omega
    · intro i h1 h2
      simp at h1
      omega

theorem take_any (k : Int) (s : ByteArray) (hk : kindB k = true) (hs : s.size ≤ maxLen) :
    ∃ n : Nat, ((itemG k (widthN k) s).2.2 = 0 → n ≤ s.size ∧ (itemG k (widthN k) s).2.1 = s.extract n s.size) ∧
      ∀ w, Calls Try.prog 28 #[.int .i64 k, .string s] w fun e w' => e = .returned (.tuple #[(itemG k (widthN k) s).1.v, .int .i64 n, .int .i64 (itemG k (widthN k) s).2.2]) ∧ Below w.heap.size w w' := by
  have hs' := hs
  unfold maxLen at hs'
  have hs2 : s.size ≤ 9223372036854775807 := by omega
  rcases kind_cases k hk with rfl | rfl | rfl | rfl
  · by_cases h : s.size < widthN 1
    · rw [show itemG 1 (widthN 1) s = (It.zero, ⟨#[]⟩, 2) by unfold itemG; rw [if_pos h]]
      exact ⟨0, fun e => by simp at e, fun w => take1_short s w hs2 h⟩
    · rw [show itemG 1 (widthN 1) s = (⟨1, Lib.beNat (s.extract 0 1).data.toList, ⟨#[]⟩⟩, s.extract 1 s.size, 0) by unfold itemG; rw [if_neg h]; rfl]
      have h1 : 1 ≤ s.size := by have : widthN 1 = 1 := rfl; omega
      exact ⟨1, fun _ => ⟨h1, rfl⟩, fun w => take1_ok s w hs2 h1⟩
  · by_cases h : s.size < widthN 2
    · rw [show itemG 2 (widthN 2) s = (It.zero, ⟨#[]⟩, 2) by unfold itemG; rw [if_pos h]]
      exact ⟨0, fun e => by simp at e, fun w => take2_short s w hs2 h⟩
    · rw [show itemG 2 (widthN 2) s = (⟨2, Lib.beNat (s.extract 0 4).data.toList, ⟨#[]⟩⟩, s.extract 4 s.size, 0) by unfold itemG; rw [if_neg h]; rfl]
      have h1 : 4 ≤ s.size := by have : widthN 2 = 4 := rfl; omega
      exact ⟨4, fun _ => ⟨h1, rfl⟩, fun w => take2_ok s w hs2 h1⟩
  · by_cases h : s.size < widthN 3
    · rw [show itemG 3 (widthN 3) s = (It.zero, ⟨#[]⟩, 2) by unfold itemG; rw [if_pos h]]
      exact ⟨0, fun e => by simp at e, fun w => take3_short s w hs2 h⟩
    · rw [show itemG 3 (widthN 3) s = (⟨3, Lib.beNat (s.extract 0 8).data.toList, ⟨#[]⟩⟩, s.extract 8 s.size, 0) by unfold itemG; rw [if_neg h]; rfl]
      have h1 : 8 ≤ s.size := by have : widthN 3 = 8 := rfl; omega
      exact ⟨8, fun _ => ⟨h1, rfl⟩, fun w => take3_ok s w hs2 h1⟩
  · by_cases h : s.size < widthN 4
    · rw [show itemG 4 (widthN 4) s = (It.zero, ⟨#[]⟩, 2) by unfold itemG; rw [if_pos h]]
      exact ⟨0, fun e => by simp at e, fun w => take4_short s w hs2 h⟩
    · have h4 : 4 ≤ s.size := by have : widthN 4 = 4 := rfl; omega
      obtain ⟨m, hm⟩ : ∃ m, Lib.beNat (s.extract 0 4).data.toList = m := ⟨_, rfl⟩
      have hg : itemG 4 (widthN 4) s = textG m (s.extract 4 s.size) := by unfold itemG; rw [if_neg h, if_pos rfl, ← hm]; rfl
      have hz : (s.extract 4 s.size).size = s.size - 4 := by simp
      rw [hg]
      by_cases h5 : 100000 < m
      · rw [show textG m (s.extract 4 s.size) = (It.zero, ⟨#[]⟩, 3) by unfold textG; rw [if_pos h5]]
        exact ⟨0, fun e => by simp at e, fun w => take4_long s w hs2 m h4 hm h5⟩
      · by_cases h6 : s.size < 4 + m
        · rw [show textG m (s.extract 4 s.size) = (It.zero, ⟨#[]⟩, 2) by unfold textG; rw [if_neg h5, if_pos (by omega)]]
          exact ⟨0, fun e => by simp at e, fun w => take4_torn s w hs2 m h4 hm (by omega) h6⟩
        · rw [show textG m (s.extract 4 s.size) = (⟨4, 0, s.extract 4 (4 + m)⟩, s.extract (4 + m) s.size, 0) by unfold textG; rw [if_neg h5, if_neg (by omega), ext_sub s m (by omega), ext_tail s m]]
          exact ⟨4 + m, fun _ => ⟨by omega, rfl⟩, fun w => take4_ok s w hs2 m hm (by omega) (by omega)⟩

end Go.Proofs.Ytnbomaalncjkeaa
