import Derived.Test.YtoolbbibnegdnaaGreatDoorRows
import Derived.Test.YtoolbbibnegdnaaGreatDoorZKShelf
import Derived.Test.YtoolbbibnegdnaaGreatDoorZGA
import Derived.WalkKit
import Derived.WalkSpells
import Derived.WalkLawsBesides
import Derived.BigQuiet
import Derived.Lib.EndianBits
import Derived.Lib.IndexBytes
namespace Go.Proofs.YtoolbbibnegdnaaGreatDoor.K
open Go.RowKit

set_option maxHeartbeats 400000 in
theorem width_any (k : Int) (w : World) :
    Calls Tryz.prog 61 #[.int .i64 k] w fun e w' => e = .returned (.int .i64 (widthN k)) ∧ w' = w := by
  by_cases h1 : k = 1
  · subst h1
    go_enter Tryz.func61, Tryz.ntmps61
    go_wp2
    go_ret
    exact ⟨rfl, rfl⟩
  · by_cases h3 : k = 3
    · subst h3
      go_enter Tryz.func61, Tryz.ntmps61
      go_wp2
      go_ret
      exact ⟨rfl, rfl⟩
    · have a1 : (k == 1) = false := beq_eq_false_iff_ne.2 h1
      have a3 : (k == 3) = false := beq_eq_false_iff_ne.2 h3
      have hw : widthN k = 4 := by simp [widthN, h1, h3]
      rw [hw]
      clear hw h1 h3
      go_enter Tryz.func61, Tryz.ntmps61
      go_wp2
      go_ret
      exact ⟨rfl, rfl⟩

set_option maxHeartbeats 400000 in
theorem isKind_any (k : Int) (w : World) :
    Calls Tryz.prog 82 #[.int .i64 k] w fun e w' => e = .returned (.bool (kindB k)) ∧ w' = w := by
  by_cases h1 : 1 ≤ k
  · by_cases h2 : k ≤ 4
    · have hk : kindB k = true := by simp [kindB, h1, h2]
      rw [hk]
      clear hk
      go_enter Tryz.func82, Tryz.ntmps82
      go_wp2
      go_ret
      exact ⟨rfl, rfl⟩
    · have hk : kindB k = false := by simp [kindB, h2]
      rw [hk]
      clear hk
      go_enter Tryz.func82, Tryz.ntmps82
      go_wp2
      go_ret
      exact ⟨rfl, rfl⟩
  · have hk : kindB k = false := by simp [kindB, h1]
    rw [hk]
    clear hk
    go_enter Tryz.func82, Tryz.ntmps82
    go_wp2
    go_ret
    exact ⟨rfl, rfl⟩

theorem ret_bool {a b : Bool} (h : a = b) : Ending.returned (.bool a) = .returned (.bool b) := by rw [h]
theorem ret_int {k : IntKind} {a b : Int} (h : a = b) : Ending.returned (.int k a) = .returned (.int k b) := by rw [h]

theorem fit1 (n : Int) (h0 : 0 ≤ n) : (n / 256 == 0) = decide (n < 256) := by
  rw [Bool.eq_iff_iff]; simp; omega
theorem fit4 (n : Int) (h0 : 0 ≤ n) : (n / 4294967296 == 0) = decide (n < 4294967296) := by
  rw [Bool.eq_iff_iff]; simp; omega

theorem fit8 (n : Int) (h0 : 0 ≤ n) : (n / 18446744073709551616 == 0) = decide (n < 256 ^ 8) := by
  have e : (256 : Int) ^ 8 = 18446744073709551616 := by decide
  rw [e, Bool.eq_iff_iff]; simp; omega

set_option maxHeartbeats 400000 in
theorem fits_any (n : Int) (k : Nat) (w : World) (h0 : 0 ≤ n) (hk : k = 1 ∨ k = 4 ∨ k = 8) :
    Calls Tryz.prog 83 #[.int .u64 n, .int .i64 k] w fun e w' => e = .returned (.bool (decide (n < 256 ^ k))) ∧ w' = w := by
  rcases hk with rfl | rfl | rfl
  · go_enter Tryz.func83, Tryz.ntmps83
    go_wp2
    go_ret
    exact ⟨ret_bool (fit1 n h0), rfl⟩
  · go_enter Tryz.func83, Tryz.ntmps83
    go_wp2
    go_ret
    exact ⟨ret_bool (fit4 n h0), rfl⟩
  · go_enter Tryz.func83, Tryz.ntmps83
    go_wp2
    go_ret
    exact ⟨ret_bool (fit8 n h0), rfl⟩

theorem or_byte (m : Nat) (c : UInt8) (h : (m : Int) < 72057594037927936) : bits .or .u64 ((m : Int) * 256) (IntKind.u64.wrap (c.toNat : Int)) = ((m * 256 + c.toNat : Nat) : Int) := by
  have hc := c.toNat_lt
  have hw : IntKind.u64.wrap (c.toNat : Int) = (c.toNat : Int) := wraps_u64 _ (by omega) (by omega)
  rw [hw, bits_join .u64 64 (by decide) wraps_u64 8 ((m : Int) * 256) (c.toNat : Int) (by omega) (by omega) (by omega) (by omega) (by omega) (by omega)]
  omega

theorem take_snoc (s : ByteArray) (k : Nat) (h : k < s.size) : s.data.toList.take (k + 1) = s.data.toList.take k ++ [s[k]] := by
  rw [List.take_succ_eq_append_getElem (by simpa using h)]; rfl

set_option maxHeartbeats 400000 in
theorem number_any (s : ByteArray) (w : World) (hs : s.size ≤ 8) :
    Calls Tryz.prog 99 #[.string s] w fun e w' => e = .returned (.int .u64 (Lib.beNat s.data.toList)) ∧ w' = w := by
  go_enter Tryz.func99, Tryz.ntmps99
  go_wp2
  go_loop [3, 7] (fun n i => ∃ k : Nat, k ≤ s.size ∧ i = .int .i64 k ∧ n = .int .u64 (Lib.beNat (s.data.toList.take k))) (fun _ i => s.size - (intOf i).toNat)
  case atStart => exact ⟨0, Nat.zero_le _, rfl, rfl⟩
  case round =>
    obtain ⟨k, hk, rfl, rfl⟩ := hrel
    by_cases hlt : k < s.size
    · have hb : Lib.beNat (s.data.toList.take k) < 256 ^ 7 := by
        refine Nat.lt_of_lt_of_le (beNat_lt _) (Nat.pow_le_pow_right (by omega) ?_)
        have := List.length_take_le k s.data.toList
        omega
      have hts := take_snoc s k hlt
      have HS : Hid (Lib.beNat (s.data.toList.take (k + 1)) = Lib.beNat (s.data.toList.take k) * 256 + s[k].toNat) := by rw [hts]; exact beNat_snoc _ _
      clear hts
      generalize Lib.beNat (s.data.toList.take k) = m at hb HS ⊢
      have hb' : (m : Int) < 72057594037927936 := by omega
      clear hb
      go_wp2
      go_round
      case rel => exact ⟨k + 1, by omega, by go_num, by rw [HS.out, or_byte m _ hb']⟩
      case measure => simp [intOf]; omega
    · go_wp2
      go_ret
      exact ⟨ret_int (by rw [List.take_of_length_le (by simp; omega)]), rfl⟩

theorem kindOfL_ge (c : UInt8) : 0 ≤ kindOfL c := by
  unfold kindOfL
  have := Lib.indexByte_ge letters c
  omega
theorem kindOfL_le (c : UInt8) : kindOfL c ≤ 4 := by
  unfold kindOfL letters
  simp only [Lib.indexByte]
  repeat' split
  all_goals simp_all
theorem isLetter_iff (c : UInt8) : isLetter c = decide (1 ≤ kindOfL c) := by
  unfold isLetter kindOfL
  rw [Bool.eq_iff_iff]; simp; omega

theorem allL_append (a b : List UInt8) : allL (a ++ b) = (allL a && allL b) := by simp [allL]

theorem u8_back (c : UInt8) : ((c.toNat : Int)).toNat.toUInt8 = c := by simp

theorem letterIdx (c : UInt8) (w : World) :
    Calls Tryz.prog 97 #[.string { data := #[98, 119, 108, 116] }, .int .u8 (c.toNat : Int)] w fun e w' => e = .returned (.int .i64 (kindOfL c - 1)) ∧ w' = w := by
  refine (Tryz.IndexByte _ _ _).mono ?_
  rintro e w' ⟨rfl, rfl⟩
  refine ⟨ret_int ?_, rfl⟩
  rw [u8_back]
  unfold kindOfL
  show Lib.indexByte [98, 119, 108, 116] c = Lib.indexByte letters c + 1 - 1
  unfold letters
  omega

set_option maxHeartbeats 400000 in
theorem allLetters_any (s : ByteArray) (w : World) (hs : s.size ≤ maxLen) :
    Calls Tryz.prog 78 #[.string s] w fun e w' => e = .returned (.bool (allL s.data.toList)) ∧ w' = w := by
  unfold maxLen at hs
  go_enter Tryz.func78, Tryz.ntmps78
  go_wp2
  go_loop [6] (fun i => ∃ k : Nat, k ≤ s.size ∧ i = .int .i64 k ∧ allL (s.data.toList.take k) = true) (fun i => s.size - (intOf i).toNat)
  case atStart => exact ⟨0, Nat.zero_le _, rfl, rfl⟩
  case round =>
    obtain ⟨k, hk, rfl, hall⟩ := hrel
    have HA : Hid (allL (s.data.toList.take k) = true) := hall
    clear hall
    by_cases hlt : k < s.size
    · have hts := take_snoc s k hlt
      have HS : Hid (s.data.toList.take (k + 1) = s.data.toList.take k ++ [s[k]]) := hts
      clear hts
      by_cases hl : 1 ≤ kindOfL s[k]
      · go_wp2_with (go_at_call 97; refine (letterIdx _ _).mono ?_; rintro e w' ⟨rfl, rfl⟩)
        go_round
        case rel => exact ⟨k + 1, by omega, by go_num, by rw [HS.out, allL_append, HA.out]; simp [allL, isLetter_iff, hl]⟩
        case measure => simp [intOf]; omega
      · go_wp2_with (go_at_call 97; refine (letterIdx _ _).mono ?_; rintro e w' ⟨rfl, rfl⟩)
        go_ret
        refine ⟨ret_bool ?_, rfl⟩
        have hm : s[k] ∈ s.data.toList := by
          have : s.data.toList.take (k + 1) ⊆ s.data.toList := List.take_subset _ _
          exact this (by rw [HS.out]; simp)
        symm
        rw [allL, List.all_eq_false]
        exact ⟨s[k], hm, by simp [isLetter_iff, hl]⟩
    · go_wp2
      go_ret
      refine ⟨ret_bool ?_, rfl⟩
      have := HA.out
      rw [List.take_of_length_le (by simp; omega)] at this
      exact this.symm

end Go.Proofs.YtoolbbibnegdnaaGreatDoor.K
