/-
  The document's own sum, as it runs.
-/
import Derived.Test.YtodfdblgkpjchaaDoorProg
import Derived.Test.YtodfdblgkpjchaaDoorZGB
import Derived.WalkKit
import Derived.WalkSpells
import Derived.WalkLawsBesides
import Derived.BigQuiet
import Derived.Lib.EndianBits
import Derived.Laws.BitsAll
namespace Go.Proofs.YtodfdblgkpjchaaDoor
open Go.RowKit

theorem hide {p : Prop} (h : p) : Hid p := h

theorem bitsF_snoc (k v c : Nat) : bitsF (k + 1) v c = bitF (bitsF k v c) (c / 2 ^ k % 2) := by
  induction k generalizing v c with
  | zero => simp [bitsF]
  | succ k ih =>
    show bitsF (k + 1) (bitF v (c % 2)) (c / 2) = bitF (bitsF k (bitF v (c % 2)) (c / 2)) (c / 2 ^ (k + 1) % 2)
    rw [ih, Nat.div_div_eq_div_mul, ← Nat.pow_succ', Nat.succ_eq_add_one]

theorem bitF_lt (v b : Nat) (h : v < 2 ^ 32) : bitF v b < 2 ^ 32 := by
  unfold bitF
  split
  · exact xor_lt (by omega) poly_lt
  · omega
theorem bitsF_lt (k v c : Nat) (h : v < 2 ^ 32) : bitsF k v c < 2 ^ 32 := by
  induction k generalizing v c with
  | zero => exact h
  | succ k ih => exact ih _ _ (bitF_lt v _ h)

theorem bit_cond (c q v : Nat) : ((c : Int) / 2 ^ q % 2 != (v : Int) % 2) = decide (c / 2 ^ q % 2 ≠ v % 2) := by
  have e : ((c : Int) / 2 ^ q % 2) = ((c / 2 ^ q % 2 : Nat) : Int) := by
    rw [Int.natCast_emod, Int.natCast_ediv, Int.natCast_pow]; rfl
  rw [e, Bool.eq_iff_iff]
  simp only [bne_iff_ne, ne_eq, decide_eq_true_eq]
  omega
theorem bitF_one (v b : Nat) (h : b ≠ v % 2) (hv : v < 2 ^ 32) : bits .xor .u32 ((v : Int) / 2) 2197175160 = ((bitF v b : Nat) : Int) := by
  have e : (v : Int) / 2 = ((v / 2 : Nat) : Int) := by omega
  unfold bitF
  rw [if_pos h, e]
  exact u32_xor_nat (v / 2) 2197175160 (by omega) (by decide)
theorem bitF_two (v b : Nat) (h : ¬ b ≠ v % 2) : (v : Int) / 2 = ((bitF v b : Nat) : Int) := by
  unfold bitF
  rw [if_neg h]
  omega
theorem take_snoc (s : ByteArray) (k : Nat) (h : k < s.size) : s.data.toList.take (k + 1) = s.data.toList.take k ++ [s[k]] := by
  have hl : k < s.data.toList.length := by simpa using h
  have : s[k] = s.data.toList[k] := rfl
  rw [this, List.take_add_one, List.getElem?_eq_getElem hl]
  rfl
theorem ret_u32 {a b : Int} (h : a = b) : Ending.returned (.int .u32 a) = .returned (.int .u32 b) := by rw [h]

set_option maxHeartbeats 1000000 in
set_option maxRecDepth 100000 in
theorem rmore_any (sum : Nat) (s : ByteArray) (w : World) (hs : sum < 2 ^ 32) (_h63 : s.size ≤ 9223372036854775807) :
    Calls Tryd.prog 62 #[.int .u32 sum, .string s] w fun e w' => e = .returned (.int .u32 (moreF sum s.data.toList)) ∧ w' = w := by
  have hx : bits .xor .u32 (sum : Int) 4294967295 = ((sum ^^^ ones : Nat) : Int) := u32_xor_nat sum 4294967295 hs (by decide)
  go_enter Tryd.func62, Tryd.ntmps62
  go_wp2
  go_loop [5, 6] (fun v i => ∃ k : Nat, k ≤ s.size ∧ i = .int .i64 k ∧ v = .int .u32 ((crcF (sum ^^^ ones) (s.data.toList.take k) : Nat) : Int)) (fun _ i => s.size - (intOf i).toNat)
  case atStart => exact ⟨0, Nat.zero_le _, rfl, by first | rfl | (rw [hx]; rfl)⟩
  case round =>
    obtain ⟨k, hk, rfl, rfl⟩ := hrel
    have hv0 : crcF (sum ^^^ ones) (s.data.toList.take k) < 2 ^ 32 := crcF_lt _ _ (xor_lt hs (by decide))
    by_cases hlt : k < s.size
    · have HN : Hid (crcF (sum ^^^ ones) (s.data.toList.take (k + 1)) = byteF (crcF (sum ^^^ ones) (s.data.toList.take k)) s[k]) := by rw [take_snoc s k hlt, crcF_append]; rfl
      generalize crcF (sum ^^^ ones) (s.data.toList.take k) = v0 at *
      go_wp2
      go_loop [5, 7] (fun v j => ∃ q : Nat, q ≤ 8 ∧ j = .int .i64 q ∧ v = .int .u32 ((bitsF q v0 s[k].toNat : Nat) : Int)) (fun _ j => 8 - (intOf j).toNat)
      case atStart => exact ⟨0, by omega, rfl, rfl⟩
      case round =>
        obtain ⟨q, hq, rfl, rfl⟩ := hrel
        by_cases hq8 : q < 8
        · have hv1 := bitsF_lt q v0 s[k].toNat hv0
          have HB := hide (bitsF_snoc q v0 s[k].toNat)
          generalize bitsF q v0 s[k].toNat = v1 at *
          have hc := bit_cond s[k].toNat q v1
          by_cases hb : s[k].toNat / 2 ^ q % 2 ≠ v1 % 2
          · rw [decide_eq_true hb] at hc
            have HR := hide (bitF_one v1 _ hb hv1)
            clear hb
            go_wp2
            exact ⟨⟨q + 1, by omega, by go_num, by rw [HB.out, HR.out]⟩, by simp [intOf]; omega⟩
          · rw [decide_eq_false hb] at hc
            have HR := hide (bitF_two v1 _ hb)
            clear hb
            go_wp2
            exact ⟨⟨q + 1, by omega, by go_num, by rw [HB.out, HR.out]⟩, by simp [intOf]; omega⟩
        · have h8 : q = 8 := by omega
          subst h8
          have HV : Hid (bitsF 8 v0 s[k].toNat = byteF v0 s[k]) := rfl
          generalize bitsF 8 v0 s[k].toNat = v2 at *
          go_wp2
          exact ⟨⟨k + 1, by omega, by go_num, by rw [HN.out, ← HV.out]⟩, by simp [intOf]; omega⟩
    · have e : s.data.toList.take k = s.data.toList := List.take_of_length_le (by simp; omega)
      rw [e] at hv0 ⊢
      have hy : bits .xor .u32 ((crcF (sum ^^^ ones) s.data.toList : Nat) : Int) 4294967295 = ((moreF sum s.data.toList : Nat) : Int) := u32_xor_nat _ 4294967295 hv0 (by decide)
      obtain ⟨m, hm⟩ : ∃ m, moreF sum s.data.toList = m := ⟨_, rfl⟩
      have HM := hide hm
      rw [hm] at hy
      clear hm
      generalize crcF (sum ^^^ ones) s.data.toList = v3 at *
      go_wp2
      go_ret
      exact ⟨ret_u32 (by rw [HM.out]), rfl⟩

set_option maxHeartbeats 400000 in
theorem rsum_any (s : ByteArray) (w : World) (h63 : s.size ≤ 9223372036854775807) :
    Calls Tryd.prog 43 #[.string s] w fun e w' => e = .returned (.int .u32 (sumF s.data.toList)) ∧ w' = w := by
  have HM : Hid (∀ w, Calls Tryd.prog 62 #[.int .u32 0, .string s] w fun e w' => e = .returned (.int .u32 (sumF s.data.toList)) ∧ w' = w) := fun w => rmore_any 0 s w (by decide) h63
  generalize sumF s.data.toList = m at *
  go_enter Tryd.func43, Tryd.ntmps43
  go_wp2_with (go_at_call 62; refine (HM.out _).mono ?_; rintro e w' ⟨rfl, rfl⟩)
  go_ret
  exact ⟨rfl, rfl⟩

end Go.Proofs.YtodfdblgkpjchaaDoor
