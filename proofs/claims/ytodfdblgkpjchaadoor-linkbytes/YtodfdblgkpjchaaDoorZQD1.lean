/-
  The program's shift, More and Sum, as they run.
-/
import Derived.Test.YtodfdblgkpjchaaDoorZQC1
import Derived.Test.YtodfdblgkpjchaaDoorZGB
namespace Go.Proofs.YtodfdblgkpjchaaDoor
open Go.RowKit

/-- The table is there. -/
def Tab (w : World) : Prop := ∀ i, i < 16 → w.cell? ⟨1, i, none⟩ = some (.int .u32 ((tab4 i : Nat) : Int))

theorem and15 (x : Nat) (h : x < 2 ^ 32) : bits .and .u32 (x : Int) 15 = ((x % 16 : Nat) : Int) := by
  have := u32_and_nat x 15 h (by decide)
  refine this.trans ?_
  rw [show (15 : Nat) = 2 ^ 4 - 1 from rfl, Nat.and_two_pow_sub_one_eq_mod]
/-- What the walk asks of one half: the place in the table, what stands there, what comes out. -/
theorem half_facts (x : Nat) (h : x < 2 ^ 32) (w : World) (hT : Tab w) :
    ∃ i t y : Nat, i < 16 ∧ bits .and .u32 (x : Int) 15 = ((i : Nat) : Int) ∧ w.cell? ⟨1, i, none⟩ = some (.int .u32 ((t : Nat) : Int)) ∧ bits .xor .u32 ((x : Int) / 16) ((t : Nat) : Int) = ((y : Nat) : Int) ∧ y < 2 ^ 32 ∧ y = halfF x :=
  ⟨x % 16, tab4 (x % 16), halfF x, by omega, and15 x h, hT _ (by omega), by
    have e : (x : Int) / 16 = ((x / 16 : Nat) : Int) := by omega
    rw [e]
    exact u32_xor_nat (x / 16) _ (by omega) (tab4_lt _ (by omega)), halfF_lt x h, rfl⟩

set_option maxHeartbeats 1000000 in
set_option maxRecDepth 100000 in
theorem shift_any (v : Nat) (s : ByteArray) (w : World) (hv : v < 2 ^ 32) (_h63 : s.size ≤ 9223372036854775807) (hT : Tab w) :
    Calls Tryd.prog 72 #[.int .u32 v, .string s] w fun e w' => e = .returned (.int .u32 (crcF v s.data.toList)) ∧ w' = w := by
  go_enter Tryd.func72, Tryd.ntmps72
  go_wp2
  go_loop [0, 8] (fun v' i => ∃ k : Nat, k ≤ s.size ∧ i = .int .i64 k ∧ v' = .int .u32 ((crcF v (s.data.toList.take k) : Nat) : Int)) (fun _ i => s.size - (intOf i).toNat)
  case atStart => exact ⟨0, Nat.zero_le _, rfl, rfl⟩
  case round =>
    obtain ⟨k, hk, rfl, rfl⟩ := hrel
    have hv0 : crcF v (s.data.toList.take k) < 2 ^ 32 := crcF_lt _ _ hv
    by_cases hlt : k < s.size
    · have HN : Hid (crcF v (s.data.toList.take (k + 1)) = byteF (crcF v (s.data.toList.take k)) s[k]) := by rw [take_snoc s k hlt, crcF_append]; rfl
      generalize crcF v (s.data.toList.take k) = v0 at *
      have hx : bits .xor .u32 (v0 : Int) ((s[k].toNat : Int) % 4294967296) = ((v0 ^^^ s[k].toNat : Nat) : Int) := by
        have h8 := s[k].toNat_lt
        have e : (s[k].toNat : Int) % 4294967296 = (s[k].toNat : Int) := by omega
        rw [e]
        exact u32_xor_nat v0 _ hv0 (by omega)
      have hxl : v0 ^^^ s[k].toNat < 2 ^ 32 := xor_lt hv0 (Nat.lt_trans s[k].toNat_lt (by decide))
      have HB := hide (byteF_half v0 s[k])
      generalize v0 ^^^ s[k].toNat = x at *
      obtain ⟨i, t, y, hi, ha, hc, hy, hyl, hyx⟩ := half_facts x hxl w hT
      have HY := hide hyx
      clear hyx
      obtain ⟨i2, t2, y2, hi2, ha2, hc2, hy2, hyl2, hyx2⟩ := half_facts y hyl w hT
      have HY2 := hide hyx2
      clear hyx2 hT
      go_wp2
      exact ⟨⟨k + 1, by omega, by go_num, by rw [HN.out, HB.out, ← HY.out, ← HY2.out]⟩, by simp [intOf]; omega⟩
    · have e : s.data.toList.take k = s.data.toList := List.take_of_length_le (by simp; omega)
      rw [e] at hv0 ⊢
      obtain ⟨v3, hm⟩ : ∃ v3, crcF v s.data.toList = v3 := ⟨_, rfl⟩
      have HM := hide hm
      rw [hm] at hv0 ⊢
      clear hm
      go_wp2
      go_ret
      exact ⟨ret_u32 (by rw [HM.out]), rfl⟩

theorem turned (a : Nat) (h : a < 2 ^ 32) : bits .xor .u32 IntKind.u32.max (a : Int) = ((a ^^^ ones : Nat) : Int) := by
  rw [Nat.xor_comm]
  exact u32_xor_nat 4294967295 a (by decide) h

set_option maxHeartbeats 400000 in
theorem more_any (sum : Nat) (s : ByteArray) (w : World) (hs : sum < 2 ^ 32) (h63 : s.size ≤ 9223372036854775807) (hT : Tab w) :
    Calls Tryd.prog 58 #[.int .u32 sum, .string s] w fun e w' => e = .returned (.int .u32 (moreF sum s.data.toList)) ∧ w' = w := by
  have hl : sum ^^^ ones < 2 ^ 32 := xor_lt hs (by decide)
  have HS : Hid (Calls Tryd.prog 72 #[.int .u32 ((sum ^^^ ones : Nat) : Int), .string s] w fun e w' => e = .returned (.int .u32 (crcF (sum ^^^ ones) s.data.toList)) ∧ w' = w) := shift_any _ s w hl h63 hT
  have hx : bits .xor .u32 IntKind.u32.max (sum : Int) = ((sum ^^^ ones : Nat) : Int) := turned sum hs
  have hc := crcF_lt _ s.data.toList hl
  have hy : bits .xor .u32 IntKind.u32.max ((crcF (sum ^^^ ones) s.data.toList : Nat) : Int) = ((moreF sum s.data.toList : Nat) : Int) := turned _ hc
  clear hT
  generalize moreF sum s.data.toList = m at *
  generalize crcF (sum ^^^ ones) s.data.toList = c at *
  generalize sum ^^^ ones = x at *
  go_enter Tryd.func58, Tryd.ntmps58
  go_wp2_with fail
  refine HS.out.mono ?_
  rintro e w' ⟨rfl, rfl⟩
  go_wp2_with fail
  go_wp2_with fail
  go_ret
  exact ⟨rfl, rfl⟩

set_option maxHeartbeats 400000 in
theorem sum_any (s : ByteArray) (w : World) (h63 : s.size ≤ 9223372036854775807) (hT : Tab w) :
    Calls Tryd.prog 59 #[.string s] w fun e w' => e = .returned (.int .u32 (sumF s.data.toList)) ∧ w' = w := by
  have HM : Hid (Calls Tryd.prog 58 #[.int .u32 0, .string s] w fun e w' => e = .returned (.int .u32 (sumF s.data.toList)) ∧ w' = w) := more_any 0 s w (by decide) h63 hT
  clear hT
  generalize sumF s.data.toList = m at *
  go_enter Tryd.func59, Tryd.ntmps59
  go_wp2_with (go_at_call 58; refine HM.out.mono ?_; rintro e w' ⟨rfl, rfl⟩)
  go_ret
  exact ⟨rfl, rfl⟩

end Go.Proofs.YtodfdblgkpjchaaDoor
